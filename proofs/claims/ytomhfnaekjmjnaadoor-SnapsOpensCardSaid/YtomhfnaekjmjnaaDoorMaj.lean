/- Laws that belong together: A disk that was made: what its readings answer. No condition. A disk that was made: its bytes that are safe; arming it. No condition.; A disk that was made: appending, syncing, resetting. No condition but the lengths' bounds.; A disk that was made: appending. No condition but the lengths' bounds. A disk that was made: syncing. No condition but the lengths' bounds. A disk that was made: resetting. No condition but the lengths' bounds. -/
import Derived.Test.YtomhfnaekjmjnaaDoorMad
import Derived.Test.YtomhfnaekjmjnaaDoorMac
import Derived.Lib.MinMax
import Derived.Test.YtomhfnaekjmjnaaDoorMab
namespace Go.Proofs.YtomhfnaekjmjnaaDoor
set_option linter.unusedVariables false
section
open Go.ChangeShapes Go.WideShapes Go.ChangeAt Go.RowKit
attribute [local go_sem ↓] Go.wp_at_zero Go.wp_at_succ comesTo_value_eq comesTo_skip_eq comesTo_enter_eq

theorem there_yes {w : World} {D : Nat} (h : w.cell? ⟨D, 11, none⟩ = some (.bool true)) : Calls Tryd.prog 47 #[.pointer (some ⟨D, 0, none⟩)] w fun e w' => e = .returned (.bool true) ∧ w = w' := by
  go_enter Tryd.func47, Tryd.ntmps47
  go_wp2
  go_ret
  exact ⟨rfl, rfl⟩
theorem has_any (f : Int) (w : World) : Calls Tryd.prog 69 #[.int .i64 f] w fun e w' => e = .returned (.bool (decide (0 ≤ f ∧ f ≤ 3))) ∧ w = w' := by
  rcases (by omega : 0 ≤ f ∧ f ≤ 3 ∨ ¬ 0 ≤ f ∨ 0 ≤ f ∧ ¬ f ≤ 3) with ⟨h1, h2⟩ | h1 | ⟨h1, h2⟩
  · have hq : decide (f ≥ 0) = true := decide_eq_true h1
    have hq2 : decide (f < 4) = true := decide_eq_true (by omega)
    go_enter Tryd.func69, Tryd.ntmps69
    go_wp2
    go_ret
    exact ⟨by simp [h1, h2]; try omega, rfl⟩
  · have hq : decide (f ≥ 0) = false := decide_eq_false h1
    go_enter Tryd.func69, Tryd.ntmps69
    go_wp2
    go_ret
    exact ⟨by simp [h1], rfl⟩
  · have hq : decide (f ≥ 0) = true := decide_eq_true h1
    have hq2 : decide (f < 4) = false := decide_eq_false (by omega)
    go_enter Tryd.func69, Tryd.ntmps69
    go_wp2
    go_ret
    exact ⟨by simp [h1, h2]; try omega, rfl⟩
/-- what any call of a file may meet -/
def wrongF (down : Bool) (f : Int) : Int := if down then 17 else if 0 ≤ f ∧ f ≤ 3 then 0 else 13
theorem wrong_yes {w : World} {D : Nat} {down : Bool} (h : w.cell? ⟨D, 11, none⟩ = some (.bool true)) (hd : w.cell? ⟨D, 10, none⟩ = some (.bool down)) (f : Int) :
    Calls Tryd.prog 51 #[.pointer (some ⟨D, 0, none⟩), .int .i64 f] w fun e w' => e = .returned (.int .i64 (wrongF down f)) ∧ w = w' := by
  have KT := Lib.hid (there_yes h)
  have KH := Lib.hid (has_any f w)
  clear h
  by_cases hf : 0 ≤ f ∧ f ≤ 3
  · have hq : decide (0 ≤ f ∧ f ≤ 3) = true := decide_eq_true hf
    have hr : ∀ b, wrongF b f = if b then 17 else 0 := fun b => by simp [wrongF, hf]
    have HF := Lib.hid hf
    clear hf
    cases down <;> rw [hr] <;> (
    go_enter Tryd.func51, Tryd.ntmps51
    go_wp2_with fail
    refine KT.out.mono ?_
    rintro e w' ⟨rfl, rfl⟩
    go_wp2_with (go_at_call 69; refine KH.out.mono ?_; rintro e w' ⟨rfl, rfl⟩)
    go_ret
    exact ⟨rfl, rfl⟩)
  · have hq : decide (0 ≤ f ∧ f ≤ 3) = false := decide_eq_false hf
    have hr : ∀ b, wrongF b f = if b then 17 else 13 := fun b => by simp [wrongF, hf]
    have HF := Lib.hid hf
    clear hf
    cases down <;> rw [hr] <;> (
    go_enter Tryd.func51, Tryd.ntmps51
    go_wp2_with fail
    refine KT.out.mono ?_
    rintro e w' ⟨rfl, rfl⟩
    go_wp2_with (go_at_call 69; refine KH.out.mono ?_; rintro e w' ⟨rfl, rfl⟩)
    go_ret
    exact ⟨rfl, rfl⟩)
theorem Dk.made {w : World} {D : Nat} {F : Nat → Prop} {st : DS} (h : Dk w D F st) : w.cell? ⟨D, 11, none⟩ = some (.bool true) := by
  obtain ⟨_, _, _, _, v, lf, ar, hb, _⟩ := h
  exact cell_of_block hb rfl
theorem Dk.isDown {w : World} {D : Nat} {F : Nat → Prop} {st : DS} (h : Dk w D F st) : w.cell? ⟨D, 10, none⟩ = some (.bool st.down) := by
  obtain ⟨_, _, _, _, v, lf, ar, hb, _⟩ := h
  exact cell_of_block hb rfl
theorem wrong_dk {w : World} {D : Nat} {F : Nat → Prop} {st : DS} (h : Dk w D F st) (f : Int) : Calls Tryd.prog 51 #[.pointer (some ⟨D, 0, none⟩), .int .i64 f] w fun e w' => e = .returned (.int .i64 (wrongF st.down f)) ∧ w = w' :=
  wrong_yes h.made h.isDown f
/-- what a reading leaves: a row of the call's own -/
def ReadEnd (w : World) (code : Int) (xs : List Int) (e : Ending) (w' : World) : Prop := ∃ u, e = .returned (.tuple #[u, .int .i64 code]) ∧ OwnTxt w' w.heap.size u (if code = 0 then xs else []) ∧ Below w.heap.size w w' ∧ w.grownBy w' none
theorem Dk.row {w : World} {D : Nat} {F : Nat → Prop} {st : DS} (h : Dk w D F st) (k : Nat) (hk : k < 4) : ∃ v, w.cell? ⟨D, 2 * k, none⟩ = some v ∧ OwnTxt w 0 v (st.b k) ∧ w.cell? ⟨D, 2 * k + 1, none⟩ = some (.int .i64 (st.s k)) := by
  obtain ⟨_, _, _, _, v, lf, ar, hb, hr, _⟩ := h
  refine ⟨v k, ?_, hr.own k hk, ?_⟩
  · rcases (by omega : k = 0 ∨ k = 1 ∨ k = 2 ∨ k = 3) with rfl | rfl | rfl | rfl <;> exact cell_of_block hb rfl
  · rcases (by omega : k = 0 ∨ k = 1 ∨ k = 2 ∨ k = 3) with rfl | rfl | rfl | rfl <;> exact cell_of_block hb rfl
theorem read_dk {w : World} {D : Nat} {F : Nat → Prop} {st : DS} (h : Dk w D F st) (f : Int) :
    Calls Tryd.prog 24 #[.pointer (some ⟨D, 0, none⟩), .int .i64 f] w fun e w' => ReadEnd w (wrongF st.down f) (st.b f.toNat) e w' := by
  have K := Lib.hid (wrong_dk h f)
  have H := Lib.hid h
  by_cases hw : wrongF st.down f = 0
  · have hf : 0 ≤ f ∧ f ≤ 3 := by
      unfold wrongF at hw
      split at hw
      · cases hw
      · split at hw
        · assumption
        · cases hw
    obtain ⟨k, rfl⟩ : ∃ k : Nat, f = (k : Int) := ⟨f.toNat, by omega⟩
    have hk : k < 4 := by omega
    obtain ⟨v, hv, ho, _⟩ := h.row k hk
    have KC := Lib.hid (clone_bytes ho.at (by have := h.fits k hk; omega))
    rw [hw] at K ⊢
    clear hw hf ho
    clear h
    have hk2 : ((k : Int)).toNat = k := by omega
    rcases (by omega : k = 0 ∨ k = 1 ∨ k = 2 ∨ k = 3) with rfl | rfl | rfl | rfl <;> (
    go_enter Tryd.func24, Tryd.ntmps24
    go_wp2_with fail
    refine K.out.mono ?_
    rintro e w' ⟨rfl, rfl⟩
    simp only [Nat.reduceMul, Nat.reduceAdd] at hv
    go_wp2_with fail
    refine KC.out.mono ?_
    rintro e w' ⟨u, rfl, o, b, g⟩
    go_wp2_with fail
    go_ret2
    exact ⟨u, rfl, o, b, g⟩)
  · clear h
    have hne : ¬ (wrongF st.down f = 0) := hw
    generalize wrongF st.down f = q at *
    go_enter Tryd.func24, Tryd.ntmps24
    go_wp2_with fail
    refine K.out.mono ?_
    rintro e w' ⟨rfl, rfl⟩
    go_wp2_with fail
    go_ret2
    exact ⟨_, rfl, by rw [if_neg hne]; exact OwnTxt.nil, Below.refl _ _, World.grownBy.refl _ _⟩
end
section
open Go.ChangeShapes Go.WideShapes Go.ChangeAt Go.RowKit
attribute [local go_sem ↓] Go.wp_at_zero Go.wp_at_succ comesTo_value_eq comesTo_skip_eq comesTo_enter_eq

def safeF (f : Int) : Int := if 0 ≤ f ∧ f ≤ 3 then 0 else 13
theorem arm_dk {w : World} {D : Nat} {F : Nat → Prop} {st : DS} (h : Dk w D F st) (n : Int) (hn : n ≤ 9223372036854775807) :
    Calls Tryd.prog 21 #[.pointer (some ⟨D, 0, none⟩), .int .i64 n] w fun e w' => e = .returned (.tuple #[]) ∧ Dk w' D F { st with left := max n (-1) } ∧ Fr F w w' := by
  have K := Lib.hid (there_yes h.made)
  obtain ⟨hm, hft, hsf, hl, v, lf, ar, hb, hr, hx⟩ := h
  have h1 := free_of_block 8 hb
  have h2 := free_of_block 9 hb
  have c1 : w.cell? ⟨D, 8, none⟩ = some (.int .i64 lf) := cell_of_block hb rfl
  have c2 : w.cell? ⟨D, 9, none⟩ = some (.bool ar) := cell_of_block hb rfl
  have HB := Lib.hid hb
  have HL := Lib.hid hn
  clear hb hx hl
  by_cases hq : 0 ≤ n
  · have hd : decide (n ≥ 0) = true := decide_eq_true hq
    have HQ := Lib.hid hq
    clear hq
    go_enter Tryd.func21, Tryd.ntmps21
    go_wp2_with (go_at_call 47; refine K.out.mono ?_; rintro e w' ⟨rfl, rfl⟩)
    go_end0
    have q := HQ.out
    have l := HL.out
    refine ⟨rfl, ⟨hm, hft, hsf, ⟨by show -1 ≤ max n (-1); omega, by show max n (-1) ≤ _; omega⟩, v, n, true, ?_, ?_, .inl ⟨rfl, by show n = max n (-1); omega, .inl q⟩⟩, ((Fr.refl F w).set hm 8 _).set hm 9 _⟩
    · exact (((wrote_refl HB.out).set 8 (.int .i64 n)).set 9 (.bool true)).there
    · exact ⟨fun k hk => (hr.own k hk).of_block fun g hg => by
        rw [Below.heap_setCell _ _ _ _ (hr.foot k g hk hg).2, Below.heap_setCell _ _ _ _ (hr.foot k g hk hg).2], hr.foot, hr.apart⟩
  · have hd : decide (n ≥ 0) = false := decide_eq_false hq
    have HQ := Lib.hid hq
    clear hq
    go_enter Tryd.func21, Tryd.ntmps21
    go_wp2_with (go_at_call 47; refine K.out.mono ?_; rintro e w' ⟨rfl, rfl⟩)
    go_end0
    have q := HQ.out
    have l := HL.out
    refine ⟨rfl, ⟨hm, hft, hsf, ⟨by show -1 ≤ max n (-1); omega, by show max n (-1) ≤ _; omega⟩, v, n, false, ?_, ?_, .inr ⟨rfl, by show max n (-1) = -1; omega⟩⟩, ((Fr.refl F w).set hm 8 _).set hm 9 _⟩
    · exact (((wrote_refl HB.out).set 8 (.int .i64 n)).set 9 (.bool false)).there
    · exact ⟨fun k hk => (hr.own k hk).of_block fun g hg => by
        rw [Below.heap_setCell _ _ _ _ (hr.foot k g hk hg).2, Below.heap_setCell _ _ _ _ (hr.foot k g hk hg).2], hr.foot, hr.apart⟩
end
end Go.Proofs.YtomhfnaekjmjnaaDoor
namespace Go.Proofs.YtomhfnaekjmjnaaDoor
set_option linter.unusedVariables false
open Go.ChangeShapes Go.WideShapes Go.ChangeAt Go.RowKit
attribute [local go_sem ↓] Go.wp_at_zero Go.wp_at_succ comesTo_value_eq comesTo_skip_eq comesTo_enter_eq

def upd {α : Type} (f : Nat → α) (k : Nat) (x : α) : Nat → α := fun j => if j = k then x else f j
theorem upd_at {α : Type} (f : Nat → α) (k : Nat) (x : α) : upd f k x k = x := by simp [upd]
theorem upd_ne {α : Type} (f : Nat → α) {k j : Nat} (x : α) (h : j ≠ k) : upd f k x j = f j := by simp [upd, h]
/-- what a call that is done does: 0 Append, 1 Sync, 2 Reset -/
def DS.deed (st : DS) (q k : Nat) (xs : List Int) : DS :=
  match q with
  | 0 => { st with b := upd st.b k (st.b k ++ xs) }
  | 1 => { st with s := upd st.s k (st.b k).length }
  | _ => { st with b := upd st.b k [], s := upd st.s k 0 }
/-- a call: what it leaves, and what it tells -/
def callF (q : Nat) (st : DS) (f : Int) (xs : List Int) : DS × Int :=
  if wrongF st.down f ≠ 0 then (st, wrongF st.down f)
  else if 1048576 - ((st.b f.toNat).length : Int) < xs.length then (st, 15)
  else if st.left = 0 then ({ (if q = 0 then st.deed 0 f.toNat xs else st) with left := -1, down := true }, 17)
  else ({ st.deed q f.toNat xs with left := if 0 < st.left then st.left - 1 else st.left }, 0)
def CallEnd (q : Nat) (w : World) (D : Nat) (F : Nat → Prop) (st : DS) (f : Int) (xs : List Int) (e : Ending) (w' : World) : Prop :=
  e = .returned (.int .i64 (callF q st f xs).2) ∧ Dk w' D (fun j => F j ∨ w.heap.size ≤ j) (callF q st f xs).1 ∧ Fr F w w'
theorem own_set {w : World} {B : Nat} {v : Value} {xs : List Int} {D o : Nat} {u : Value} (h : OwnTxt w B v xs) (hne : ∀ g, v.ownBlock = some g → g ≠ D) : OwnTxt (w.setCell ⟨D, o, none⟩ u) B v xs :=
  h.of_block fun g hg => Below.heap_setCell _ _ _ _ (hne g hg)
theorem DRows.keep {w w' : World} {D : Nat} {F : Nat → Prop} {v : Nat → Value} {b : Nat → List Int} (h : DRows w D F v b) (hb : ∀ j, j < w.heap.size → j ≠ D → w'.heap[j]? = w.heap[j]?) : DRows w' D (fun j => F j ∨ w.heap.size ≤ j) v b :=
  ⟨fun k hk => (h.own k hk).of_block fun g hg => hb g (ownBlock_lt (h.own k hk) hg) (h.foot k g hk hg).2, fun k g hk hg => ⟨.inl (h.foot k g hk hg).1, (h.foot k g hk hg).2⟩, h.apart⟩
theorem DRows.updRow {w w' : World} {D : Nat} {F : Nat → Prop} {v : Nat → Value} {b : Nat → List Int} (h : DRows w D F v b) {k : Nat} (hk : k < 4) {u : Value} {xs : List Int} (hD : D < w.heap.size)
    (hb : ∀ j, j < w.heap.size → j ≠ D → some j ≠ (v k).ownBlock → w'.heap[j]? = w.heap[j]?) (hu : OwnTxt w' 0 u xs) (hub : ∀ g, u.ownBlock = some g → (v k).ownBlock = some g ∨ w.heap.size ≤ g) :
    DRows w' D (fun j => F j ∨ w.heap.size ≤ j) (upd v k u) (upd b k xs) := by
  refine ⟨fun j hj => ?_, fun j g hj hg => ?_, fun j i g hj hi hne hg hc => ?_⟩
  · by_cases hjk : j = k
    · subst hjk; rw [upd_at, upd_at]; exact hu
    · rw [upd_ne _ _ hjk, upd_ne _ _ hjk]
      refine (h.own j hj).of_block fun g hg => hb g (ownBlock_lt (h.own j hj) hg) (h.foot j g hj hg).2 fun e => ?_
      exact h.apart j k g hj hk (Ne.symm hjk) hg e.symm
  · by_cases hjk : j = k
    · subst hjk
      rw [upd_at] at hg
      rcases hub g hg with h1 | h1
      · exact ⟨.inl (h.foot j g hj h1).1, (h.foot j g hj h1).2⟩
      · exact ⟨.inr h1, by omega⟩
    · rw [upd_ne _ _ hjk] at hg
      exact ⟨.inl (h.foot j g hj hg).1, (h.foot j g hj hg).2⟩
  · by_cases hjk : j = k
    · subst hjk
      rw [upd_at] at hg
      rw [upd_ne _ _ hne] at hc
      rcases hub g hg with h1 | h1
      · exact h.apart j i g hj hi hne h1 hc
      · have := ownBlock_lt (h.own i hi) hc; omega
    · rw [upd_ne _ _ hjk] at hg
      by_cases hik : i = k
      · subst hik
        rw [upd_at] at hc
        rcases hub g hc with h1 | h1
        · exact h.apart j i g hj hi hne hg h1
        · have := ownBlock_lt (h.own j hj) hg; omega
      · rw [upd_ne _ _ hik] at hc
        exact h.apart j i g hj hi hne hg hc
theorem there_down {w : World} {D : Nat} {v : Nat → Value} {s : Nat → Nat} {lf : Int} {ar d : Bool} (hd : d = false) (h : w.heap[D]? = some (.cells (dkCells v s lf ar false) 108 (0, 0))) : w.heap[D]? = some (.cells (dkCells v s lf ar d) 108 (0, 0)) := hd ▸ h
theorem callF_wrong {q : Nat} {st : DS} {f : Int} {xs : List Int} (h : wrongF st.down f ≠ 0) : callF q st f xs = (st, wrongF st.down f) := by unfold callF; rw [if_pos h]
theorem callF_full {q : Nat} {st : DS} {k : Nat} {xs : List Int} (h : wrongF st.down k = 0) (h2 : 1048576 - ((st.b k).length : Int) < xs.length) : callF q st k xs = (st, 15) := by
  unfold callF; rw [if_neg (by simp [h]), if_pos (by simpa using h2)]
theorem callF_downs {q : Nat} {st : DS} {k : Nat} {xs : List Int} (h : wrongF st.down k = 0) (h2 : ¬ 1048576 - ((st.b k).length : Int) < xs.length) (h3 : st.left = 0) : callF q st k xs = ({ (if q = 0 then st.deed 0 k xs else st) with left := -1, down := true }, 17) := by
  unfold callF; rw [if_neg (by simp [h]), if_neg (by simpa using h2), if_pos h3]; rfl
theorem callF_done {q : Nat} {st : DS} {k : Nat} {xs : List Int} (h : wrongF st.down k = 0) (h2 : ¬ 1048576 - ((st.b k).length : Int) < xs.length) (h3 : ¬ st.left = 0) : callF q st k xs = ({ st.deed q k xs with left := if 0 < st.left then st.left - 1 else st.left }, 0) := by
  unfold callF; rw [if_neg (by simp [h]), if_neg (by simpa using h2), if_neg h3]; rfl
theorem wrongF_zero {d : Bool} {f : Int} (h : wrongF d f = 0) : d = false ∧ 0 ≤ f ∧ f ≤ 3 := by
  unfold wrongF at h
  split at h
  · cases h
  · split at h
    · rename_i h1 h2; exact ⟨by simpa using h1, h2⟩
    · cases h
theorem Dk.same {w : World} {D : Nat} {F : Nat → Prop} {st : DS} (h : Dk w D F st) : Dk w D (fun j => F j ∨ w.heap.size ≤ j) st := h.more fun j hj => .inl hj
end Go.Proofs.YtomhfnaekjmjnaaDoor
namespace Go.Proofs.YtomhfnaekjmjnaaDoor
set_option linter.unusedVariables false
section
open Go.ChangeShapes Go.WideShapes Go.ChangeAt Go.RowKit
attribute [local go_sem ↓] Go.wp_at_zero Go.wp_at_succ comesTo_value_eq comesTo_skip_eq comesTo_enter_eq

set_option maxRecDepth 100000 in
set_option maxHeartbeats 4000000 in
theorem call0_dk {w : World} {D : Nat} {F : Nat → Prop} {st : DS} (h : Dk w D F st) (f : Int) (ad : Option Addr) (n c : Nat) (xs : List Int) (hn : n = xs.length) (hX : ∀ w', Fr F w w' → TxtAt w' (.slice ad n c) xs) (hxl : xs.length ≤ 140737487306752) : Calls Tryd.prog 58 #[.pointer (some ⟨D, 0, none⟩), .int .i64 0, .int .i64 f, (.slice ad n c)] w fun e w' => CallEnd 0 w D F st f xs e w' := by
  have K := Lib.hid (wrong_dk h f)
  by_cases hw : wrongF st.down f = 0
  case neg =>
    have HE : CallEnd 0 w D F st f xs (.returned (.int .i64 (wrongF st.down f))) w := by
      refine ⟨?_, ?_, Fr.refl _ _⟩ <;> rw [callF_wrong hw]
      exact h.same
    have HH := Lib.hid HE
    clear h HE
    have hne : ¬ (wrongF st.down f = 0) := hw
    generalize wrongF st.down f = q at *
    go_enter Tryd.func58, Tryd.ntmps58
    go_wp2_with fail
    refine K.out.mono ?_
    rintro e w' ⟨rfl, rfl⟩
    go_wp2_with fail
    go_ret
    exact HH.out
  obtain ⟨hdn, hf0, hf3⟩ := wrongF_zero hw
  obtain ⟨k, rfl⟩ : ∃ k : Nat, f = (k : Int) := ⟨f.toNat, by omega⟩
  have hk : k < 4 := by omega
  have HA := Lib.hid h
  rw [hw] at K
  obtain ⟨hm, hft, hsf, hl, v, lf, ar, hb, hr, hx⟩ := h
  have hfit := hft k hk
  have hlt : D < w.heap.size := (Array.getElem?_eq_some_iff.1 hb).1
  obtain ⟨av, cv, hvk⟩ : ∃ av cv, v k = .slice av (st.b k).length cv := by
    rcases (hr.own k hk).form with ⟨h1, h2⟩ | ⟨g, c, h1, _⟩
    · exact ⟨none, 0, by rw [h1, h2]; rfl⟩
    · exact ⟨_, c, h1⟩
  have hwr : IntKind.i64.wrap (1048576 - ((st.b k).length : Int)) = 1048576 - ((st.b k).length : Int) := IntWalk.i64_in _ (by omega)
  have hcv : w.cell? ⟨D, 2 * k, none⟩ = some (.slice av (st.b k).length cv) := by
    rw [← hvk]
    rcases (by omega : k = 0 ∨ k = 1 ∨ k = 2 ∨ k = 3) with rfl | rfl | rfl | rfl <;> exact cell_of_block hb rfl
  have hcs : w.cell? ⟨D, 2 * k + 1, none⟩ = some (.int .i64 (st.s k)) := by
    rcases (by omega : k = 0 ∨ k = 1 ∨ k = 2 ∨ k = 3) with rfl | rfl | rfl | rfl <;> exact cell_of_block hb rfl
  have c8 : w.cell? ⟨D, 8, none⟩ = some (.int .i64 lf) := cell_of_block hb rfl
  have c9 : w.cell? ⟨D, 9, none⟩ = some (.bool ar) := cell_of_block hb rfl
  have c10 : w.cell? ⟨D, 10, none⟩ = some (.bool false) := by rw [← hdn]; exact cell_of_block hb rfl
  have f8 := free_of_block 8 hb
  have f9 := free_of_block 9 hb
  have f10 := free_of_block 10 hb
  have fk := free_of_block (2 * k) hb
  have fk1 := free_of_block (2 * k + 1) hb
  by_cases hfull : 1048576 - ((st.b k).length : Int) < (xs.length : Int)
  · have HE : CallEnd 0 w D F st k xs (.returned (.int .i64 15)) w := by
      refine ⟨?_, ?_, Fr.refl _ _⟩ <;> rw [callF_full hw hfull]
      exact HA.out.same
    have HH := Lib.hid HE
    have hd : decide ((n : Int) > 1048576 - ((st.b k).length : Int)) = true := decide_eq_true (by omega)
    have HK := Lib.hid hm
    clear HE hx hl hr hft hsf hb hfull hw hX hn hvk hfit hdn hf0 hf3
    rcases (by omega : k = 0 ∨ k = 1 ∨ k = 2 ∨ k = 3) with rfl | rfl | rfl | rfl <;> (
    simp only [Nat.reduceMul, Nat.reduceAdd] at hcv hcs fk fk1
    go_enter Tryd.func58, Tryd.ntmps58
    go_wp2_with fail
    refine K.out.mono ?_
    rintro e w' ⟨rfl, rfl⟩
    go_wp2_with fail
    go_ret
    exact HH.out)
  have hd : decide ((n : Int) > 1048576 - ((st.b k).length : Int)) = false := decide_eq_false (by omega)
  have hne : ∀ g, (v k).ownBlock = some g → g ≠ D := fun g hg => (hr.foot k g hk hg).2
  have HO := Lib.hid (hvk ▸ hr.own k hk : OwnTxt w 0 (.slice av (st.b k).length cv) (st.b k))
  have HN := Lib.hid (hvk ▸ hne : ∀ g, (Value.slice av (st.b k).length cv).ownBlock = some g → g ≠ D)
  have HR := Lib.hid hr
  have HB := Lib.hid hb
  have HM := Lib.hid hm
  have HV := Lib.hid hvk
  have HF := Lib.hid hft
  have HS := Lib.hid hsf
  have HL := Lib.hid hl
  have HW := Lib.hid hw
  have HU := Lib.hid hfull
  have HD := Lib.hid hdn
  have HT := Lib.hid hlt
  have HX := Lib.hid hX
  have HXL := Lib.hid hxl
  have HNX := Lib.hid hn
  have hidx : ∀ w : World, Sem.run Tryd.prog (Instr.index 136 (.agg #[.func (.func 73) #[] #[], .func (.func 74) #[] #[], .func (.func 75) #[] #[]]) (.int .i64 0)) w = .ok (.func (.func 73) #[] #[]) w := fun w => by kernel_rfl
  rcases hx with ⟨rfl, hlf, hpos⟩ | ⟨rfl, hlf⟩
  · have hp0 : 0 ≤ lf := by rcases hpos with h | h; exact h; rw [hdn] at h; cases h
    by_cases hz : lf = 0
    · subst hz
      have HLF := Lib.hid hlf
      have HPOS := Lib.hid (hpos)
      clear hfit hf0 hf3 hne hr hb hm hvk hft hsf hl hw hfull hdn hlt hX hxl hn hlf hpos
      rcases (by omega : k = 0 ∨ k = 1 ∨ k = 2 ∨ k = 3) with rfl | rfl | rfl | rfl
      · simp only [Nat.reduceMul, Nat.reduceAdd] at hcv hcs fk fk1
        go_enter Tryd.func58, Tryd.ntmps58
        go_wp2_with fail
        refine K.out.mono ?_
        rintro e w' ⟨rfl, rfl⟩
        go_wp2_with (first | (at_builtin; go_loud (refine wpList_append_txt2 (by rfl) _ _ (by rfl) 0 (.slice av (st.b 0).length cv) (st.b 0) (by rfl) (by exact (own_set (own_set HO.out HN.out) HN.out)) (.slice ad n c) xs (by rfl) (HX.out _ (by exact (((Fr.refl F w).set HM.out 10 _).set HM.out 8 _))) (by have a := HF.out 0 hk; have b := HXL.out; omega) (Nat.zero_le _) ?_; intro ad2 n2 c2 w1 o1 g1 p1; have e1 := (World.grownBy.cell g1 (a := ⟨D, 2 * 0, none⟩) (by go_simp; rfl) (fun e => HN.out D e.symm rfl)); have e1f : w1.frozen? ⟨D, 2 * 0, none⟩ = false := (World.frozen?_of_block (w := _) (g1.block D (by have := HT.out; simpa [World.setCell] using this) (fun e => HN.out D e.symm rfl))).trans (by go_simp); have e10 := (World.grownBy.cell g1 (a := ⟨D, 10, none⟩) (by go_simp; rfl) (fun e => HN.out D e.symm rfl)); have O1 := Lib.hid o1; have G1 := Lib.hid g1; have P1 := Lib.hid p1; clear o1 g1 p1 hcv hcs c8 c9 c10 f8 f9 f10 fk fk1; simp only [Nat.reduceMul] at e1 e1f)) | go_in)
        go_end0
        go_wp2
        go_ret
        have hlf := HLF.out; have hl := HL.out; have hdn := HD.out; have hpos := HPOS.out
        have hfit := HF.out 0 hk
        have hcf : callF 0 st ((0 : Nat) : Int) xs = _ := callF_downs HW.out (by have := HU.out; omega) (by omega)
        unfold CallEnd
        rw [hcf]
        have g1 := G1.out; have P1 := P1.out; have o1 := O1.out
        have hd1 : w1.heap[D]? = _ := (g1.block D (by have := HT.out; simpa [World.setCell] using this) (fun e => HN.out D e.symm rfl)).trans (((wrote_refl HB.out).set 10 (.bool true)).set 8 (.int .i64 (-1))).there
        have hvk := HV.out
        refine ⟨rfl, ⟨.inl HM.out, ?_, ?_, ⟨by show -1 ≤ (-1 : Int); omega, by show (-1 : Int) ≤ _; omega⟩, upd v 0 (.slice ad2 n2 c2), (-1), true, ((wrote_refl hd1).set 0 (.slice ad2 n2 c2)).there, ?_, .inl ⟨rfl, rfl, .inr rfl⟩⟩, ?_⟩
        · intro j hj
          show (upd st.b 0 (st.b 0 ++ xs) j).length ≤ 1048576
          by_cases e : j = 0
          · subst e; rw [upd_at, List.length_append]; have := HU.out; omega
          · rw [upd_ne _ _ e]; exact HF.out j hj
        · intro j hj
          show st.s j ≤ (upd st.b 0 (st.b 0 ++ xs) j).length
          by_cases e : j = 0
          · subst e; rw [upd_at, List.length_append]; have := HS.out 0 hj; omega
          · rw [upd_ne _ _ e]; exact HS.out j hj
        · refine HR.out.updRow (k := 0) hk HT.out (fun j hj hne hne2 => ?_) ?_ ?_
          · rw [Below.heap_setCell _ _ _ _ hne, g1.block j (by simpa [World.setCell] using hj) (by rw [← hvk]; exact hne2)]
            exact (((wrote_refl HB.out).set 10 (.bool true)).set 8 (.int .i64 (-1))).rest j hne
          · exact own_set o1 (fun g hg => by
              rcases P1 g hg with h1 | h1
              · exact HN.out g h1
              · have := HT.out; simp [World.setCell] at h1; omega)
          · intro g hg
            rcases P1 g hg with h1 | h1
            · exact .inl (by rw [hvk]; exact h1)
            · exact .inr (by simpa [World.setCell] using h1)
        · refine Fr.set (Fr.grown (w1 := _) (((Fr.refl F w).set HM.out 10 _).set HM.out 8 _) g1 (fun k hk' => .inl (HR.out.foot 0 k hk (by rw [hvk]; exact hk'.symm ▸ rfl)).1)) HM.out _ _
      · simp only [Nat.reduceMul, Nat.reduceAdd] at hcv hcs fk fk1
        go_enter Tryd.func58, Tryd.ntmps58
        go_wp2_with fail
        refine K.out.mono ?_
        rintro e w' ⟨rfl, rfl⟩
        go_wp2_with (first | (at_builtin; go_loud (refine wpList_append_txt2 (by rfl) _ _ (by rfl) 0 (.slice av (st.b 1).length cv) (st.b 1) (by rfl) (by exact (own_set (own_set HO.out HN.out) HN.out)) (.slice ad n c) xs (by rfl) (HX.out _ (by exact (((Fr.refl F w).set HM.out 10 _).set HM.out 8 _))) (by have a := HF.out 1 hk; have b := HXL.out; omega) (Nat.zero_le _) ?_; intro ad2 n2 c2 w1 o1 g1 p1; have e1 := (World.grownBy.cell g1 (a := ⟨D, 2 * 1, none⟩) (by go_simp; rfl) (fun e => HN.out D e.symm rfl)); have e1f : w1.frozen? ⟨D, 2 * 1, none⟩ = false := (World.frozen?_of_block (w := _) (g1.block D (by have := HT.out; simpa [World.setCell] using this) (fun e => HN.out D e.symm rfl))).trans (by go_simp); have e10 := (World.grownBy.cell g1 (a := ⟨D, 10, none⟩) (by go_simp; rfl) (fun e => HN.out D e.symm rfl)); have O1 := Lib.hid o1; have G1 := Lib.hid g1; have P1 := Lib.hid p1; clear o1 g1 p1 hcv hcs c8 c9 c10 f8 f9 f10 fk fk1; simp only [Nat.reduceMul] at e1 e1f)) | go_in)
        go_end0
        go_wp2
        go_ret
        have hlf := HLF.out; have hl := HL.out; have hdn := HD.out; have hpos := HPOS.out
        have hfit := HF.out 1 hk
        have hcf : callF 0 st ((1 : Nat) : Int) xs = _ := callF_downs HW.out (by have := HU.out; omega) (by omega)
        unfold CallEnd
        rw [hcf]
        have g1 := G1.out; have P1 := P1.out; have o1 := O1.out
        have hd1 : w1.heap[D]? = _ := (g1.block D (by have := HT.out; simpa [World.setCell] using this) (fun e => HN.out D e.symm rfl)).trans (((wrote_refl HB.out).set 10 (.bool true)).set 8 (.int .i64 (-1))).there
        have hvk := HV.out
        refine ⟨rfl, ⟨.inl HM.out, ?_, ?_, ⟨by show -1 ≤ (-1 : Int); omega, by show (-1 : Int) ≤ _; omega⟩, upd v 1 (.slice ad2 n2 c2), (-1), true, ((wrote_refl hd1).set 2 (.slice ad2 n2 c2)).there, ?_, .inl ⟨rfl, rfl, .inr rfl⟩⟩, ?_⟩
        · intro j hj
          show (upd st.b 1 (st.b 1 ++ xs) j).length ≤ 1048576
          by_cases e : j = 1
          · subst e; rw [upd_at, List.length_append]; have := HU.out; omega
          · rw [upd_ne _ _ e]; exact HF.out j hj
        · intro j hj
          show st.s j ≤ (upd st.b 1 (st.b 1 ++ xs) j).length
          by_cases e : j = 1
          · subst e; rw [upd_at, List.length_append]; have := HS.out 1 hj; omega
          · rw [upd_ne _ _ e]; exact HS.out j hj
        · refine HR.out.updRow (k := 1) hk HT.out (fun j hj hne hne2 => ?_) ?_ ?_
          · rw [Below.heap_setCell _ _ _ _ hne, g1.block j (by simpa [World.setCell] using hj) (by rw [← hvk]; exact hne2)]
            exact (((wrote_refl HB.out).set 10 (.bool true)).set 8 (.int .i64 (-1))).rest j hne
          · exact own_set o1 (fun g hg => by
              rcases P1 g hg with h1 | h1
              · exact HN.out g h1
              · have := HT.out; simp [World.setCell] at h1; omega)
          · intro g hg
            rcases P1 g hg with h1 | h1
            · exact .inl (by rw [hvk]; exact h1)
            · exact .inr (by simpa [World.setCell] using h1)
        · refine Fr.set (Fr.grown (w1 := _) (((Fr.refl F w).set HM.out 10 _).set HM.out 8 _) g1 (fun k hk' => .inl (HR.out.foot 1 k hk (by rw [hvk]; exact hk'.symm ▸ rfl)).1)) HM.out _ _
      · simp only [Nat.reduceMul, Nat.reduceAdd] at hcv hcs fk fk1
        go_enter Tryd.func58, Tryd.ntmps58
        go_wp2_with fail
        refine K.out.mono ?_
        rintro e w' ⟨rfl, rfl⟩
        go_wp2_with (first | (at_builtin; go_loud (refine wpList_append_txt2 (by rfl) _ _ (by rfl) 0 (.slice av (st.b 2).length cv) (st.b 2) (by rfl) (by exact (own_set (own_set HO.out HN.out) HN.out)) (.slice ad n c) xs (by rfl) (HX.out _ (by exact (((Fr.refl F w).set HM.out 10 _).set HM.out 8 _))) (by have a := HF.out 2 hk; have b := HXL.out; omega) (Nat.zero_le _) ?_; intro ad2 n2 c2 w1 o1 g1 p1; have e1 := (World.grownBy.cell g1 (a := ⟨D, 2 * 2, none⟩) (by go_simp; rfl) (fun e => HN.out D e.symm rfl)); have e1f : w1.frozen? ⟨D, 2 * 2, none⟩ = false := (World.frozen?_of_block (w := _) (g1.block D (by have := HT.out; simpa [World.setCell] using this) (fun e => HN.out D e.symm rfl))).trans (by go_simp); have e10 := (World.grownBy.cell g1 (a := ⟨D, 10, none⟩) (by go_simp; rfl) (fun e => HN.out D e.symm rfl)); have O1 := Lib.hid o1; have G1 := Lib.hid g1; have P1 := Lib.hid p1; clear o1 g1 p1 hcv hcs c8 c9 c10 f8 f9 f10 fk fk1; simp only [Nat.reduceMul] at e1 e1f)) | go_in)
        go_end0
        go_wp2
        go_ret
        have hlf := HLF.out; have hl := HL.out; have hdn := HD.out; have hpos := HPOS.out
        have hfit := HF.out 2 hk
        have hcf : callF 0 st ((2 : Nat) : Int) xs = _ := callF_downs HW.out (by have := HU.out; omega) (by omega)
        unfold CallEnd
        rw [hcf]
        have g1 := G1.out; have P1 := P1.out; have o1 := O1.out
        have hd1 : w1.heap[D]? = _ := (g1.block D (by have := HT.out; simpa [World.setCell] using this) (fun e => HN.out D e.symm rfl)).trans (((wrote_refl HB.out).set 10 (.bool true)).set 8 (.int .i64 (-1))).there
        have hvk := HV.out
        refine ⟨rfl, ⟨.inl HM.out, ?_, ?_, ⟨by show -1 ≤ (-1 : Int); omega, by show (-1 : Int) ≤ _; omega⟩, upd v 2 (.slice ad2 n2 c2), (-1), true, ((wrote_refl hd1).set 4 (.slice ad2 n2 c2)).there, ?_, .inl ⟨rfl, rfl, .inr rfl⟩⟩, ?_⟩
        · intro j hj
          show (upd st.b 2 (st.b 2 ++ xs) j).length ≤ 1048576
          by_cases e : j = 2
          · subst e; rw [upd_at, List.length_append]; have := HU.out; omega
          · rw [upd_ne _ _ e]; exact HF.out j hj
        · intro j hj
          show st.s j ≤ (upd st.b 2 (st.b 2 ++ xs) j).length
          by_cases e : j = 2
          · subst e; rw [upd_at, List.length_append]; have := HS.out 2 hj; omega
          · rw [upd_ne _ _ e]; exact HS.out j hj
        · refine HR.out.updRow (k := 2) hk HT.out (fun j hj hne hne2 => ?_) ?_ ?_
          · rw [Below.heap_setCell _ _ _ _ hne, g1.block j (by simpa [World.setCell] using hj) (by rw [← hvk]; exact hne2)]
            exact (((wrote_refl HB.out).set 10 (.bool true)).set 8 (.int .i64 (-1))).rest j hne
          · exact own_set o1 (fun g hg => by
              rcases P1 g hg with h1 | h1
              · exact HN.out g h1
              · have := HT.out; simp [World.setCell] at h1; omega)
          · intro g hg
            rcases P1 g hg with h1 | h1
            · exact .inl (by rw [hvk]; exact h1)
            · exact .inr (by simpa [World.setCell] using h1)
        · refine Fr.set (Fr.grown (w1 := _) (((Fr.refl F w).set HM.out 10 _).set HM.out 8 _) g1 (fun k hk' => .inl (HR.out.foot 2 k hk (by rw [hvk]; exact hk'.symm ▸ rfl)).1)) HM.out _ _
      · simp only [Nat.reduceMul, Nat.reduceAdd] at hcv hcs fk fk1
        go_enter Tryd.func58, Tryd.ntmps58
        go_wp2_with fail
        refine K.out.mono ?_
        rintro e w' ⟨rfl, rfl⟩
        go_wp2_with (first | (at_builtin; go_loud (refine wpList_append_txt2 (by rfl) _ _ (by rfl) 0 (.slice av (st.b 3).length cv) (st.b 3) (by rfl) (by exact (own_set (own_set HO.out HN.out) HN.out)) (.slice ad n c) xs (by rfl) (HX.out _ (by exact (((Fr.refl F w).set HM.out 10 _).set HM.out 8 _))) (by have a := HF.out 3 hk; have b := HXL.out; omega) (Nat.zero_le _) ?_; intro ad2 n2 c2 w1 o1 g1 p1; have e1 := (World.grownBy.cell g1 (a := ⟨D, 2 * 3, none⟩) (by go_simp; rfl) (fun e => HN.out D e.symm rfl)); have e1f : w1.frozen? ⟨D, 2 * 3, none⟩ = false := (World.frozen?_of_block (w := _) (g1.block D (by have := HT.out; simpa [World.setCell] using this) (fun e => HN.out D e.symm rfl))).trans (by go_simp); have e10 := (World.grownBy.cell g1 (a := ⟨D, 10, none⟩) (by go_simp; rfl) (fun e => HN.out D e.symm rfl)); have O1 := Lib.hid o1; have G1 := Lib.hid g1; have P1 := Lib.hid p1; clear o1 g1 p1 hcv hcs c8 c9 c10 f8 f9 f10 fk fk1; simp only [Nat.reduceMul] at e1 e1f)) | go_in)
        go_end0
        go_wp2
        go_ret
        have hlf := HLF.out; have hl := HL.out; have hdn := HD.out; have hpos := HPOS.out
        have hfit := HF.out 3 hk
        have hcf : callF 0 st ((3 : Nat) : Int) xs = _ := callF_downs HW.out (by have := HU.out; omega) (by omega)
        unfold CallEnd
        rw [hcf]
        have g1 := G1.out; have P1 := P1.out; have o1 := O1.out
        have hd1 : w1.heap[D]? = _ := (g1.block D (by have := HT.out; simpa [World.setCell] using this) (fun e => HN.out D e.symm rfl)).trans (((wrote_refl HB.out).set 10 (.bool true)).set 8 (.int .i64 (-1))).there
        have hvk := HV.out
        refine ⟨rfl, ⟨.inl HM.out, ?_, ?_, ⟨by show -1 ≤ (-1 : Int); omega, by show (-1 : Int) ≤ _; omega⟩, upd v 3 (.slice ad2 n2 c2), (-1), true, ((wrote_refl hd1).set 6 (.slice ad2 n2 c2)).there, ?_, .inl ⟨rfl, rfl, .inr rfl⟩⟩, ?_⟩
        · intro j hj
          show (upd st.b 3 (st.b 3 ++ xs) j).length ≤ 1048576
          by_cases e : j = 3
          · subst e; rw [upd_at, List.length_append]; have := HU.out; omega
          · rw [upd_ne _ _ e]; exact HF.out j hj
        · intro j hj
          show st.s j ≤ (upd st.b 3 (st.b 3 ++ xs) j).length
          by_cases e : j = 3
          · subst e; rw [upd_at, List.length_append]; have := HS.out 3 hj; omega
          · rw [upd_ne _ _ e]; exact HS.out j hj
        · refine HR.out.updRow (k := 3) hk HT.out (fun j hj hne hne2 => ?_) ?_ ?_
          · rw [Below.heap_setCell _ _ _ _ hne, g1.block j (by simpa [World.setCell] using hj) (by rw [← hvk]; exact hne2)]
            exact (((wrote_refl HB.out).set 10 (.bool true)).set 8 (.int .i64 (-1))).rest j hne
          · exact own_set o1 (fun g hg => by
              rcases P1 g hg with h1 | h1
              · exact HN.out g h1
              · have := HT.out; simp [World.setCell] at h1; omega)
          · intro g hg
            rcases P1 g hg with h1 | h1
            · exact .inl (by rw [hvk]; exact h1)
            · exact .inr (by simpa [World.setCell] using h1)
        · refine Fr.set (Fr.grown (w1 := _) (((Fr.refl F w).set HM.out 10 _).set HM.out 8 _) g1 (fun k hk' => .inl (HR.out.foot 3 k hk (by rw [hvk]; exact hk'.symm ▸ rfl)).1)) HM.out _ _
    · have hq : (lf == 0) = false := by simpa using hz
      have hz2 : decide (lf = 0) = false := decide_eq_false hz
      have hw1 : IntKind.i64.wrap (lf - 1) = lf - 1 := IntWalk.i64_in _ (by omega)
      have HLF := Lib.hid hlf
      have HPOS := Lib.hid (hpos)
      clear hfit hf0 hf3 hne hr hb hm hvk hft hsf hl hw hfull hdn hlt hX hxl hn hlf hpos
      rcases (by omega : k = 0 ∨ k = 1 ∨ k = 2 ∨ k = 3) with rfl | rfl | rfl | rfl
      · simp only [Nat.reduceMul, Nat.reduceAdd] at hcv hcs fk fk1
        go_enter Tryd.func58, Tryd.ntmps58
        go_wp2_with fail
        refine K.out.mono ?_
        rintro e w' ⟨rfl, rfl⟩
        go_wp2_with (first | (at_builtin; go_loud (refine wpList_append_txt2 (by rfl) _ _ (by rfl) 0 (.slice av (st.b 0).length cv) (st.b 0) (by rfl) (by exact (own_set (own_set HO.out HN.out) HN.out)) (.slice ad n c) xs (by rfl) (HX.out _ (by exact (((Fr.refl F w).set HM.out 10 _).set HM.out 8 _))) (by have a := HF.out 0 hk; have b := HXL.out; omega) (Nat.zero_le _) ?_; intro ad2 n2 c2 w1 o1 g1 p1; have e1 := (World.grownBy.cell g1 (a := ⟨D, 2 * 0, none⟩) (by go_simp; rfl) (fun e => HN.out D e.symm rfl)); have e1f : w1.frozen? ⟨D, 2 * 0, none⟩ = false := (World.frozen?_of_block (w := _) (g1.block D (by have := HT.out; simpa [World.setCell] using this) (fun e => HN.out D e.symm rfl))).trans (by go_simp); have e10 := (World.grownBy.cell g1 (a := ⟨D, 10, none⟩) (by go_simp; rfl) (fun e => HN.out D e.symm rfl)); have O1 := Lib.hid o1; have G1 := Lib.hid g1; have P1 := Lib.hid p1; clear o1 g1 p1 hcv hcs c8 c9 c10 f8 f9 f10 fk fk1; simp only [Nat.reduceMul] at e1 e1f)) | go_in)
        go_end0
        go_wp2
        go_ret
        have hlf := HLF.out; have hl := HL.out; have hdn := HD.out; have hpos := HPOS.out
        have hfit := HF.out 0 hk
        have hcf : callF 0 st ((0 : Nat) : Int) xs = _ := callF_done HW.out (by have := HU.out; omega) (by omega)
        unfold CallEnd
        rw [hcf]
        have g1 := G1.out; have P1 := P1.out; have o1 := O1.out
        have hd1 : w1.heap[D]? = _ := (g1.block D (by have := HT.out; simpa [World.setCell] using this) (fun e => HN.out D e.symm rfl)).trans (((wrote_refl HB.out).set 10 (.bool false)).set 8 (.int .i64 (lf - 1))).there
        have hvk := HV.out
        refine ⟨rfl, ⟨.inl HM.out, ?_, ?_, ⟨by show -1 ≤ (if 0 < st.left then st.left - 1 else st.left); split <;> omega, by show (if 0 < st.left then st.left - 1 else st.left) ≤ _; split <;> omega⟩, upd v 0 (.slice ad2 n2 c2), (lf - 1), true, (there_down HD.out ((wrote_refl hd1).set 0 (.slice ad2 n2 c2)).there), ?_, .inl ⟨rfl, by show lf - 1 = (if 0 < st.left then st.left - 1 else st.left); rw [if_pos (by omega)]; omega, .inl (by omega)⟩⟩, ?_⟩
        · intro j hj
          show (upd st.b 0 (st.b 0 ++ xs) j).length ≤ 1048576
          by_cases e : j = 0
          · subst e; rw [upd_at, List.length_append]; have := HU.out; omega
          · rw [upd_ne _ _ e]; exact HF.out j hj
        · intro j hj
          show st.s j ≤ (upd st.b 0 (st.b 0 ++ xs) j).length
          by_cases e : j = 0
          · subst e; rw [upd_at, List.length_append]; have := HS.out 0 hj; omega
          · rw [upd_ne _ _ e]; exact HS.out j hj
        · refine HR.out.updRow (k := 0) hk HT.out (fun j hj hne hne2 => ?_) ?_ ?_
          · rw [Below.heap_setCell _ _ _ _ hne, g1.block j (by simpa [World.setCell] using hj) (by rw [← hvk]; exact hne2)]
            exact (((wrote_refl HB.out).set 10 (.bool false)).set 8 (.int .i64 (lf - 1))).rest j hne
          · exact own_set o1 (fun g hg => by
              rcases P1 g hg with h1 | h1
              · exact HN.out g h1
              · have := HT.out; simp [World.setCell] at h1; omega)
          · intro g hg
            rcases P1 g hg with h1 | h1
            · exact .inl (by rw [hvk]; exact h1)
            · exact .inr (by simpa [World.setCell] using h1)
        · refine Fr.set (Fr.grown (w1 := _) (((Fr.refl F w).set HM.out 10 _).set HM.out 8 _) g1 (fun k hk' => .inl (HR.out.foot 0 k hk (by rw [hvk]; exact hk'.symm ▸ rfl)).1)) HM.out _ _
      · simp only [Nat.reduceMul, Nat.reduceAdd] at hcv hcs fk fk1
        go_enter Tryd.func58, Tryd.ntmps58
        go_wp2_with fail
        refine K.out.mono ?_
        rintro e w' ⟨rfl, rfl⟩
        go_wp2_with (first | (at_builtin; go_loud (refine wpList_append_txt2 (by rfl) _ _ (by rfl) 0 (.slice av (st.b 1).length cv) (st.b 1) (by rfl) (by exact (own_set (own_set HO.out HN.out) HN.out)) (.slice ad n c) xs (by rfl) (HX.out _ (by exact (((Fr.refl F w).set HM.out 10 _).set HM.out 8 _))) (by have a := HF.out 1 hk; have b := HXL.out; omega) (Nat.zero_le _) ?_; intro ad2 n2 c2 w1 o1 g1 p1; have e1 := (World.grownBy.cell g1 (a := ⟨D, 2 * 1, none⟩) (by go_simp; rfl) (fun e => HN.out D e.symm rfl)); have e1f : w1.frozen? ⟨D, 2 * 1, none⟩ = false := (World.frozen?_of_block (w := _) (g1.block D (by have := HT.out; simpa [World.setCell] using this) (fun e => HN.out D e.symm rfl))).trans (by go_simp); have e10 := (World.grownBy.cell g1 (a := ⟨D, 10, none⟩) (by go_simp; rfl) (fun e => HN.out D e.symm rfl)); have O1 := Lib.hid o1; have G1 := Lib.hid g1; have P1 := Lib.hid p1; clear o1 g1 p1 hcv hcs c8 c9 c10 f8 f9 f10 fk fk1; simp only [Nat.reduceMul] at e1 e1f)) | go_in)
        go_end0
        go_wp2
        go_ret
        have hlf := HLF.out; have hl := HL.out; have hdn := HD.out; have hpos := HPOS.out
        have hfit := HF.out 1 hk
        have hcf : callF 0 st ((1 : Nat) : Int) xs = _ := callF_done HW.out (by have := HU.out; omega) (by omega)
        unfold CallEnd
        rw [hcf]
        have g1 := G1.out; have P1 := P1.out; have o1 := O1.out
        have hd1 : w1.heap[D]? = _ := (g1.block D (by have := HT.out; simpa [World.setCell] using this) (fun e => HN.out D e.symm rfl)).trans (((wrote_refl HB.out).set 10 (.bool false)).set 8 (.int .i64 (lf - 1))).there
        have hvk := HV.out
        refine ⟨rfl, ⟨.inl HM.out, ?_, ?_, ⟨by show -1 ≤ (if 0 < st.left then st.left - 1 else st.left); split <;> omega, by show (if 0 < st.left then st.left - 1 else st.left) ≤ _; split <;> omega⟩, upd v 1 (.slice ad2 n2 c2), (lf - 1), true, (there_down HD.out ((wrote_refl hd1).set 2 (.slice ad2 n2 c2)).there), ?_, .inl ⟨rfl, by show lf - 1 = (if 0 < st.left then st.left - 1 else st.left); rw [if_pos (by omega)]; omega, .inl (by omega)⟩⟩, ?_⟩
        · intro j hj
          show (upd st.b 1 (st.b 1 ++ xs) j).length ≤ 1048576
          by_cases e : j = 1
          · subst e; rw [upd_at, List.length_append]; have := HU.out; omega
          · rw [upd_ne _ _ e]; exact HF.out j hj
        · intro j hj
          show st.s j ≤ (upd st.b 1 (st.b 1 ++ xs) j).length
          by_cases e : j = 1
          · subst e; rw [upd_at, List.length_append]; have := HS.out 1 hj; omega
          · rw [upd_ne _ _ e]; exact HS.out j hj
        · refine HR.out.updRow (k := 1) hk HT.out (fun j hj hne hne2 => ?_) ?_ ?_
          · rw [Below.heap_setCell _ _ _ _ hne, g1.block j (by simpa [World.setCell] using hj) (by rw [← hvk]; exact hne2)]
            exact (((wrote_refl HB.out).set 10 (.bool false)).set 8 (.int .i64 (lf - 1))).rest j hne
          · exact own_set o1 (fun g hg => by
              rcases P1 g hg with h1 | h1
              · exact HN.out g h1
              · have := HT.out; simp [World.setCell] at h1; omega)
          · intro g hg
            rcases P1 g hg with h1 | h1
            · exact .inl (by rw [hvk]; exact h1)
            · exact .inr (by simpa [World.setCell] using h1)
        · refine Fr.set (Fr.grown (w1 := _) (((Fr.refl F w).set HM.out 10 _).set HM.out 8 _) g1 (fun k hk' => .inl (HR.out.foot 1 k hk (by rw [hvk]; exact hk'.symm ▸ rfl)).1)) HM.out _ _
      · simp only [Nat.reduceMul, Nat.reduceAdd] at hcv hcs fk fk1
        go_enter Tryd.func58, Tryd.ntmps58
        go_wp2_with fail
        refine K.out.mono ?_
        rintro e w' ⟨rfl, rfl⟩
        go_wp2_with (first | (at_builtin; go_loud (refine wpList_append_txt2 (by rfl) _ _ (by rfl) 0 (.slice av (st.b 2).length cv) (st.b 2) (by rfl) (by exact (own_set (own_set HO.out HN.out) HN.out)) (.slice ad n c) xs (by rfl) (HX.out _ (by exact (((Fr.refl F w).set HM.out 10 _).set HM.out 8 _))) (by have a := HF.out 2 hk; have b := HXL.out; omega) (Nat.zero_le _) ?_; intro ad2 n2 c2 w1 o1 g1 p1; have e1 := (World.grownBy.cell g1 (a := ⟨D, 2 * 2, none⟩) (by go_simp; rfl) (fun e => HN.out D e.symm rfl)); have e1f : w1.frozen? ⟨D, 2 * 2, none⟩ = false := (World.frozen?_of_block (w := _) (g1.block D (by have := HT.out; simpa [World.setCell] using this) (fun e => HN.out D e.symm rfl))).trans (by go_simp); have e10 := (World.grownBy.cell g1 (a := ⟨D, 10, none⟩) (by go_simp; rfl) (fun e => HN.out D e.symm rfl)); have O1 := Lib.hid o1; have G1 := Lib.hid g1; have P1 := Lib.hid p1; clear o1 g1 p1 hcv hcs c8 c9 c10 f8 f9 f10 fk fk1; simp only [Nat.reduceMul] at e1 e1f)) | go_in)
        go_end0
        go_wp2
        go_ret
        have hlf := HLF.out; have hl := HL.out; have hdn := HD.out; have hpos := HPOS.out
        have hfit := HF.out 2 hk
        have hcf : callF 0 st ((2 : Nat) : Int) xs = _ := callF_done HW.out (by have := HU.out; omega) (by omega)
        unfold CallEnd
        rw [hcf]
        have g1 := G1.out; have P1 := P1.out; have o1 := O1.out
        have hd1 : w1.heap[D]? = _ := (g1.block D (by have := HT.out; simpa [World.setCell] using this) (fun e => HN.out D e.symm rfl)).trans (((wrote_refl HB.out).set 10 (.bool false)).set 8 (.int .i64 (lf - 1))).there
        have hvk := HV.out
        refine ⟨rfl, ⟨.inl HM.out, ?_, ?_, ⟨by show -1 ≤ (if 0 < st.left then st.left - 1 else st.left); split <;> omega, by show (if 0 < st.left then st.left - 1 else st.left) ≤ _; split <;> omega⟩, upd v 2 (.slice ad2 n2 c2), (lf - 1), true, (there_down HD.out ((wrote_refl hd1).set 4 (.slice ad2 n2 c2)).there), ?_, .inl ⟨rfl, by show lf - 1 = (if 0 < st.left then st.left - 1 else st.left); rw [if_pos (by omega)]; omega, .inl (by omega)⟩⟩, ?_⟩
        · intro j hj
          show (upd st.b 2 (st.b 2 ++ xs) j).length ≤ 1048576
          by_cases e : j = 2
          · subst e; rw [upd_at, List.length_append]; have := HU.out; omega
          · rw [upd_ne _ _ e]; exact HF.out j hj
        · intro j hj
          show st.s j ≤ (upd st.b 2 (st.b 2 ++ xs) j).length
          by_cases e : j = 2
          · subst e; rw [upd_at, List.length_append]; have := HS.out 2 hj; omega
          · rw [upd_ne _ _ e]; exact HS.out j hj
        · refine HR.out.updRow (k := 2) hk HT.out (fun j hj hne hne2 => ?_) ?_ ?_
          · rw [Below.heap_setCell _ _ _ _ hne, g1.block j (by simpa [World.setCell] using hj) (by rw [← hvk]; exact hne2)]
            exact (((wrote_refl HB.out).set 10 (.bool false)).set 8 (.int .i64 (lf - 1))).rest j hne
          · exact own_set o1 (fun g hg => by
              rcases P1 g hg with h1 | h1
              · exact HN.out g h1
              · have := HT.out; simp [World.setCell] at h1; omega)
          · intro g hg
            rcases P1 g hg with h1 | h1
            · exact .inl (by rw [hvk]; exact h1)
            · exact .inr (by simpa [World.setCell] using h1)
        · refine Fr.set (Fr.grown (w1 := _) (((Fr.refl F w).set HM.out 10 _).set HM.out 8 _) g1 (fun k hk' => .inl (HR.out.foot 2 k hk (by rw [hvk]; exact hk'.symm ▸ rfl)).1)) HM.out _ _
      · simp only [Nat.reduceMul, Nat.reduceAdd] at hcv hcs fk fk1
        go_enter Tryd.func58, Tryd.ntmps58
        go_wp2_with fail
        refine K.out.mono ?_
        rintro e w' ⟨rfl, rfl⟩
        go_wp2_with (first | (at_builtin; go_loud (refine wpList_append_txt2 (by rfl) _ _ (by rfl) 0 (.slice av (st.b 3).length cv) (st.b 3) (by rfl) (by exact (own_set (own_set HO.out HN.out) HN.out)) (.slice ad n c) xs (by rfl) (HX.out _ (by exact (((Fr.refl F w).set HM.out 10 _).set HM.out 8 _))) (by have a := HF.out 3 hk; have b := HXL.out; omega) (Nat.zero_le _) ?_; intro ad2 n2 c2 w1 o1 g1 p1; have e1 := (World.grownBy.cell g1 (a := ⟨D, 2 * 3, none⟩) (by go_simp; rfl) (fun e => HN.out D e.symm rfl)); have e1f : w1.frozen? ⟨D, 2 * 3, none⟩ = false := (World.frozen?_of_block (w := _) (g1.block D (by have := HT.out; simpa [World.setCell] using this) (fun e => HN.out D e.symm rfl))).trans (by go_simp); have e10 := (World.grownBy.cell g1 (a := ⟨D, 10, none⟩) (by go_simp; rfl) (fun e => HN.out D e.symm rfl)); have O1 := Lib.hid o1; have G1 := Lib.hid g1; have P1 := Lib.hid p1; clear o1 g1 p1 hcv hcs c8 c9 c10 f8 f9 f10 fk fk1; simp only [Nat.reduceMul] at e1 e1f)) | go_in)
        go_end0
        go_wp2
        go_ret
        have hlf := HLF.out; have hl := HL.out; have hdn := HD.out; have hpos := HPOS.out
        have hfit := HF.out 3 hk
        have hcf : callF 0 st ((3 : Nat) : Int) xs = _ := callF_done HW.out (by have := HU.out; omega) (by omega)
        unfold CallEnd
        rw [hcf]
        have g1 := G1.out; have P1 := P1.out; have o1 := O1.out
        have hd1 : w1.heap[D]? = _ := (g1.block D (by have := HT.out; simpa [World.setCell] using this) (fun e => HN.out D e.symm rfl)).trans (((wrote_refl HB.out).set 10 (.bool false)).set 8 (.int .i64 (lf - 1))).there
        have hvk := HV.out
        refine ⟨rfl, ⟨.inl HM.out, ?_, ?_, ⟨by show -1 ≤ (if 0 < st.left then st.left - 1 else st.left); split <;> omega, by show (if 0 < st.left then st.left - 1 else st.left) ≤ _; split <;> omega⟩, upd v 3 (.slice ad2 n2 c2), (lf - 1), true, (there_down HD.out ((wrote_refl hd1).set 6 (.slice ad2 n2 c2)).there), ?_, .inl ⟨rfl, by show lf - 1 = (if 0 < st.left then st.left - 1 else st.left); rw [if_pos (by omega)]; omega, .inl (by omega)⟩⟩, ?_⟩
        · intro j hj
          show (upd st.b 3 (st.b 3 ++ xs) j).length ≤ 1048576
          by_cases e : j = 3
          · subst e; rw [upd_at, List.length_append]; have := HU.out; omega
          · rw [upd_ne _ _ e]; exact HF.out j hj
        · intro j hj
          show st.s j ≤ (upd st.b 3 (st.b 3 ++ xs) j).length
          by_cases e : j = 3
          · subst e; rw [upd_at, List.length_append]; have := HS.out 3 hj; omega
          · rw [upd_ne _ _ e]; exact HS.out j hj
        · refine HR.out.updRow (k := 3) hk HT.out (fun j hj hne hne2 => ?_) ?_ ?_
          · rw [Below.heap_setCell _ _ _ _ hne, g1.block j (by simpa [World.setCell] using hj) (by rw [← hvk]; exact hne2)]
            exact (((wrote_refl HB.out).set 10 (.bool false)).set 8 (.int .i64 (lf - 1))).rest j hne
          · exact own_set o1 (fun g hg => by
              rcases P1 g hg with h1 | h1
              · exact HN.out g h1
              · have := HT.out; simp [World.setCell] at h1; omega)
          · intro g hg
            rcases P1 g hg with h1 | h1
            · exact .inl (by rw [hvk]; exact h1)
            · exact .inr (by simpa [World.setCell] using h1)
        · refine Fr.set (Fr.grown (w1 := _) (((Fr.refl F w).set HM.out 10 _).set HM.out 8 _) g1 (fun k hk' => .inl (HR.out.foot 3 k hk (by rw [hvk]; exact hk'.symm ▸ rfl)).1)) HM.out _ _
  · have HLF := Lib.hid hlf
    have HPOS := Lib.hid (True.intro)
    clear hfit hf0 hf3 hne hr hb hm hvk hft hsf hl hw hfull hdn hlt hX hxl hn hlf
    rcases (by omega : k = 0 ∨ k = 1 ∨ k = 2 ∨ k = 3) with rfl | rfl | rfl | rfl
    · simp only [Nat.reduceMul, Nat.reduceAdd] at hcv hcs fk fk1
      go_enter Tryd.func58, Tryd.ntmps58
      go_wp2_with fail
      refine K.out.mono ?_
      rintro e w' ⟨rfl, rfl⟩
      go_wp2_with (first | (at_builtin; go_loud (refine wpList_append_txt2 (by rfl) _ _ (by rfl) 0 (.slice av (st.b 0).length cv) (st.b 0) (by rfl) (by exact (own_set HO.out HN.out)) (.slice ad n c) xs (by rfl) (HX.out _ (by exact ((Fr.refl F w).set HM.out 10 _))) (by have a := HF.out 0 hk; have b := HXL.out; omega) (Nat.zero_le _) ?_; intro ad2 n2 c2 w1 o1 g1 p1; have e1 := (World.grownBy.cell g1 (a := ⟨D, 2 * 0, none⟩) (by go_simp; rfl) (fun e => HN.out D e.symm rfl)); have e1f : w1.frozen? ⟨D, 2 * 0, none⟩ = false := (World.frozen?_of_block (w := _) (g1.block D (by have := HT.out; simpa [World.setCell] using this) (fun e => HN.out D e.symm rfl))).trans (by go_simp); have e10 := (World.grownBy.cell g1 (a := ⟨D, 10, none⟩) (by go_simp; rfl) (fun e => HN.out D e.symm rfl)); have O1 := Lib.hid o1; have G1 := Lib.hid g1; have P1 := Lib.hid p1; clear o1 g1 p1 hcv hcs c8 c9 c10 f8 f9 f10 fk fk1; simp only [Nat.reduceMul] at e1 e1f)) | go_in)
      go_end0
      go_wp2
      go_ret
      have hlf := HLF.out; have hl := HL.out; have hdn := HD.out; have hpos := HPOS.out
      have hfit := HF.out 0 hk
      have hcf : callF 0 st ((0 : Nat) : Int) xs = _ := callF_done HW.out (by have := HU.out; omega) (by omega)
      unfold CallEnd
      rw [hcf]
      have g1 := G1.out; have P1 := P1.out; have o1 := O1.out
      have hd1 : w1.heap[D]? = _ := (g1.block D (by have := HT.out; simpa [World.setCell] using this) (fun e => HN.out D e.symm rfl)).trans ((wrote_refl HB.out).set 10 (.bool false)).there
      have hvk := HV.out
      refine ⟨rfl, ⟨.inl HM.out, ?_, ?_, ⟨by show -1 ≤ (if 0 < st.left then st.left - 1 else st.left); split <;> omega, by show (if 0 < st.left then st.left - 1 else st.left) ≤ _; split <;> omega⟩, upd v 0 (.slice ad2 n2 c2), lf, false, (there_down HD.out ((wrote_refl hd1).set 0 (.slice ad2 n2 c2)).there), ?_, .inr ⟨rfl, by show (if 0 < st.left then st.left - 1 else st.left) = -1; rw [if_neg (by omega)]; exact hlf⟩⟩, ?_⟩
      · intro j hj
        show (upd st.b 0 (st.b 0 ++ xs) j).length ≤ 1048576
        by_cases e : j = 0
        · subst e; rw [upd_at, List.length_append]; have := HU.out; omega
        · rw [upd_ne _ _ e]; exact HF.out j hj
      · intro j hj
        show st.s j ≤ (upd st.b 0 (st.b 0 ++ xs) j).length
        by_cases e : j = 0
        · subst e; rw [upd_at, List.length_append]; have := HS.out 0 hj; omega
        · rw [upd_ne _ _ e]; exact HS.out j hj
      · refine HR.out.updRow (k := 0) hk HT.out (fun j hj hne hne2 => ?_) ?_ ?_
        · rw [Below.heap_setCell _ _ _ _ hne, g1.block j (by simpa [World.setCell] using hj) (by rw [← hvk]; exact hne2)]
          exact ((wrote_refl HB.out).set 10 (.bool false)).rest j hne
        · exact own_set o1 (fun g hg => by
            rcases P1 g hg with h1 | h1
            · exact HN.out g h1
            · have := HT.out; simp [World.setCell] at h1; omega)
        · intro g hg
          rcases P1 g hg with h1 | h1
          · exact .inl (by rw [hvk]; exact h1)
          · exact .inr (by simpa [World.setCell] using h1)
      · refine Fr.set (Fr.grown (w1 := _) ((Fr.refl F w).set HM.out 10 _) g1 (fun k hk' => .inl (HR.out.foot 0 k hk (by rw [hvk]; exact hk'.symm ▸ rfl)).1)) HM.out _ _
    · simp only [Nat.reduceMul, Nat.reduceAdd] at hcv hcs fk fk1
      go_enter Tryd.func58, Tryd.ntmps58
      go_wp2_with fail
      refine K.out.mono ?_
      rintro e w' ⟨rfl, rfl⟩
      go_wp2_with (first | (at_builtin; go_loud (refine wpList_append_txt2 (by rfl) _ _ (by rfl) 0 (.slice av (st.b 1).length cv) (st.b 1) (by rfl) (by exact (own_set HO.out HN.out)) (.slice ad n c) xs (by rfl) (HX.out _ (by exact ((Fr.refl F w).set HM.out 10 _))) (by have a := HF.out 1 hk; have b := HXL.out; omega) (Nat.zero_le _) ?_; intro ad2 n2 c2 w1 o1 g1 p1; have e1 := (World.grownBy.cell g1 (a := ⟨D, 2 * 1, none⟩) (by go_simp; rfl) (fun e => HN.out D e.symm rfl)); have e1f : w1.frozen? ⟨D, 2 * 1, none⟩ = false := (World.frozen?_of_block (w := _) (g1.block D (by have := HT.out; simpa [World.setCell] using this) (fun e => HN.out D e.symm rfl))).trans (by go_simp); have e10 := (World.grownBy.cell g1 (a := ⟨D, 10, none⟩) (by go_simp; rfl) (fun e => HN.out D e.symm rfl)); have O1 := Lib.hid o1; have G1 := Lib.hid g1; have P1 := Lib.hid p1; clear o1 g1 p1 hcv hcs c8 c9 c10 f8 f9 f10 fk fk1; simp only [Nat.reduceMul] at e1 e1f)) | go_in)
      go_end0
      go_wp2
      go_ret
      have hlf := HLF.out; have hl := HL.out; have hdn := HD.out; have hpos := HPOS.out
      have hfit := HF.out 1 hk
      have hcf : callF 0 st ((1 : Nat) : Int) xs = _ := callF_done HW.out (by have := HU.out; omega) (by omega)
      unfold CallEnd
      rw [hcf]
      have g1 := G1.out; have P1 := P1.out; have o1 := O1.out
      have hd1 : w1.heap[D]? = _ := (g1.block D (by have := HT.out; simpa [World.setCell] using this) (fun e => HN.out D e.symm rfl)).trans ((wrote_refl HB.out).set 10 (.bool false)).there
      have hvk := HV.out
      refine ⟨rfl, ⟨.inl HM.out, ?_, ?_, ⟨by show -1 ≤ (if 0 < st.left then st.left - 1 else st.left); split <;> omega, by show (if 0 < st.left then st.left - 1 else st.left) ≤ _; split <;> omega⟩, upd v 1 (.slice ad2 n2 c2), lf, false, (there_down HD.out ((wrote_refl hd1).set 2 (.slice ad2 n2 c2)).there), ?_, .inr ⟨rfl, by show (if 0 < st.left then st.left - 1 else st.left) = -1; rw [if_neg (by omega)]; exact hlf⟩⟩, ?_⟩
      · intro j hj
        show (upd st.b 1 (st.b 1 ++ xs) j).length ≤ 1048576
        by_cases e : j = 1
        · subst e; rw [upd_at, List.length_append]; have := HU.out; omega
        · rw [upd_ne _ _ e]; exact HF.out j hj
      · intro j hj
        show st.s j ≤ (upd st.b 1 (st.b 1 ++ xs) j).length
        by_cases e : j = 1
        · subst e; rw [upd_at, List.length_append]; have := HS.out 1 hj; omega
        · rw [upd_ne _ _ e]; exact HS.out j hj
      · refine HR.out.updRow (k := 1) hk HT.out (fun j hj hne hne2 => ?_) ?_ ?_
        · rw [Below.heap_setCell _ _ _ _ hne, g1.block j (by simpa [World.setCell] using hj) (by rw [← hvk]; exact hne2)]
          exact ((wrote_refl HB.out).set 10 (.bool false)).rest j hne
        · exact own_set o1 (fun g hg => by
            rcases P1 g hg with h1 | h1
            · exact HN.out g h1
            · have := HT.out; simp [World.setCell] at h1; omega)
        · intro g hg
          rcases P1 g hg with h1 | h1
          · exact .inl (by rw [hvk]; exact h1)
          · exact .inr (by simpa [World.setCell] using h1)
      · refine Fr.set (Fr.grown (w1 := _) ((Fr.refl F w).set HM.out 10 _) g1 (fun k hk' => .inl (HR.out.foot 1 k hk (by rw [hvk]; exact hk'.symm ▸ rfl)).1)) HM.out _ _
    · simp only [Nat.reduceMul, Nat.reduceAdd] at hcv hcs fk fk1
      go_enter Tryd.func58, Tryd.ntmps58
      go_wp2_with fail
      refine K.out.mono ?_
      rintro e w' ⟨rfl, rfl⟩
      go_wp2_with (first | (at_builtin; go_loud (refine wpList_append_txt2 (by rfl) _ _ (by rfl) 0 (.slice av (st.b 2).length cv) (st.b 2) (by rfl) (by exact (own_set HO.out HN.out)) (.slice ad n c) xs (by rfl) (HX.out _ (by exact ((Fr.refl F w).set HM.out 10 _))) (by have a := HF.out 2 hk; have b := HXL.out; omega) (Nat.zero_le _) ?_; intro ad2 n2 c2 w1 o1 g1 p1; have e1 := (World.grownBy.cell g1 (a := ⟨D, 2 * 2, none⟩) (by go_simp; rfl) (fun e => HN.out D e.symm rfl)); have e1f : w1.frozen? ⟨D, 2 * 2, none⟩ = false := (World.frozen?_of_block (w := _) (g1.block D (by have := HT.out; simpa [World.setCell] using this) (fun e => HN.out D e.symm rfl))).trans (by go_simp); have e10 := (World.grownBy.cell g1 (a := ⟨D, 10, none⟩) (by go_simp; rfl) (fun e => HN.out D e.symm rfl)); have O1 := Lib.hid o1; have G1 := Lib.hid g1; have P1 := Lib.hid p1; clear o1 g1 p1 hcv hcs c8 c9 c10 f8 f9 f10 fk fk1; simp only [Nat.reduceMul] at e1 e1f)) | go_in)
      go_end0
      go_wp2
      go_ret
      have hlf := HLF.out; have hl := HL.out; have hdn := HD.out; have hpos := HPOS.out
      have hfit := HF.out 2 hk
      have hcf : callF 0 st ((2 : Nat) : Int) xs = _ := callF_done HW.out (by have := HU.out; omega) (by omega)
      unfold CallEnd
      rw [hcf]
      have g1 := G1.out; have P1 := P1.out; have o1 := O1.out
      have hd1 : w1.heap[D]? = _ := (g1.block D (by have := HT.out; simpa [World.setCell] using this) (fun e => HN.out D e.symm rfl)).trans ((wrote_refl HB.out).set 10 (.bool false)).there
      have hvk := HV.out
      refine ⟨rfl, ⟨.inl HM.out, ?_, ?_, ⟨by show -1 ≤ (if 0 < st.left then st.left - 1 else st.left); split <;> omega, by show (if 0 < st.left then st.left - 1 else st.left) ≤ _; split <;> omega⟩, upd v 2 (.slice ad2 n2 c2), lf, false, (there_down HD.out ((wrote_refl hd1).set 4 (.slice ad2 n2 c2)).there), ?_, .inr ⟨rfl, by show (if 0 < st.left then st.left - 1 else st.left) = -1; rw [if_neg (by omega)]; exact hlf⟩⟩, ?_⟩
      · intro j hj
        show (upd st.b 2 (st.b 2 ++ xs) j).length ≤ 1048576
        by_cases e : j = 2
        · subst e; rw [upd_at, List.length_append]; have := HU.out; omega
        · rw [upd_ne _ _ e]; exact HF.out j hj
      · intro j hj
        show st.s j ≤ (upd st.b 2 (st.b 2 ++ xs) j).length
        by_cases e : j = 2
        · subst e; rw [upd_at, List.length_append]; have := HS.out 2 hj; omega
        · rw [upd_ne _ _ e]; exact HS.out j hj
      · refine HR.out.updRow (k := 2) hk HT.out (fun j hj hne hne2 => ?_) ?_ ?_
        · rw [Below.heap_setCell _ _ _ _ hne, g1.block j (by simpa [World.setCell] using hj) (by rw [← hvk]; exact hne2)]
          exact ((wrote_refl HB.out).set 10 (.bool false)).rest j hne
        · exact own_set o1 (fun g hg => by
            rcases P1 g hg with h1 | h1
            · exact HN.out g h1
            · have := HT.out; simp [World.setCell] at h1; omega)
        · intro g hg
          rcases P1 g hg with h1 | h1
          · exact .inl (by rw [hvk]; exact h1)
          · exact .inr (by simpa [World.setCell] using h1)
      · refine Fr.set (Fr.grown (w1 := _) ((Fr.refl F w).set HM.out 10 _) g1 (fun k hk' => .inl (HR.out.foot 2 k hk (by rw [hvk]; exact hk'.symm ▸ rfl)).1)) HM.out _ _
    · simp only [Nat.reduceMul, Nat.reduceAdd] at hcv hcs fk fk1
      go_enter Tryd.func58, Tryd.ntmps58
      go_wp2_with fail
      refine K.out.mono ?_
      rintro e w' ⟨rfl, rfl⟩
      go_wp2_with (first | (at_builtin; go_loud (refine wpList_append_txt2 (by rfl) _ _ (by rfl) 0 (.slice av (st.b 3).length cv) (st.b 3) (by rfl) (by exact (own_set HO.out HN.out)) (.slice ad n c) xs (by rfl) (HX.out _ (by exact ((Fr.refl F w).set HM.out 10 _))) (by have a := HF.out 3 hk; have b := HXL.out; omega) (Nat.zero_le _) ?_; intro ad2 n2 c2 w1 o1 g1 p1; have e1 := (World.grownBy.cell g1 (a := ⟨D, 2 * 3, none⟩) (by go_simp; rfl) (fun e => HN.out D e.symm rfl)); have e1f : w1.frozen? ⟨D, 2 * 3, none⟩ = false := (World.frozen?_of_block (w := _) (g1.block D (by have := HT.out; simpa [World.setCell] using this) (fun e => HN.out D e.symm rfl))).trans (by go_simp); have e10 := (World.grownBy.cell g1 (a := ⟨D, 10, none⟩) (by go_simp; rfl) (fun e => HN.out D e.symm rfl)); have O1 := Lib.hid o1; have G1 := Lib.hid g1; have P1 := Lib.hid p1; clear o1 g1 p1 hcv hcs c8 c9 c10 f8 f9 f10 fk fk1; simp only [Nat.reduceMul] at e1 e1f)) | go_in)
      go_end0
      go_wp2
      go_ret
      have hlf := HLF.out; have hl := HL.out; have hdn := HD.out; have hpos := HPOS.out
      have hfit := HF.out 3 hk
      have hcf : callF 0 st ((3 : Nat) : Int) xs = _ := callF_done HW.out (by have := HU.out; omega) (by omega)
      unfold CallEnd
      rw [hcf]
      have g1 := G1.out; have P1 := P1.out; have o1 := O1.out
      have hd1 : w1.heap[D]? = _ := (g1.block D (by have := HT.out; simpa [World.setCell] using this) (fun e => HN.out D e.symm rfl)).trans ((wrote_refl HB.out).set 10 (.bool false)).there
      have hvk := HV.out
      refine ⟨rfl, ⟨.inl HM.out, ?_, ?_, ⟨by show -1 ≤ (if 0 < st.left then st.left - 1 else st.left); split <;> omega, by show (if 0 < st.left then st.left - 1 else st.left) ≤ _; split <;> omega⟩, upd v 3 (.slice ad2 n2 c2), lf, false, (there_down HD.out ((wrote_refl hd1).set 6 (.slice ad2 n2 c2)).there), ?_, .inr ⟨rfl, by show (if 0 < st.left then st.left - 1 else st.left) = -1; rw [if_neg (by omega)]; exact hlf⟩⟩, ?_⟩
      · intro j hj
        show (upd st.b 3 (st.b 3 ++ xs) j).length ≤ 1048576
        by_cases e : j = 3
        · subst e; rw [upd_at, List.length_append]; have := HU.out; omega
        · rw [upd_ne _ _ e]; exact HF.out j hj
      · intro j hj
        show st.s j ≤ (upd st.b 3 (st.b 3 ++ xs) j).length
        by_cases e : j = 3
        · subst e; rw [upd_at, List.length_append]; have := HS.out 3 hj; omega
        · rw [upd_ne _ _ e]; exact HS.out j hj
      · refine HR.out.updRow (k := 3) hk HT.out (fun j hj hne hne2 => ?_) ?_ ?_
        · rw [Below.heap_setCell _ _ _ _ hne, g1.block j (by simpa [World.setCell] using hj) (by rw [← hvk]; exact hne2)]
          exact ((wrote_refl HB.out).set 10 (.bool false)).rest j hne
        · exact own_set o1 (fun g hg => by
            rcases P1 g hg with h1 | h1
            · exact HN.out g h1
            · have := HT.out; simp [World.setCell] at h1; omega)
        · intro g hg
          rcases P1 g hg with h1 | h1
          · exact .inl (by rw [hvk]; exact h1)
          · exact .inr (by simpa [World.setCell] using h1)
      · refine Fr.set (Fr.grown (w1 := _) ((Fr.refl F w).set HM.out 10 _) g1 (fun k hk' => .inl (HR.out.foot 3 k hk (by rw [hvk]; exact hk'.symm ▸ rfl)).1)) HM.out _ _
end
section
open Go.ChangeShapes Go.WideShapes Go.ChangeAt Go.RowKit
attribute [local go_sem ↓] Go.wp_at_zero Go.wp_at_succ comesTo_value_eq comesTo_skip_eq comesTo_enter_eq

set_option maxRecDepth 100000 in
set_option maxHeartbeats 4000000 in
theorem call1_dk {w : World} {D : Nat} {F : Nat → Prop} {st : DS} (h : Dk w D F st) (f : Int) : Calls Tryd.prog 58 #[.pointer (some ⟨D, 0, none⟩), .int .i64 1, .int .i64 f, (.slice none 0 0)] w fun e w' => CallEnd 1 w D F st f [] e w' := by
  have K := Lib.hid (wrong_dk h f)
  by_cases hw : wrongF st.down f = 0
  case neg =>
    have HE : CallEnd 1 w D F st f [] (.returned (.int .i64 (wrongF st.down f))) w := by
      refine ⟨?_, ?_, Fr.refl _ _⟩ <;> rw [callF_wrong hw]
      exact h.same
    have HH := Lib.hid HE
    clear h HE
    have hne : ¬ (wrongF st.down f = 0) := hw
    generalize wrongF st.down f = q at *
    go_enter Tryd.func58, Tryd.ntmps58
    go_wp2_with fail
    refine K.out.mono ?_
    rintro e w' ⟨rfl, rfl⟩
    go_wp2_with fail
    go_ret
    exact HH.out
  obtain ⟨hdn, hf0, hf3⟩ := wrongF_zero hw
  obtain ⟨k, rfl⟩ : ∃ k : Nat, f = (k : Int) := ⟨f.toNat, by omega⟩
  have hk : k < 4 := by omega
  have HA := Lib.hid h
  rw [hw] at K
  obtain ⟨hm, hft, hsf, hl, v, lf, ar, hb, hr, hx⟩ := h
  have hfit := hft k hk
  have hlt : D < w.heap.size := (Array.getElem?_eq_some_iff.1 hb).1
  obtain ⟨av, cv, hvk⟩ : ∃ av cv, v k = .slice av (st.b k).length cv := by
    rcases (hr.own k hk).form with ⟨h1, h2⟩ | ⟨g, c, h1, _⟩
    · exact ⟨none, 0, by rw [h1, h2]; rfl⟩
    · exact ⟨_, c, h1⟩
  have hwr : IntKind.i64.wrap (1048576 - ((st.b k).length : Int)) = 1048576 - ((st.b k).length : Int) := IntWalk.i64_in _ (by omega)
  have hcv : w.cell? ⟨D, 2 * k, none⟩ = some (.slice av (st.b k).length cv) := by
    rw [← hvk]
    rcases (by omega : k = 0 ∨ k = 1 ∨ k = 2 ∨ k = 3) with rfl | rfl | rfl | rfl <;> exact cell_of_block hb rfl
  have hcs : w.cell? ⟨D, 2 * k + 1, none⟩ = some (.int .i64 (st.s k)) := by
    rcases (by omega : k = 0 ∨ k = 1 ∨ k = 2 ∨ k = 3) with rfl | rfl | rfl | rfl <;> exact cell_of_block hb rfl
  have c8 : w.cell? ⟨D, 8, none⟩ = some (.int .i64 lf) := cell_of_block hb rfl
  have c9 : w.cell? ⟨D, 9, none⟩ = some (.bool ar) := cell_of_block hb rfl
  have c10 : w.cell? ⟨D, 10, none⟩ = some (.bool false) := by rw [← hdn]; exact cell_of_block hb rfl
  have f8 := free_of_block 8 hb
  have f9 := free_of_block 9 hb
  have f10 := free_of_block 10 hb
  have fk := free_of_block (2 * k) hb
  have fk1 := free_of_block (2 * k + 1) hb
  have hfull : ¬ 1048576 - ((st.b k).length : Int) < (([] : List Int).length : Int) := by simp; omega
  have hd : decide ((0 : Int) > 1048576 - ((st.b k).length : Int)) = false := decide_eq_false (by omega)
  have hne : ∀ g, (v k).ownBlock = some g → g ≠ D := fun g hg => (hr.foot k g hk hg).2
  have HO := Lib.hid (hvk ▸ hr.own k hk : OwnTxt w 0 (.slice av (st.b k).length cv) (st.b k))
  have HN := Lib.hid (hvk ▸ hne : ∀ g, (Value.slice av (st.b k).length cv).ownBlock = some g → g ≠ D)
  have HR := Lib.hid hr
  have HB := Lib.hid hb
  have HM := Lib.hid hm
  have HV := Lib.hid hvk
  have HF := Lib.hid hft
  have HS := Lib.hid hsf
  have HL := Lib.hid hl
  have HW := Lib.hid hw
  have HU := Lib.hid hfull
  have HD := Lib.hid hdn
  have HT := Lib.hid hlt
  have hidx : ∀ w : World, Sem.run Tryd.prog (Instr.index 136 (.agg #[.func (.func 73) #[] #[], .func (.func 74) #[] #[], .func (.func 75) #[] #[]]) (.int .i64 1)) w = .ok (.func (.func 74) #[] #[]) w := fun w => by kernel_rfl
  rcases hx with ⟨rfl, hlf, hpos⟩ | ⟨rfl, hlf⟩
  · have hp0 : 0 ≤ lf := by rcases hpos with h | h; exact h; rw [hdn] at h; cases h
    by_cases hz : lf = 0
    · subst hz
      have HLF := Lib.hid hlf
      have HPOS := Lib.hid (hpos)
      clear hfit hf0 hf3 hne hr hb hm hvk hft hsf hl hw hfull hdn hlt hlf hpos
      rcases (by omega : k = 0 ∨ k = 1 ∨ k = 2 ∨ k = 3) with rfl | rfl | rfl | rfl
      · simp only [Nat.reduceMul, Nat.reduceAdd] at hcv hcs fk fk1
        go_enter Tryd.func58, Tryd.ntmps58
        go_wp2_with fail
        refine K.out.mono ?_
        rintro e w' ⟨rfl, rfl⟩
        go_wp2_with (fail)
        go_ret
        have hlf := HLF.out; have hl := HL.out; have hdn := HD.out; have hpos := HPOS.out
        have hfit := HF.out 0 hk
        have hcf : callF 1 st ((0 : Nat) : Int) [] = _ := callF_downs HW.out (by have := HU.out; omega) (by omega)
        unfold CallEnd
        rw [hcf]
        exact ⟨rfl, ⟨.inl HM.out, HF.out, HS.out, ⟨by show -1 ≤ (-1 : Int); omega, by show (-1 : Int) ≤ _; omega⟩, v, (-1), true, (((wrote_refl HB.out).set 10 (.bool true)).set 8 (.int .i64 (-1))).there, HR.out.keep (fun j hj hne => (((wrote_refl HB.out).set 10 (.bool true)).set 8 (.int .i64 (-1))).rest j hne), .inl ⟨rfl, rfl, .inr rfl⟩⟩, (((Fr.refl F w).set HM.out 10 _).set HM.out 8 _)⟩
      · simp only [Nat.reduceMul, Nat.reduceAdd] at hcv hcs fk fk1
        go_enter Tryd.func58, Tryd.ntmps58
        go_wp2_with fail
        refine K.out.mono ?_
        rintro e w' ⟨rfl, rfl⟩
        go_wp2_with (fail)
        go_ret
        have hlf := HLF.out; have hl := HL.out; have hdn := HD.out; have hpos := HPOS.out
        have hfit := HF.out 1 hk
        have hcf : callF 1 st ((1 : Nat) : Int) [] = _ := callF_downs HW.out (by have := HU.out; omega) (by omega)
        unfold CallEnd
        rw [hcf]
        exact ⟨rfl, ⟨.inl HM.out, HF.out, HS.out, ⟨by show -1 ≤ (-1 : Int); omega, by show (-1 : Int) ≤ _; omega⟩, v, (-1), true, (((wrote_refl HB.out).set 10 (.bool true)).set 8 (.int .i64 (-1))).there, HR.out.keep (fun j hj hne => (((wrote_refl HB.out).set 10 (.bool true)).set 8 (.int .i64 (-1))).rest j hne), .inl ⟨rfl, rfl, .inr rfl⟩⟩, (((Fr.refl F w).set HM.out 10 _).set HM.out 8 _)⟩
      · simp only [Nat.reduceMul, Nat.reduceAdd] at hcv hcs fk fk1
        go_enter Tryd.func58, Tryd.ntmps58
        go_wp2_with fail
        refine K.out.mono ?_
        rintro e w' ⟨rfl, rfl⟩
        go_wp2_with (fail)
        go_ret
        have hlf := HLF.out; have hl := HL.out; have hdn := HD.out; have hpos := HPOS.out
        have hfit := HF.out 2 hk
        have hcf : callF 1 st ((2 : Nat) : Int) [] = _ := callF_downs HW.out (by have := HU.out; omega) (by omega)
        unfold CallEnd
        rw [hcf]
        exact ⟨rfl, ⟨.inl HM.out, HF.out, HS.out, ⟨by show -1 ≤ (-1 : Int); omega, by show (-1 : Int) ≤ _; omega⟩, v, (-1), true, (((wrote_refl HB.out).set 10 (.bool true)).set 8 (.int .i64 (-1))).there, HR.out.keep (fun j hj hne => (((wrote_refl HB.out).set 10 (.bool true)).set 8 (.int .i64 (-1))).rest j hne), .inl ⟨rfl, rfl, .inr rfl⟩⟩, (((Fr.refl F w).set HM.out 10 _).set HM.out 8 _)⟩
      · simp only [Nat.reduceMul, Nat.reduceAdd] at hcv hcs fk fk1
        go_enter Tryd.func58, Tryd.ntmps58
        go_wp2_with fail
        refine K.out.mono ?_
        rintro e w' ⟨rfl, rfl⟩
        go_wp2_with (fail)
        go_ret
        have hlf := HLF.out; have hl := HL.out; have hdn := HD.out; have hpos := HPOS.out
        have hfit := HF.out 3 hk
        have hcf : callF 1 st ((3 : Nat) : Int) [] = _ := callF_downs HW.out (by have := HU.out; omega) (by omega)
        unfold CallEnd
        rw [hcf]
        exact ⟨rfl, ⟨.inl HM.out, HF.out, HS.out, ⟨by show -1 ≤ (-1 : Int); omega, by show (-1 : Int) ≤ _; omega⟩, v, (-1), true, (((wrote_refl HB.out).set 10 (.bool true)).set 8 (.int .i64 (-1))).there, HR.out.keep (fun j hj hne => (((wrote_refl HB.out).set 10 (.bool true)).set 8 (.int .i64 (-1))).rest j hne), .inl ⟨rfl, rfl, .inr rfl⟩⟩, (((Fr.refl F w).set HM.out 10 _).set HM.out 8 _)⟩
    · have hq : (lf == 0) = false := by simpa using hz
      have hz2 : decide (lf = 0) = false := decide_eq_false hz
      have hw1 : IntKind.i64.wrap (lf - 1) = lf - 1 := IntWalk.i64_in _ (by omega)
      have HLF := Lib.hid hlf
      have HPOS := Lib.hid (hpos)
      clear hfit hf0 hf3 hne hr hb hm hvk hft hsf hl hw hfull hdn hlt hlf hpos
      rcases (by omega : k = 0 ∨ k = 1 ∨ k = 2 ∨ k = 3) with rfl | rfl | rfl | rfl
      · simp only [Nat.reduceMul, Nat.reduceAdd] at hcv hcs fk fk1
        go_enter Tryd.func58, Tryd.ntmps58
        go_wp2_with fail
        refine K.out.mono ?_
        rintro e w' ⟨rfl, rfl⟩
        go_wp2_with (go_in)
        go_end0
        go_wp2
        go_ret
        have hlf := HLF.out; have hl := HL.out; have hdn := HD.out; have hpos := HPOS.out
        have hfit := HF.out 0 hk
        have hcf : callF 1 st ((0 : Nat) : Int) [] = _ := callF_done HW.out (by have := HU.out; omega) (by omega)
        unfold CallEnd
        rw [hcf]
        refine ⟨rfl, ⟨.inl HM.out, HF.out, ?_, ⟨by show -1 ≤ (if 0 < st.left then st.left - 1 else st.left); split <;> omega, by show (if 0 < st.left then st.left - 1 else st.left) ≤ _; split <;> omega⟩, v, (lf - 1), true, (there_down HD.out ((((wrote_refl HB.out).set 10 (.bool false)).set 8 (.int .i64 (lf - 1))).set 1 (.int .i64 ((st.b 0).length : Int))).there), HR.out.keep (fun j hj hne => ((((wrote_refl HB.out).set 10 (.bool false)).set 8 (.int .i64 (lf - 1))).set 1 (.int .i64 ((st.b 0).length : Int))).rest j hne), .inl ⟨rfl, by show lf - 1 = (if 0 < st.left then st.left - 1 else st.left); rw [if_pos (by omega)]; omega, .inl (by omega)⟩⟩, (((Fr.refl F w).set HM.out 10 _).set HM.out 8 _).set HM.out 1 _⟩
        intro j hj
        show upd st.s 0 (st.b 0).length j ≤ (st.b j).length
        by_cases e : j = 0
        · subst e; rw [upd_at]; omega
        · rw [upd_ne _ _ e]; exact HS.out j hj
      · simp only [Nat.reduceMul, Nat.reduceAdd] at hcv hcs fk fk1
        go_enter Tryd.func58, Tryd.ntmps58
        go_wp2_with fail
        refine K.out.mono ?_
        rintro e w' ⟨rfl, rfl⟩
        go_wp2_with (go_in)
        go_end0
        go_wp2
        go_ret
        have hlf := HLF.out; have hl := HL.out; have hdn := HD.out; have hpos := HPOS.out
        have hfit := HF.out 1 hk
        have hcf : callF 1 st ((1 : Nat) : Int) [] = _ := callF_done HW.out (by have := HU.out; omega) (by omega)
        unfold CallEnd
        rw [hcf]
        refine ⟨rfl, ⟨.inl HM.out, HF.out, ?_, ⟨by show -1 ≤ (if 0 < st.left then st.left - 1 else st.left); split <;> omega, by show (if 0 < st.left then st.left - 1 else st.left) ≤ _; split <;> omega⟩, v, (lf - 1), true, (there_down HD.out ((((wrote_refl HB.out).set 10 (.bool false)).set 8 (.int .i64 (lf - 1))).set 3 (.int .i64 ((st.b 1).length : Int))).there), HR.out.keep (fun j hj hne => ((((wrote_refl HB.out).set 10 (.bool false)).set 8 (.int .i64 (lf - 1))).set 3 (.int .i64 ((st.b 1).length : Int))).rest j hne), .inl ⟨rfl, by show lf - 1 = (if 0 < st.left then st.left - 1 else st.left); rw [if_pos (by omega)]; omega, .inl (by omega)⟩⟩, (((Fr.refl F w).set HM.out 10 _).set HM.out 8 _).set HM.out 3 _⟩
        intro j hj
        show upd st.s 1 (st.b 1).length j ≤ (st.b j).length
        by_cases e : j = 1
        · subst e; rw [upd_at]; omega
        · rw [upd_ne _ _ e]; exact HS.out j hj
      · simp only [Nat.reduceMul, Nat.reduceAdd] at hcv hcs fk fk1
        go_enter Tryd.func58, Tryd.ntmps58
        go_wp2_with fail
        refine K.out.mono ?_
        rintro e w' ⟨rfl, rfl⟩
        go_wp2_with (go_in)
        go_end0
        go_wp2
        go_ret
        have hlf := HLF.out; have hl := HL.out; have hdn := HD.out; have hpos := HPOS.out
        have hfit := HF.out 2 hk
        have hcf : callF 1 st ((2 : Nat) : Int) [] = _ := callF_done HW.out (by have := HU.out; omega) (by omega)
        unfold CallEnd
        rw [hcf]
        refine ⟨rfl, ⟨.inl HM.out, HF.out, ?_, ⟨by show -1 ≤ (if 0 < st.left then st.left - 1 else st.left); split <;> omega, by show (if 0 < st.left then st.left - 1 else st.left) ≤ _; split <;> omega⟩, v, (lf - 1), true, (there_down HD.out ((((wrote_refl HB.out).set 10 (.bool false)).set 8 (.int .i64 (lf - 1))).set 5 (.int .i64 ((st.b 2).length : Int))).there), HR.out.keep (fun j hj hne => ((((wrote_refl HB.out).set 10 (.bool false)).set 8 (.int .i64 (lf - 1))).set 5 (.int .i64 ((st.b 2).length : Int))).rest j hne), .inl ⟨rfl, by show lf - 1 = (if 0 < st.left then st.left - 1 else st.left); rw [if_pos (by omega)]; omega, .inl (by omega)⟩⟩, (((Fr.refl F w).set HM.out 10 _).set HM.out 8 _).set HM.out 5 _⟩
        intro j hj
        show upd st.s 2 (st.b 2).length j ≤ (st.b j).length
        by_cases e : j = 2
        · subst e; rw [upd_at]; omega
        · rw [upd_ne _ _ e]; exact HS.out j hj
      · simp only [Nat.reduceMul, Nat.reduceAdd] at hcv hcs fk fk1
        go_enter Tryd.func58, Tryd.ntmps58
        go_wp2_with fail
        refine K.out.mono ?_
        rintro e w' ⟨rfl, rfl⟩
        go_wp2_with (go_in)
        go_end0
        go_wp2
        go_ret
        have hlf := HLF.out; have hl := HL.out; have hdn := HD.out; have hpos := HPOS.out
        have hfit := HF.out 3 hk
        have hcf : callF 1 st ((3 : Nat) : Int) [] = _ := callF_done HW.out (by have := HU.out; omega) (by omega)
        unfold CallEnd
        rw [hcf]
        refine ⟨rfl, ⟨.inl HM.out, HF.out, ?_, ⟨by show -1 ≤ (if 0 < st.left then st.left - 1 else st.left); split <;> omega, by show (if 0 < st.left then st.left - 1 else st.left) ≤ _; split <;> omega⟩, v, (lf - 1), true, (there_down HD.out ((((wrote_refl HB.out).set 10 (.bool false)).set 8 (.int .i64 (lf - 1))).set 7 (.int .i64 ((st.b 3).length : Int))).there), HR.out.keep (fun j hj hne => ((((wrote_refl HB.out).set 10 (.bool false)).set 8 (.int .i64 (lf - 1))).set 7 (.int .i64 ((st.b 3).length : Int))).rest j hne), .inl ⟨rfl, by show lf - 1 = (if 0 < st.left then st.left - 1 else st.left); rw [if_pos (by omega)]; omega, .inl (by omega)⟩⟩, (((Fr.refl F w).set HM.out 10 _).set HM.out 8 _).set HM.out 7 _⟩
        intro j hj
        show upd st.s 3 (st.b 3).length j ≤ (st.b j).length
        by_cases e : j = 3
        · subst e; rw [upd_at]; omega
        · rw [upd_ne _ _ e]; exact HS.out j hj
  · have HLF := Lib.hid hlf
    have HPOS := Lib.hid (True.intro)
    clear hfit hf0 hf3 hne hr hb hm hvk hft hsf hl hw hfull hdn hlt hlf
    rcases (by omega : k = 0 ∨ k = 1 ∨ k = 2 ∨ k = 3) with rfl | rfl | rfl | rfl
    · simp only [Nat.reduceMul, Nat.reduceAdd] at hcv hcs fk fk1
      go_enter Tryd.func58, Tryd.ntmps58
      go_wp2_with fail
      refine K.out.mono ?_
      rintro e w' ⟨rfl, rfl⟩
      go_wp2_with (go_in)
      go_end0
      go_wp2
      go_ret
      have hlf := HLF.out; have hl := HL.out; have hdn := HD.out; have hpos := HPOS.out
      have hfit := HF.out 0 hk
      have hcf : callF 1 st ((0 : Nat) : Int) [] = _ := callF_done HW.out (by have := HU.out; omega) (by omega)
      unfold CallEnd
      rw [hcf]
      refine ⟨rfl, ⟨.inl HM.out, HF.out, ?_, ⟨by show -1 ≤ (if 0 < st.left then st.left - 1 else st.left); split <;> omega, by show (if 0 < st.left then st.left - 1 else st.left) ≤ _; split <;> omega⟩, v, lf, false, (there_down HD.out (((wrote_refl HB.out).set 10 (.bool false)).set 1 (.int .i64 ((st.b 0).length : Int))).there), HR.out.keep (fun j hj hne => (((wrote_refl HB.out).set 10 (.bool false)).set 1 (.int .i64 ((st.b 0).length : Int))).rest j hne), .inr ⟨rfl, by show (if 0 < st.left then st.left - 1 else st.left) = -1; rw [if_neg (by omega)]; exact hlf⟩⟩, ((Fr.refl F w).set HM.out 10 _).set HM.out 1 _⟩
      intro j hj
      show upd st.s 0 (st.b 0).length j ≤ (st.b j).length
      by_cases e : j = 0
      · subst e; rw [upd_at]; omega
      · rw [upd_ne _ _ e]; exact HS.out j hj
    · simp only [Nat.reduceMul, Nat.reduceAdd] at hcv hcs fk fk1
      go_enter Tryd.func58, Tryd.ntmps58
      go_wp2_with fail
      refine K.out.mono ?_
      rintro e w' ⟨rfl, rfl⟩
      go_wp2_with (go_in)
      go_end0
      go_wp2
      go_ret
      have hlf := HLF.out; have hl := HL.out; have hdn := HD.out; have hpos := HPOS.out
      have hfit := HF.out 1 hk
      have hcf : callF 1 st ((1 : Nat) : Int) [] = _ := callF_done HW.out (by have := HU.out; omega) (by omega)
      unfold CallEnd
      rw [hcf]
      refine ⟨rfl, ⟨.inl HM.out, HF.out, ?_, ⟨by show -1 ≤ (if 0 < st.left then st.left - 1 else st.left); split <;> omega, by show (if 0 < st.left then st.left - 1 else st.left) ≤ _; split <;> omega⟩, v, lf, false, (there_down HD.out (((wrote_refl HB.out).set 10 (.bool false)).set 3 (.int .i64 ((st.b 1).length : Int))).there), HR.out.keep (fun j hj hne => (((wrote_refl HB.out).set 10 (.bool false)).set 3 (.int .i64 ((st.b 1).length : Int))).rest j hne), .inr ⟨rfl, by show (if 0 < st.left then st.left - 1 else st.left) = -1; rw [if_neg (by omega)]; exact hlf⟩⟩, ((Fr.refl F w).set HM.out 10 _).set HM.out 3 _⟩
      intro j hj
      show upd st.s 1 (st.b 1).length j ≤ (st.b j).length
      by_cases e : j = 1
      · subst e; rw [upd_at]; omega
      · rw [upd_ne _ _ e]; exact HS.out j hj
    · simp only [Nat.reduceMul, Nat.reduceAdd] at hcv hcs fk fk1
      go_enter Tryd.func58, Tryd.ntmps58
      go_wp2_with fail
      refine K.out.mono ?_
      rintro e w' ⟨rfl, rfl⟩
      go_wp2_with (go_in)
      go_end0
      go_wp2
      go_ret
      have hlf := HLF.out; have hl := HL.out; have hdn := HD.out; have hpos := HPOS.out
      have hfit := HF.out 2 hk
      have hcf : callF 1 st ((2 : Nat) : Int) [] = _ := callF_done HW.out (by have := HU.out; omega) (by omega)
      unfold CallEnd
      rw [hcf]
      refine ⟨rfl, ⟨.inl HM.out, HF.out, ?_, ⟨by show -1 ≤ (if 0 < st.left then st.left - 1 else st.left); split <;> omega, by show (if 0 < st.left then st.left - 1 else st.left) ≤ _; split <;> omega⟩, v, lf, false, (there_down HD.out (((wrote_refl HB.out).set 10 (.bool false)).set 5 (.int .i64 ((st.b 2).length : Int))).there), HR.out.keep (fun j hj hne => (((wrote_refl HB.out).set 10 (.bool false)).set 5 (.int .i64 ((st.b 2).length : Int))).rest j hne), .inr ⟨rfl, by show (if 0 < st.left then st.left - 1 else st.left) = -1; rw [if_neg (by omega)]; exact hlf⟩⟩, ((Fr.refl F w).set HM.out 10 _).set HM.out 5 _⟩
      intro j hj
      show upd st.s 2 (st.b 2).length j ≤ (st.b j).length
      by_cases e : j = 2
      · subst e; rw [upd_at]; omega
      · rw [upd_ne _ _ e]; exact HS.out j hj
    · simp only [Nat.reduceMul, Nat.reduceAdd] at hcv hcs fk fk1
      go_enter Tryd.func58, Tryd.ntmps58
      go_wp2_with fail
      refine K.out.mono ?_
      rintro e w' ⟨rfl, rfl⟩
      go_wp2_with (go_in)
      go_end0
      go_wp2
      go_ret
      have hlf := HLF.out; have hl := HL.out; have hdn := HD.out; have hpos := HPOS.out
      have hfit := HF.out 3 hk
      have hcf : callF 1 st ((3 : Nat) : Int) [] = _ := callF_done HW.out (by have := HU.out; omega) (by omega)
      unfold CallEnd
      rw [hcf]
      refine ⟨rfl, ⟨.inl HM.out, HF.out, ?_, ⟨by show -1 ≤ (if 0 < st.left then st.left - 1 else st.left); split <;> omega, by show (if 0 < st.left then st.left - 1 else st.left) ≤ _; split <;> omega⟩, v, lf, false, (there_down HD.out (((wrote_refl HB.out).set 10 (.bool false)).set 7 (.int .i64 ((st.b 3).length : Int))).there), HR.out.keep (fun j hj hne => (((wrote_refl HB.out).set 10 (.bool false)).set 7 (.int .i64 ((st.b 3).length : Int))).rest j hne), .inr ⟨rfl, by show (if 0 < st.left then st.left - 1 else st.left) = -1; rw [if_neg (by omega)]; exact hlf⟩⟩, ((Fr.refl F w).set HM.out 10 _).set HM.out 7 _⟩
      intro j hj
      show upd st.s 3 (st.b 3).length j ≤ (st.b j).length
      by_cases e : j = 3
      · subst e; rw [upd_at]; omega
      · rw [upd_ne _ _ e]; exact HS.out j hj
end
section
open Go.ChangeShapes Go.WideShapes Go.ChangeAt Go.RowKit
attribute [local go_sem ↓] Go.wp_at_zero Go.wp_at_succ comesTo_value_eq comesTo_skip_eq comesTo_enter_eq

set_option maxRecDepth 100000 in
set_option maxHeartbeats 4000000 in
theorem call2_dk {w : World} {D : Nat} {F : Nat → Prop} {st : DS} (h : Dk w D F st) (f : Int) : Calls Tryd.prog 58 #[.pointer (some ⟨D, 0, none⟩), .int .i64 2, .int .i64 f, (.slice none 0 0)] w fun e w' => CallEnd 2 w D F st f [] e w' := by
  have K := Lib.hid (wrong_dk h f)
  by_cases hw : wrongF st.down f = 0
  case neg =>
    have HE : CallEnd 2 w D F st f [] (.returned (.int .i64 (wrongF st.down f))) w := by
      refine ⟨?_, ?_, Fr.refl _ _⟩ <;> rw [callF_wrong hw]
      exact h.same
    have HH := Lib.hid HE
    clear h HE
    have hne : ¬ (wrongF st.down f = 0) := hw
    generalize wrongF st.down f = q at *
    go_enter Tryd.func58, Tryd.ntmps58
    go_wp2_with fail
    refine K.out.mono ?_
    rintro e w' ⟨rfl, rfl⟩
    go_wp2_with fail
    go_ret
    exact HH.out
  obtain ⟨hdn, hf0, hf3⟩ := wrongF_zero hw
  obtain ⟨k, rfl⟩ : ∃ k : Nat, f = (k : Int) := ⟨f.toNat, by omega⟩
  have hk : k < 4 := by omega
  have HA := Lib.hid h
  rw [hw] at K
  obtain ⟨hm, hft, hsf, hl, v, lf, ar, hb, hr, hx⟩ := h
  have hfit := hft k hk
  have hlt : D < w.heap.size := (Array.getElem?_eq_some_iff.1 hb).1
  obtain ⟨av, cv, hvk⟩ : ∃ av cv, v k = .slice av (st.b k).length cv := by
    rcases (hr.own k hk).form with ⟨h1, h2⟩ | ⟨g, c, h1, _⟩
    · exact ⟨none, 0, by rw [h1, h2]; rfl⟩
    · exact ⟨_, c, h1⟩
  have hwr : IntKind.i64.wrap (1048576 - ((st.b k).length : Int)) = 1048576 - ((st.b k).length : Int) := IntWalk.i64_in _ (by omega)
  have hcv : w.cell? ⟨D, 2 * k, none⟩ = some (.slice av (st.b k).length cv) := by
    rw [← hvk]
    rcases (by omega : k = 0 ∨ k = 1 ∨ k = 2 ∨ k = 3) with rfl | rfl | rfl | rfl <;> exact cell_of_block hb rfl
  have hcs : w.cell? ⟨D, 2 * k + 1, none⟩ = some (.int .i64 (st.s k)) := by
    rcases (by omega : k = 0 ∨ k = 1 ∨ k = 2 ∨ k = 3) with rfl | rfl | rfl | rfl <;> exact cell_of_block hb rfl
  have c8 : w.cell? ⟨D, 8, none⟩ = some (.int .i64 lf) := cell_of_block hb rfl
  have c9 : w.cell? ⟨D, 9, none⟩ = some (.bool ar) := cell_of_block hb rfl
  have c10 : w.cell? ⟨D, 10, none⟩ = some (.bool false) := by rw [← hdn]; exact cell_of_block hb rfl
  have f8 := free_of_block 8 hb
  have f9 := free_of_block 9 hb
  have f10 := free_of_block 10 hb
  have fk := free_of_block (2 * k) hb
  have fk1 := free_of_block (2 * k + 1) hb
  have hfull : ¬ 1048576 - ((st.b k).length : Int) < (([] : List Int).length : Int) := by simp; omega
  have hd : decide ((0 : Int) > 1048576 - ((st.b k).length : Int)) = false := decide_eq_false (by omega)
  have hne : ∀ g, (v k).ownBlock = some g → g ≠ D := fun g hg => (hr.foot k g hk hg).2
  have HO := Lib.hid (hvk ▸ hr.own k hk : OwnTxt w 0 (.slice av (st.b k).length cv) (st.b k))
  have HN := Lib.hid (hvk ▸ hne : ∀ g, (Value.slice av (st.b k).length cv).ownBlock = some g → g ≠ D)
  have HR := Lib.hid hr
  have HB := Lib.hid hb
  have HM := Lib.hid hm
  have HV := Lib.hid hvk
  have HF := Lib.hid hft
  have HS := Lib.hid hsf
  have HL := Lib.hid hl
  have HW := Lib.hid hw
  have HU := Lib.hid hfull
  have HD := Lib.hid hdn
  have HT := Lib.hid hlt
  have hidx : ∀ w : World, Sem.run Tryd.prog (Instr.index 136 (.agg #[.func (.func 73) #[] #[], .func (.func 74) #[] #[], .func (.func 75) #[] #[]]) (.int .i64 2)) w = .ok (.func (.func 75) #[] #[]) w := fun w => by kernel_rfl
  rcases hx with ⟨rfl, hlf, hpos⟩ | ⟨rfl, hlf⟩
  · have hp0 : 0 ≤ lf := by rcases hpos with h | h; exact h; rw [hdn] at h; cases h
    by_cases hz : lf = 0
    · subst hz
      have HLF := Lib.hid hlf
      have HPOS := Lib.hid (hpos)
      clear hfit hf0 hf3 hne hr hb hm hvk hft hsf hl hw hfull hdn hlt hlf hpos
      rcases (by omega : k = 0 ∨ k = 1 ∨ k = 2 ∨ k = 3) with rfl | rfl | rfl | rfl
      · simp only [Nat.reduceMul, Nat.reduceAdd] at hcv hcs fk fk1
        go_enter Tryd.func58, Tryd.ntmps58
        go_wp2_with fail
        refine K.out.mono ?_
        rintro e w' ⟨rfl, rfl⟩
        go_wp2_with (fail)
        go_ret
        have hlf := HLF.out; have hl := HL.out; have hdn := HD.out; have hpos := HPOS.out
        have hfit := HF.out 0 hk
        have hcf : callF 2 st ((0 : Nat) : Int) [] = _ := callF_downs HW.out (by have := HU.out; omega) (by omega)
        unfold CallEnd
        rw [hcf]
        exact ⟨rfl, ⟨.inl HM.out, HF.out, HS.out, ⟨by show -1 ≤ (-1 : Int); omega, by show (-1 : Int) ≤ _; omega⟩, v, (-1), true, (((wrote_refl HB.out).set 10 (.bool true)).set 8 (.int .i64 (-1))).there, HR.out.keep (fun j hj hne => (((wrote_refl HB.out).set 10 (.bool true)).set 8 (.int .i64 (-1))).rest j hne), .inl ⟨rfl, rfl, .inr rfl⟩⟩, (((Fr.refl F w).set HM.out 10 _).set HM.out 8 _)⟩
      · simp only [Nat.reduceMul, Nat.reduceAdd] at hcv hcs fk fk1
        go_enter Tryd.func58, Tryd.ntmps58
        go_wp2_with fail
        refine K.out.mono ?_
        rintro e w' ⟨rfl, rfl⟩
        go_wp2_with (fail)
        go_ret
        have hlf := HLF.out; have hl := HL.out; have hdn := HD.out; have hpos := HPOS.out
        have hfit := HF.out 1 hk
        have hcf : callF 2 st ((1 : Nat) : Int) [] = _ := callF_downs HW.out (by have := HU.out; omega) (by omega)
        unfold CallEnd
        rw [hcf]
        exact ⟨rfl, ⟨.inl HM.out, HF.out, HS.out, ⟨by show -1 ≤ (-1 : Int); omega, by show (-1 : Int) ≤ _; omega⟩, v, (-1), true, (((wrote_refl HB.out).set 10 (.bool true)).set 8 (.int .i64 (-1))).there, HR.out.keep (fun j hj hne => (((wrote_refl HB.out).set 10 (.bool true)).set 8 (.int .i64 (-1))).rest j hne), .inl ⟨rfl, rfl, .inr rfl⟩⟩, (((Fr.refl F w).set HM.out 10 _).set HM.out 8 _)⟩
      · simp only [Nat.reduceMul, Nat.reduceAdd] at hcv hcs fk fk1
        go_enter Tryd.func58, Tryd.ntmps58
        go_wp2_with fail
        refine K.out.mono ?_
        rintro e w' ⟨rfl, rfl⟩
        go_wp2_with (fail)
        go_ret
        have hlf := HLF.out; have hl := HL.out; have hdn := HD.out; have hpos := HPOS.out
        have hfit := HF.out 2 hk
        have hcf : callF 2 st ((2 : Nat) : Int) [] = _ := callF_downs HW.out (by have := HU.out; omega) (by omega)
        unfold CallEnd
        rw [hcf]
        exact ⟨rfl, ⟨.inl HM.out, HF.out, HS.out, ⟨by show -1 ≤ (-1 : Int); omega, by show (-1 : Int) ≤ _; omega⟩, v, (-1), true, (((wrote_refl HB.out).set 10 (.bool true)).set 8 (.int .i64 (-1))).there, HR.out.keep (fun j hj hne => (((wrote_refl HB.out).set 10 (.bool true)).set 8 (.int .i64 (-1))).rest j hne), .inl ⟨rfl, rfl, .inr rfl⟩⟩, (((Fr.refl F w).set HM.out 10 _).set HM.out 8 _)⟩
      · simp only [Nat.reduceMul, Nat.reduceAdd] at hcv hcs fk fk1
        go_enter Tryd.func58, Tryd.ntmps58
        go_wp2_with fail
        refine K.out.mono ?_
        rintro e w' ⟨rfl, rfl⟩
        go_wp2_with (fail)
        go_ret
        have hlf := HLF.out; have hl := HL.out; have hdn := HD.out; have hpos := HPOS.out
        have hfit := HF.out 3 hk
        have hcf : callF 2 st ((3 : Nat) : Int) [] = _ := callF_downs HW.out (by have := HU.out; omega) (by omega)
        unfold CallEnd
        rw [hcf]
        exact ⟨rfl, ⟨.inl HM.out, HF.out, HS.out, ⟨by show -1 ≤ (-1 : Int); omega, by show (-1 : Int) ≤ _; omega⟩, v, (-1), true, (((wrote_refl HB.out).set 10 (.bool true)).set 8 (.int .i64 (-1))).there, HR.out.keep (fun j hj hne => (((wrote_refl HB.out).set 10 (.bool true)).set 8 (.int .i64 (-1))).rest j hne), .inl ⟨rfl, rfl, .inr rfl⟩⟩, (((Fr.refl F w).set HM.out 10 _).set HM.out 8 _)⟩
    · have hq : (lf == 0) = false := by simpa using hz
      have hz2 : decide (lf = 0) = false := decide_eq_false hz
      have hw1 : IntKind.i64.wrap (lf - 1) = lf - 1 := IntWalk.i64_in _ (by omega)
      have HLF := Lib.hid hlf
      have HPOS := Lib.hid (hpos)
      clear hfit hf0 hf3 hne hr hb hm hvk hft hsf hl hw hfull hdn hlt hlf hpos
      rcases (by omega : k = 0 ∨ k = 1 ∨ k = 2 ∨ k = 3) with rfl | rfl | rfl | rfl
      · simp only [Nat.reduceMul, Nat.reduceAdd] at hcv hcs fk fk1
        go_enter Tryd.func58, Tryd.ntmps58
        go_wp2_with fail
        refine K.out.mono ?_
        rintro e w' ⟨rfl, rfl⟩
        go_wp2_with (go_in)
        go_end0
        go_wp2
        go_ret
        have hlf := HLF.out; have hl := HL.out; have hdn := HD.out; have hpos := HPOS.out
        have hfit := HF.out 0 hk
        have hcf : callF 2 st ((0 : Nat) : Int) [] = _ := callF_done HW.out (by have := HU.out; omega) (by omega)
        unfold CallEnd
        rw [hcf]
        refine ⟨rfl, ⟨.inl HM.out, ?_, ?_, ⟨by show -1 ≤ (if 0 < st.left then st.left - 1 else st.left); split <;> omega, by show (if 0 < st.left then st.left - 1 else st.left) ≤ _; split <;> omega⟩, upd v 0 (.slice none 0 0), (lf - 1), true, (there_down HD.out (((((wrote_refl HB.out).set 10 (.bool false)).set 8 (.int .i64 (lf - 1))).set 0 (.slice none 0 0)).set 1 (.int .i64 0)).there), ?_, .inl ⟨rfl, by show lf - 1 = (if 0 < st.left then st.left - 1 else st.left); rw [if_pos (by omega)]; omega, .inl (by omega)⟩⟩, ((((Fr.refl F w).set HM.out 10 _).set HM.out 8 _).set HM.out 0 _).set HM.out 1 _⟩
        · intro j hj
          show (upd st.b 0 [] j).length ≤ 1048576
          by_cases e : j = 0
          · subst e; rw [upd_at]; simp
          · rw [upd_ne _ _ e]; exact HF.out j hj
        · intro j hj
          show upd st.s 0 0 j ≤ (upd st.b 0 [] j).length
          by_cases e : j = 0
          · subst e; rw [upd_at]; omega
          · rw [upd_ne _ _ e, upd_ne _ _ e]; exact HS.out j hj
        · exact HR.out.updRow (k := 0) hk HT.out (fun j hj hne _ => (((((wrote_refl HB.out).set 10 (.bool false)).set 8 (.int .i64 (lf - 1))).set 0 (.slice none 0 0)).set 1 (.int .i64 0)).rest j hne) OwnTxt.nil (fun g hg => by cases hg)
      · simp only [Nat.reduceMul, Nat.reduceAdd] at hcv hcs fk fk1
        go_enter Tryd.func58, Tryd.ntmps58
        go_wp2_with fail
        refine K.out.mono ?_
        rintro e w' ⟨rfl, rfl⟩
        go_wp2_with (go_in)
        go_end0
        go_wp2
        go_ret
        have hlf := HLF.out; have hl := HL.out; have hdn := HD.out; have hpos := HPOS.out
        have hfit := HF.out 1 hk
        have hcf : callF 2 st ((1 : Nat) : Int) [] = _ := callF_done HW.out (by have := HU.out; omega) (by omega)
        unfold CallEnd
        rw [hcf]
        refine ⟨rfl, ⟨.inl HM.out, ?_, ?_, ⟨by show -1 ≤ (if 0 < st.left then st.left - 1 else st.left); split <;> omega, by show (if 0 < st.left then st.left - 1 else st.left) ≤ _; split <;> omega⟩, upd v 1 (.slice none 0 0), (lf - 1), true, (there_down HD.out (((((wrote_refl HB.out).set 10 (.bool false)).set 8 (.int .i64 (lf - 1))).set 2 (.slice none 0 0)).set 3 (.int .i64 0)).there), ?_, .inl ⟨rfl, by show lf - 1 = (if 0 < st.left then st.left - 1 else st.left); rw [if_pos (by omega)]; omega, .inl (by omega)⟩⟩, ((((Fr.refl F w).set HM.out 10 _).set HM.out 8 _).set HM.out 2 _).set HM.out 3 _⟩
        · intro j hj
          show (upd st.b 1 [] j).length ≤ 1048576
          by_cases e : j = 1
          · subst e; rw [upd_at]; simp
          · rw [upd_ne _ _ e]; exact HF.out j hj
        · intro j hj
          show upd st.s 1 0 j ≤ (upd st.b 1 [] j).length
          by_cases e : j = 1
          · subst e; rw [upd_at]; omega
          · rw [upd_ne _ _ e, upd_ne _ _ e]; exact HS.out j hj
        · exact HR.out.updRow (k := 1) hk HT.out (fun j hj hne _ => (((((wrote_refl HB.out).set 10 (.bool false)).set 8 (.int .i64 (lf - 1))).set 2 (.slice none 0 0)).set 3 (.int .i64 0)).rest j hne) OwnTxt.nil (fun g hg => by cases hg)
      · simp only [Nat.reduceMul, Nat.reduceAdd] at hcv hcs fk fk1
        go_enter Tryd.func58, Tryd.ntmps58
        go_wp2_with fail
        refine K.out.mono ?_
        rintro e w' ⟨rfl, rfl⟩
        go_wp2_with (go_in)
        go_end0
        go_wp2
        go_ret
        have hlf := HLF.out; have hl := HL.out; have hdn := HD.out; have hpos := HPOS.out
        have hfit := HF.out 2 hk
        have hcf : callF 2 st ((2 : Nat) : Int) [] = _ := callF_done HW.out (by have := HU.out; omega) (by omega)
        unfold CallEnd
        rw [hcf]
        refine ⟨rfl, ⟨.inl HM.out, ?_, ?_, ⟨by show -1 ≤ (if 0 < st.left then st.left - 1 else st.left); split <;> omega, by show (if 0 < st.left then st.left - 1 else st.left) ≤ _; split <;> omega⟩, upd v 2 (.slice none 0 0), (lf - 1), true, (there_down HD.out (((((wrote_refl HB.out).set 10 (.bool false)).set 8 (.int .i64 (lf - 1))).set 4 (.slice none 0 0)).set 5 (.int .i64 0)).there), ?_, .inl ⟨rfl, by show lf - 1 = (if 0 < st.left then st.left - 1 else st.left); rw [if_pos (by omega)]; omega, .inl (by omega)⟩⟩, ((((Fr.refl F w).set HM.out 10 _).set HM.out 8 _).set HM.out 4 _).set HM.out 5 _⟩
        · intro j hj
          show (upd st.b 2 [] j).length ≤ 1048576
          by_cases e : j = 2
          · subst e; rw [upd_at]; simp
          · rw [upd_ne _ _ e]; exact HF.out j hj
        · intro j hj
          show upd st.s 2 0 j ≤ (upd st.b 2 [] j).length
          by_cases e : j = 2
          · subst e; rw [upd_at]; omega
          · rw [upd_ne _ _ e, upd_ne _ _ e]; exact HS.out j hj
        · exact HR.out.updRow (k := 2) hk HT.out (fun j hj hne _ => (((((wrote_refl HB.out).set 10 (.bool false)).set 8 (.int .i64 (lf - 1))).set 4 (.slice none 0 0)).set 5 (.int .i64 0)).rest j hne) OwnTxt.nil (fun g hg => by cases hg)
      · simp only [Nat.reduceMul, Nat.reduceAdd] at hcv hcs fk fk1
        go_enter Tryd.func58, Tryd.ntmps58
        go_wp2_with fail
        refine K.out.mono ?_
        rintro e w' ⟨rfl, rfl⟩
        go_wp2_with (go_in)
        go_end0
        go_wp2
        go_ret
        have hlf := HLF.out; have hl := HL.out; have hdn := HD.out; have hpos := HPOS.out
        have hfit := HF.out 3 hk
        have hcf : callF 2 st ((3 : Nat) : Int) [] = _ := callF_done HW.out (by have := HU.out; omega) (by omega)
        unfold CallEnd
        rw [hcf]
        refine ⟨rfl, ⟨.inl HM.out, ?_, ?_, ⟨by show -1 ≤ (if 0 < st.left then st.left - 1 else st.left); split <;> omega, by show (if 0 < st.left then st.left - 1 else st.left) ≤ _; split <;> omega⟩, upd v 3 (.slice none 0 0), (lf - 1), true, (there_down HD.out (((((wrote_refl HB.out).set 10 (.bool false)).set 8 (.int .i64 (lf - 1))).set 6 (.slice none 0 0)).set 7 (.int .i64 0)).there), ?_, .inl ⟨rfl, by show lf - 1 = (if 0 < st.left then st.left - 1 else st.left); rw [if_pos (by omega)]; omega, .inl (by omega)⟩⟩, ((((Fr.refl F w).set HM.out 10 _).set HM.out 8 _).set HM.out 6 _).set HM.out 7 _⟩
        · intro j hj
          show (upd st.b 3 [] j).length ≤ 1048576
          by_cases e : j = 3
          · subst e; rw [upd_at]; simp
          · rw [upd_ne _ _ e]; exact HF.out j hj
        · intro j hj
          show upd st.s 3 0 j ≤ (upd st.b 3 [] j).length
          by_cases e : j = 3
          · subst e; rw [upd_at]; omega
          · rw [upd_ne _ _ e, upd_ne _ _ e]; exact HS.out j hj
        · exact HR.out.updRow (k := 3) hk HT.out (fun j hj hne _ => (((((wrote_refl HB.out).set 10 (.bool false)).set 8 (.int .i64 (lf - 1))).set 6 (.slice none 0 0)).set 7 (.int .i64 0)).rest j hne) OwnTxt.nil (fun g hg => by cases hg)
  · have HLF := Lib.hid hlf
    have HPOS := Lib.hid (True.intro)
    clear hfit hf0 hf3 hne hr hb hm hvk hft hsf hl hw hfull hdn hlt hlf
    rcases (by omega : k = 0 ∨ k = 1 ∨ k = 2 ∨ k = 3) with rfl | rfl | rfl | rfl
    · simp only [Nat.reduceMul, Nat.reduceAdd] at hcv hcs fk fk1
      go_enter Tryd.func58, Tryd.ntmps58
      go_wp2_with fail
      refine K.out.mono ?_
      rintro e w' ⟨rfl, rfl⟩
      go_wp2_with (go_in)
      go_end0
      go_wp2
      go_ret
      have hlf := HLF.out; have hl := HL.out; have hdn := HD.out; have hpos := HPOS.out
      have hfit := HF.out 0 hk
      have hcf : callF 2 st ((0 : Nat) : Int) [] = _ := callF_done HW.out (by have := HU.out; omega) (by omega)
      unfold CallEnd
      rw [hcf]
      refine ⟨rfl, ⟨.inl HM.out, ?_, ?_, ⟨by show -1 ≤ (if 0 < st.left then st.left - 1 else st.left); split <;> omega, by show (if 0 < st.left then st.left - 1 else st.left) ≤ _; split <;> omega⟩, upd v 0 (.slice none 0 0), lf, false, (there_down HD.out ((((wrote_refl HB.out).set 10 (.bool false)).set 0 (.slice none 0 0)).set 1 (.int .i64 0)).there), ?_, .inr ⟨rfl, by show (if 0 < st.left then st.left - 1 else st.left) = -1; rw [if_neg (by omega)]; exact hlf⟩⟩, (((Fr.refl F w).set HM.out 10 _).set HM.out 0 _).set HM.out 1 _⟩
      · intro j hj
        show (upd st.b 0 [] j).length ≤ 1048576
        by_cases e : j = 0
        · subst e; rw [upd_at]; simp
        · rw [upd_ne _ _ e]; exact HF.out j hj
      · intro j hj
        show upd st.s 0 0 j ≤ (upd st.b 0 [] j).length
        by_cases e : j = 0
        · subst e; rw [upd_at]; omega
        · rw [upd_ne _ _ e, upd_ne _ _ e]; exact HS.out j hj
      · exact HR.out.updRow (k := 0) hk HT.out (fun j hj hne _ => ((((wrote_refl HB.out).set 10 (.bool false)).set 0 (.slice none 0 0)).set 1 (.int .i64 0)).rest j hne) OwnTxt.nil (fun g hg => by cases hg)
    · simp only [Nat.reduceMul, Nat.reduceAdd] at hcv hcs fk fk1
      go_enter Tryd.func58, Tryd.ntmps58
      go_wp2_with fail
      refine K.out.mono ?_
      rintro e w' ⟨rfl, rfl⟩
      go_wp2_with (go_in)
      go_end0
      go_wp2
      go_ret
      have hlf := HLF.out; have hl := HL.out; have hdn := HD.out; have hpos := HPOS.out
      have hfit := HF.out 1 hk
      have hcf : callF 2 st ((1 : Nat) : Int) [] = _ := callF_done HW.out (by have := HU.out; omega) (by omega)
      unfold CallEnd
      rw [hcf]
      refine ⟨rfl, ⟨.inl HM.out, ?_, ?_, ⟨by show -1 ≤ (if 0 < st.left then st.left - 1 else st.left); split <;> omega, by show (if 0 < st.left then st.left - 1 else st.left) ≤ _; split <;> omega⟩, upd v 1 (.slice none 0 0), lf, false, (there_down HD.out ((((wrote_refl HB.out).set 10 (.bool false)).set 2 (.slice none 0 0)).set 3 (.int .i64 0)).there), ?_, .inr ⟨rfl, by show (if 0 < st.left then st.left - 1 else st.left) = -1; rw [if_neg (by omega)]; exact hlf⟩⟩, (((Fr.refl F w).set HM.out 10 _).set HM.out 2 _).set HM.out 3 _⟩
      · intro j hj
        show (upd st.b 1 [] j).length ≤ 1048576
        by_cases e : j = 1
        · subst e; rw [upd_at]; simp
        · rw [upd_ne _ _ e]; exact HF.out j hj
      · intro j hj
        show upd st.s 1 0 j ≤ (upd st.b 1 [] j).length
        by_cases e : j = 1
        · subst e; rw [upd_at]; omega
        · rw [upd_ne _ _ e, upd_ne _ _ e]; exact HS.out j hj
      · exact HR.out.updRow (k := 1) hk HT.out (fun j hj hne _ => ((((wrote_refl HB.out).set 10 (.bool false)).set 2 (.slice none 0 0)).set 3 (.int .i64 0)).rest j hne) OwnTxt.nil (fun g hg => by cases hg)
    · simp only [Nat.reduceMul, Nat.reduceAdd] at hcv hcs fk fk1
      go_enter Tryd.func58, Tryd.ntmps58
      go_wp2_with fail
      refine K.out.mono ?_
      rintro e w' ⟨rfl, rfl⟩
      go_wp2_with (go_in)
      go_end0
      go_wp2
      go_ret
      have hlf := HLF.out; have hl := HL.out; have hdn := HD.out; have hpos := HPOS.out
      have hfit := HF.out 2 hk
      have hcf : callF 2 st ((2 : Nat) : Int) [] = _ := callF_done HW.out (by have := HU.out; omega) (by omega)
      unfold CallEnd
      rw [hcf]
      refine ⟨rfl, ⟨.inl HM.out, ?_, ?_, ⟨by show -1 ≤ (if 0 < st.left then st.left - 1 else st.left); split <;> omega, by show (if 0 < st.left then st.left - 1 else st.left) ≤ _; split <;> omega⟩, upd v 2 (.slice none 0 0), lf, false, (there_down HD.out ((((wrote_refl HB.out).set 10 (.bool false)).set 4 (.slice none 0 0)).set 5 (.int .i64 0)).there), ?_, .inr ⟨rfl, by show (if 0 < st.left then st.left - 1 else st.left) = -1; rw [if_neg (by omega)]; exact hlf⟩⟩, (((Fr.refl F w).set HM.out 10 _).set HM.out 4 _).set HM.out 5 _⟩
      · intro j hj
        show (upd st.b 2 [] j).length ≤ 1048576
        by_cases e : j = 2
        · subst e; rw [upd_at]; simp
        · rw [upd_ne _ _ e]; exact HF.out j hj
      · intro j hj
        show upd st.s 2 0 j ≤ (upd st.b 2 [] j).length
        by_cases e : j = 2
        · subst e; rw [upd_at]; omega
        · rw [upd_ne _ _ e, upd_ne _ _ e]; exact HS.out j hj
      · exact HR.out.updRow (k := 2) hk HT.out (fun j hj hne _ => ((((wrote_refl HB.out).set 10 (.bool false)).set 4 (.slice none 0 0)).set 5 (.int .i64 0)).rest j hne) OwnTxt.nil (fun g hg => by cases hg)
    · simp only [Nat.reduceMul, Nat.reduceAdd] at hcv hcs fk fk1
      go_enter Tryd.func58, Tryd.ntmps58
      go_wp2_with fail
      refine K.out.mono ?_
      rintro e w' ⟨rfl, rfl⟩
      go_wp2_with (go_in)
      go_end0
      go_wp2
      go_ret
      have hlf := HLF.out; have hl := HL.out; have hdn := HD.out; have hpos := HPOS.out
      have hfit := HF.out 3 hk
      have hcf : callF 2 st ((3 : Nat) : Int) [] = _ := callF_done HW.out (by have := HU.out; omega) (by omega)
      unfold CallEnd
      rw [hcf]
      refine ⟨rfl, ⟨.inl HM.out, ?_, ?_, ⟨by show -1 ≤ (if 0 < st.left then st.left - 1 else st.left); split <;> omega, by show (if 0 < st.left then st.left - 1 else st.left) ≤ _; split <;> omega⟩, upd v 3 (.slice none 0 0), lf, false, (there_down HD.out ((((wrote_refl HB.out).set 10 (.bool false)).set 6 (.slice none 0 0)).set 7 (.int .i64 0)).there), ?_, .inr ⟨rfl, by show (if 0 < st.left then st.left - 1 else st.left) = -1; rw [if_neg (by omega)]; exact hlf⟩⟩, (((Fr.refl F w).set HM.out 10 _).set HM.out 6 _).set HM.out 7 _⟩
      · intro j hj
        show (upd st.b 3 [] j).length ≤ 1048576
        by_cases e : j = 3
        · subst e; rw [upd_at]; simp
        · rw [upd_ne _ _ e]; exact HF.out j hj
      · intro j hj
        show upd st.s 3 0 j ≤ (upd st.b 3 [] j).length
        by_cases e : j = 3
        · subst e; rw [upd_at]; omega
        · rw [upd_ne _ _ e, upd_ne _ _ e]; exact HS.out j hj
      · exact HR.out.updRow (k := 3) hk HT.out (fun j hj hne _ => ((((wrote_refl HB.out).set 10 (.bool false)).set 6 (.slice none 0 0)).set 7 (.int .i64 0)).rest j hne) OwnTxt.nil (fun g hg => by cases hg)
end
end Go.Proofs.YtomhfnaekjmjnaaDoor
