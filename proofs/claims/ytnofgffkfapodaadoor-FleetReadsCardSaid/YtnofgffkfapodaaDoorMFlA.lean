/- A fleet in memory: its block, its nodes' row; what its readings answer; and of one that nobody made. No condition. -/
import Derived.Test.YtnofgffkfapodaaDoorMab
import Derived.Test.YtnofgffkfapodaaDoorMBits
import Derived.Test.YtnofgffkfapodaaDoorMad
import Derived.Test.YtnofgffkfapodaaDoorMaf
import Derived.BigQuiet
namespace Go.Proofs.YtnofgffkfapodaaDoor
set_option linter.unusedVariables false
open Go.ChangeShapes Go.WideShapes Go.ChangeAt Go.RowKit
attribute [local go_sem ↓] Go.wp_at_zero Go.wp_at_succ comesTo_value_eq comesTo_skip_eq comesTo_enter_eq

/-- nodes as cells -/
def flatN : List N3 → List Value
  | [] => []
  | x :: l => .int .i64 x.1 :: .int .i64 x.2.1 :: .int .i64 x.2.2 :: flatN l
theorem flatN_length : ∀ l, (flatN l).length = l.length * 3
  | [] => rfl
  | x :: l => by simp [flatN, flatN_length l]; omega
theorem flatN_get0 : ∀ (l : List N3) (k : Nat), k < l.length → (flatN l)[k * 3]? = some (.int .i64 (l.getD k (0, 0, 0)).1)
  | [], k, h => by simp at h
  | x :: l, 0, _ => rfl
  | x :: l, k + 1, h => by
    rw [show (k + 1) * 3 = k * 3 + 1 + 1 + 1 by omega]
    simp only [flatN, List.getElem?_cons_succ, List.getD_cons_succ]
    exact flatN_get0 l k (by simpa using h)
theorem flatN_get1 : ∀ (l : List N3) (k : Nat), k < l.length → (flatN l)[k * 3 + 1]? = some (.int .i64 (l.getD k (0, 0, 0)).2.1)
  | [], k, h => by simp at h
  | x :: l, 0, _ => rfl
  | x :: l, k + 1, h => by
    rw [show (k + 1) * 3 + 1 = k * 3 + 1 + 1 + 1 + 1 by omega]
    simp only [flatN, List.getElem?_cons_succ, List.getD_cons_succ]
    exact flatN_get1 l k (by simpa using h)
theorem flatN_get2 : ∀ (l : List N3) (k : Nat), k < l.length → (flatN l)[k * 3 + 2]? = some (.int .i64 (l.getD k (0, 0, 0)).2.2)
  | [], k, h => by simp at h
  | x :: l, 0, _ => rfl
  | x :: l, k + 1, h => by
    rw [show (k + 1) * 3 + 2 = k * 3 + 2 + 1 + 1 + 1 by omega]
    simp only [flatN, List.getElem?_cons_succ, List.getD_cons_succ]
    exact flatN_get2 l k (by simpa using h)
theorem flatN_set : ∀ (l : List N3) (k : Nat) (x : N3), k < l.length → (((flatN l).set (k * 3) (.int .i64 x.1)).set (k * 3 + 1) (.int .i64 x.2.1)).set (k * 3 + 2) (.int .i64 x.2.2) = flatN (l.set k x)
  | [], k, x, h => by simp at h
  | y :: l, 0, x, _ => rfl
  | y :: l, k + 1, x, h => by
    rw [show (k + 1) * 3 = k * 3 + 1 + 1 + 1 by omega, show k * 3 + 1 + 1 + 1 + 1 = (k * 3 + 1) + 1 + 1 + 1 by omega, show k * 3 + 1 + 1 + 1 + 2 = (k * 3 + 2) + 1 + 1 + 1 by omega]
    simp only [flatN, List.set_cons_succ]
    rw [flatN_set l k x (by simpa using h)]
def nodeA (x : N3) : Value := .agg #[.int .i64 x.1, .int .i64 x.2.1, .int .i64 x.2.2]
def flC (f : FV) (G : Nat) : Array Value := #[.int .i64 f.S, .int .i64 f.D, .int .i64 f.P, .slice (some ⟨G, 0, none⟩) f.ns.length f.ns.length, .int .u64 (nv f.sp), .int .i64 f.sw]
/-- a fleet in block F, its nodes in block G -/
structure Fl (w : World) (F G : Nat) (f : FV) : Prop where
  ne : F ≠ G
  len : 1 ≤ f.ns.length ∧ f.ns.length ≤ 64
  blk : w.heap[F]? = some (.cells (flC f G) 60 (0, 0))
  row : w.heap[G]? = some (.cells (flatN f.ns).toArray 62 (0, 0))
theorem Fl.lt {w : World} {F G : Nat} {f : FV} (h : Fl w F G f) : F < w.heap.size ∧ G < w.heap.size := ⟨(Array.getElem?_eq_some_iff.1 h.blk).1, (Array.getElem?_eq_some_iff.1 h.row).1⟩
theorem Fl.below {w w' : World} {F G : Nat} {f : FV} (h : Fl w F G f) (hb : Below w.heap.size w w') : Fl w' F G f := ⟨h.ne, h.len, (hb.block _ h.lt.1).trans h.blk, (hb.block _ h.lt.2).trans h.row⟩
theorem Fl.fr {w w' : World} {F G : Nat} {f : FV} {K : Nat → Prop} (h : Fl w F G f) (hf : Fr K w w') (h1 : ¬ K F) (h2 : ¬ K G) : Fl w' F G f := ⟨h.ne, h.len, (hf.block _ h.lt.1 h1).trans h.blk, (hf.block _ h.lt.2 h2).trans h.row⟩
theorem Fl.node {w : World} {F G : Nat} {f : FV} (h : Fl w F G f) {k : Nat} (hk : k < f.ns.length) : w.cell? ⟨G, k * 3, none⟩ = some (.int .i64 (f.ns.getD k (0, 0, 0)).1) ∧ w.cell? ⟨G, k * 3 + 1, none⟩ = some (.int .i64 (f.ns.getD k (0, 0, 0)).2.1) ∧ w.cell? ⟨G, k * 3 + 2, none⟩ = some (.int .i64 (f.ns.getD k (0, 0, 0)).2.2) :=
  ⟨cell_of_block h.row (by simpa using flatN_get0 _ k hk), cell_of_block h.row (by simpa using flatN_get1 _ k hk), cell_of_block h.row (by simpa using flatN_get2 _ k hk)⟩
theorem Fl.c0 {w : World} {F G : Nat} {f : FV} (h : Fl w F G f) : w.cell? ⟨F, 0, none⟩ = some (.int .i64 f.S) := cell_of_block (o := 0) h.blk rfl
theorem Fl.c1 {w : World} {F G : Nat} {f : FV} (h : Fl w F G f) : w.cell? ⟨F, 1, none⟩ = some (.int .i64 f.D) := cell_of_block (o := 1) h.blk rfl
theorem Fl.c2 {w : World} {F G : Nat} {f : FV} (h : Fl w F G f) : w.cell? ⟨F, 2, none⟩ = some (.int .i64 f.P) := cell_of_block (o := 2) h.blk rfl
theorem Fl.c3 {w : World} {F G : Nat} {f : FV} (h : Fl w F G f) : w.cell? ⟨F, 3, none⟩ = some (.slice (some ⟨G, 0, none⟩) f.ns.length f.ns.length) := cell_of_block (o := 3) h.blk rfl
theorem Fl.c4 {w : World} {F G : Nat} {f : FV} (h : Fl w F G f) : w.cell? ⟨F, 4, none⟩ = some (.int .u64 (nv f.sp)) := cell_of_block (o := 4) h.blk rfl
theorem Fl.c5 {w : World} {F G : Nat} {f : FV} (h : Fl w F G f) : w.cell? ⟨F, 5, none⟩ = some (.int .i64 f.sw) := cell_of_block (o := 5) h.blk rfl
theorem there_fl {w : World} {F G : Nat} {f : FV} (h : Fl w F G f) : Calls Tryd.prog 36 #[.pointer (some ⟨F, 0, none⟩)] w fun e w' => e = .returned (.bool true) ∧ w = w' := by
  have c3 := h.c3
  have hd : decide ((f.ns.length : Int) > 0) = true := decide_eq_true (by have := h.len.1; omega)
  have hd2 : decide (0 < (f.ns.length : Int)) = true := hd
  have hd3 : 0 < f.ns.length := h.len.1
  clear h
  generalize f.ns.length = n at *
  go_enter Tryd.func36, Tryd.ntmps36
  go_wp2
  go_ret
  exact ⟨rfl, rfl⟩
/-- none -/
def NoFl (w : World) (v : Value) : Prop := v = .pointer none ∨ ∃ S, v = .pointer (some ⟨S, 0, none⟩) ∧ ∃ x0 x1 x2 a c x4 x5, w.heap[S]? = some (.cells #[x0, x1, x2, .slice a 0 c, x4, x5] 60 (0, 0))
theorem NoFl.below {w w' : World} {v : Value} (h : NoFl w v) (hb : Below w.heap.size w w') : NoFl w' v := by
  rcases h with h | ⟨P, h, x0, x1, x2, a, c, x4, x5, hP⟩
  · exact .inl h
  · exact .inr ⟨P, h, x0, x1, x2, a, c, x4, x5, (hb.block _ (Array.getElem?_eq_some_iff.1 hP).1).trans hP⟩
theorem there_nofl {w : World} {v : Value} (h : NoFl w v) : Calls Tryd.prog 36 #[v] w fun e w' => e = .returned (.bool false) ∧ w = w' := by
  rcases h with rfl | ⟨P, rfl, x0, x1, x2, a, c, x4, x5, hP⟩
  · go_enter Tryd.func36, Tryd.ntmps36
    go_wp2
    go_ret
    exact ⟨rfl, rfl⟩
  · have c3 : w.cell? ⟨P, 3, none⟩ = some (.slice a 0 c) := cell_of_block (o := 3) hP rfl
    clear hP
    go_enter Tryd.func36, Tryd.ntmps36
    go_wp2
    go_ret
    exact ⟨rfl, rfl⟩
theorem flen_fl {w : World} {F G : Nat} {f : FV} (h : Fl w F G f) : Calls Tryd.prog 28 #[.pointer (some ⟨F, 0, none⟩)] w fun e w' => e = .returned (.int .i64 f.ns.length) ∧ w = w' := by
  have K := Lib.hid (there_fl h)
  have c3 := h.c3
  clear h
  generalize f.ns.length = n at *
  go_enter Tryd.func28, Tryd.ntmps28
  go_wp2_with fail
  refine K.out.mono ?_
  rintro e w' ⟨rfl, rfl⟩
  go_wp2
  go_ret
  exact ⟨rfl, rfl⟩
theorem flen_no {w : World} {v : Value} (h : NoFl w v) : Calls Tryd.prog 28 #[v] w fun e w' => e = .returned (.int .i64 0) ∧ w = w' := by
  have K := Lib.hid (there_nofl h)
  clear h
  go_enter Tryd.func28, Tryd.ntmps28
  go_wp2_with fail
  refine K.out.mono ?_
  rintro e w' ⟨rfl, rfl⟩
  go_wp2
  go_ret
  exact ⟨rfl, rfl⟩
theorem fspares_fl {w : World} {F G : Nat} {f : FV} (h : Fl w F G f) : Calls Tryd.prog 21 #[.pointer (some ⟨F, 0, none⟩)] w fun e w' => e = .returned (.int .u64 (nv f.sp)) ∧ w = w' := by
  have K := Lib.hid (there_fl h)
  have c4 := h.c4
  clear h
  generalize nv f.sp = n at *
  go_enter Tryd.func21, Tryd.ntmps21
  go_wp2_with fail
  refine K.out.mono ?_
  rintro e w' ⟨rfl, rfl⟩
  go_wp2
  go_ret
  exact ⟨rfl, rfl⟩
theorem fspares_no {w : World} {v : Value} (h : NoFl w v) : Calls Tryd.prog 21 #[v] w fun e w' => e = .returned (.int .u64 0) ∧ w = w' := by
  have K := Lib.hid (there_nofl h)
  clear h
  go_enter Tryd.func21, Tryd.ntmps21
  go_wp2_with fail
  refine K.out.mono ?_
  rintro e w' ⟨rfl, rfl⟩
  go_wp2
  go_ret
  exact ⟨rfl, rfl⟩
theorem fswaps_fl {w : World} {F G : Nat} {f : FV} (h : Fl w F G f) : Calls Tryd.prog 30 #[.pointer (some ⟨F, 0, none⟩)] w fun e w' => e = .returned (.int .i64 f.sw) ∧ w = w' := by
  have K := Lib.hid (there_fl h)
  have c5 := h.c5
  clear h
  generalize f.sw = n at *
  go_enter Tryd.func30, Tryd.ntmps30
  go_wp2_with fail
  refine K.out.mono ?_
  rintro e w' ⟨rfl, rfl⟩
  go_wp2
  go_ret
  exact ⟨rfl, rfl⟩
theorem fswaps_no {w : World} {v : Value} (h : NoFl w v) : Calls Tryd.prog 30 #[v] w fun e w' => e = .returned (.int .i64 0) ∧ w = w' := by
  have K := Lib.hid (there_nofl h)
  clear h
  go_enter Tryd.func30, Tryd.ntmps30
  go_wp2_with fail
  refine K.out.mono ?_
  rintro e w' ⟨rfl, rfl⟩
  go_wp2
  go_ret
  exact ⟨rfl, rfl⟩
theorem factive_fl {w : World} {F G : Nat} {f : FV} (h : Fl w F G f) : Calls Tryd.prog 23 #[.pointer (some ⟨F, 0, none⟩)] w fun e w' => e = .returned (.int .u64 (nv (actF f))) ∧ w = w' := by
  have K1 := Lib.hid (flen_fl h)
  have K2 := Lib.hid (fun W => first_any f.ns.length W)
  have K3 := Lib.hid (fspares_fl h)
  have K4 := Lib.hid (fun W => bless_any (firstI f.ns.length) f.sp W)
  unfold actF allF
  clear h
  generalize (f.ns.length : Int) = n at *
  generalize nv f.sp = s at *
  generalize nv (firstI n) = a at *
  go_enter Tryd.func23, Tryd.ntmps23
  go_wp2_with fail
  refine K1.out.mono ?_
  rintro e w' ⟨rfl, rfl⟩
  go_wp2_with fail
  refine (K2.out _).mono ?_
  rintro e w' ⟨rfl, rfl⟩
  go_wp2_with fail
  refine K3.out.mono ?_
  rintro e w' ⟨rfl, rfl⟩
  go_wp2_with fail
  refine (K4.out _).mono ?_
  rintro e w' ⟨rfl, rfl⟩
  go_wp2
  go_ret
  exact ⟨rfl, rfl⟩
theorem firstI_zero : firstI 0 = 0#64 := by decide
theorem factive_no {w : World} {v : Value} (h : NoFl w v) : Calls Tryd.prog 23 #[v] w fun e w' => e = .returned (.int .u64 0) ∧ w = w' := by
  have K1 := Lib.hid (flen_no h)
  have K2 := Lib.hid (fun W => first_any 0 W)
  have K3 := Lib.hid (fspares_no h)
  have K4 := Lib.hid (fun W => bless_any 0#64 0#64 W)
  rw [firstI_zero, nv_zero] at K2
  rw [nv_zero, show (0#64 &&& ~~~(0#64) : NSet) = 0#64 by decide, nv_zero] at K4
  clear h
  go_enter Tryd.func23, Tryd.ntmps23
  go_wp2_with fail
  refine K1.out.mono ?_
  rintro e w' ⟨rfl, rfl⟩
  go_wp2_with fail
  refine (K2.out _).mono ?_
  rintro e w' ⟨rfl, rfl⟩
  go_wp2_with fail
  refine K3.out.mono ?_
  rintro e w' ⟨rfl, rfl⟩
  go_wp2_with fail
  refine (K4.out _).mono ?_
  rintro e w' ⟨rfl, rfl⟩
  go_wp2
  go_ret
  exact ⟨rfl, rfl⟩
theorem has_fl {w : World} {F G : Nat} {f : FV} (h : Fl w F G f) (k : Int) : Calls Tryd.prog 37 #[.pointer (some ⟨F, 0, none⟩), .int .i64 k] w fun e w' => e = .returned (.bool (decide (0 ≤ k ∧ k < f.ns.length))) ∧ w = w' := by
  have c3 := h.c3
  clear h
  generalize f.ns.length = n at *
  by_cases h0 : k ≥ 0
  · have d0 : decide (k ≥ 0) = true := decide_eq_true h0
    have d1 : decide (0 ≤ k) = true := decide_eq_true h0
    by_cases hk : k < (n : Int)
    · have d2 : decide (k < (n : Int)) = true := decide_eq_true hk
      rw [decide_eq_true (show 0 ≤ k ∧ k < (n : Int) from ⟨h0, hk⟩)]
      clear h0 hk
      go_enter Tryd.func37, Tryd.ntmps37
      go_wp2
      go_ret
      exact ⟨rfl, rfl⟩
    · have d2 : decide (k < (n : Int)) = false := decide_eq_false hk
      rw [decide_eq_false (show ¬ (0 ≤ k ∧ k < (n : Int)) from fun h => hk h.2)]
      clear h0 hk
      go_enter Tryd.func37, Tryd.ntmps37
      go_wp2
      go_ret
      exact ⟨rfl, rfl⟩
  · have d0 : decide (k ≥ 0) = false := decide_eq_false h0
    have d1 : decide (0 ≤ k) = false := decide_eq_false h0
    rw [decide_eq_false (show ¬ (0 ≤ k ∧ k < (n : Int)) from fun h => h0 h.1)]
    clear h0
    go_enter Tryd.func37, Tryd.ntmps37
    go_wp2
    go_ret
    exact ⟨rfl, rfl⟩
end Go.Proofs.YtnofgffkfapodaaDoor
