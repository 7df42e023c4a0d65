/- Choose (layer 20) where there are too few; what the known choice comes to (one). Condition: math/bits' table of trailing zeros lies as its text lays it. -/
import Derived.Test.YtkllhnfnkgkelaaDoorPickC
import Derived.Test.YtkllhnfnkgkelaaDoorBitsOf
import Derived.Test.YtkllhnfnkgkelaaDoorBitsSets
namespace Go.Proofs.YtkllhnfnkgkelaaDoor
set_option linter.unusedVariables false
open Go.ChangeShapes Go.WideShapes Go.ChangeAt Go.RowKit Go.Shelf
attribute [local go_sem ↓] Go.wp_at_zero Go.wp_at_succ comesTo_value_eq comesTo_skip_eq comesTo_enter_eq

set_option maxRecDepth 100000 in
theorem choose_no (may : NSet) (m : Int) (v : Value) (w : World) (h : m < 0 ∨ (card may : Int) < m) :
    Calls Tryd.prog 34 #[.int .u64 (nv may), .int .i64 m, v] w fun e w' => e = .returned (.tuple #[.int .u64 0, .bool false]) ∧ Below w.heap.size w w' := by
  have KM := Lib.hid (fun W => len_any may W)
  by_cases h0 : m < 0
  · have hm1 : decide (m < 0) = true := by simpa using h0
    clear h h0
    generalize (card may : Int) = cm at *
    go_enter Tryd.func34, Tryd.ntmps34
    go_wp2
    refine wp_scope_straight ?_
    go_wp2
    refine wp_region_grow (fun w' => w' = (w.alloc (.cells #[.int .i64 m] 3)).drew) (by kernel_rfl) (by kernel_rfl) rfl ?_
    (refine textS_run ?_ ?_ (fun W hS => ?_) ?_; rotate_left; (focus go_simp); (focus (subst hS; go_simp; all_goals (first | exact ⟨rfl, rfl⟩ | rfl | (refine ⟨?_, rfl⟩; rfl)))); (try go_simp))
    (refine textS_run ?_ ?_ (fun W hS => ?_) ?_; rotate_left; (focus go_simp); (focus (subst hS; go_simp; all_goals (first | exact ⟨rfl, rfl⟩ | rfl | (refine ⟨?_, rfl⟩; rfl)))); (try go_simp))
    (refine textS_run ?_ ?_ (fun W hS => ?_) ?_; rotate_left; (focus go_simp); (focus (subst hS; go_simp; all_goals (first | exact ⟨rfl, rfl⟩ | rfl | (refine ⟨?_, rfl⟩; rfl)))); (try go_simp))
    (refine textS_skip ?_ ?_; (focus (first | rfl | (go_simp; done) | (go_simp; rfl))); (try go_simp))
    (refine textS_skip ?_ ?_; (focus (first | rfl | (go_simp; done) | (go_simp; rfl))); (try go_simp))
    (refine textS_skip ?_ ?_; (focus (first | rfl | (go_simp; done) | (go_simp; rfl))); (try go_simp))
    (refine textS_skip ?_ ?_; (focus (first | rfl | (go_simp; done) | (go_simp; rfl))); (try go_simp))
    (refine textS_run ?_ ?_ (fun W hS => ?_) ?_; rotate_left; (focus go_simp); (focus (subst hS; go_simp; all_goals (first | exact ⟨rfl, rfl⟩ | rfl | (refine ⟨?_, rfl⟩; rfl)))); (try go_simp))
    refine textS_nil ?_
    go_wp2
    simp only [Exit.noGoto]
    go_ret2
    exact ⟨rfl, (by repeat (first | exact Below.refl _ _ | assumption | refine below_drewN ?_ _ | refine Below.drew ?_ | refine below_alloc ?_ _ | refine Below.alloc ?_ (by first | omega | (simp; done) | (simp; omega)) _ | refine Below.setCell ?_ (Below.size (by assumption)) _ | refine Below.setCell ?_ (by first | omega | (simp; done) | (simp; omega)) _ | (refine Below.trans ?_ (Below.mono (by assumption) (by first | omega | (simp; done) | (simp; omega)))) | refine below_next ?_ (by assumption)))⟩
  · have hm1 : decide (m < 0) = false := by simpa using h0
    have hm2 : decide ((card may : Int) < m) = true := by simp; omega
    clear h h0
    generalize (card may : Int) = cm at *
    go_enter Tryd.func34, Tryd.ntmps34
    go_wp2
    refine wp_scope_straight ?_
    go_wp2
    refine wp_region_grow (fun w' => w' = (w.alloc (.cells #[.int .i64 m] 3)).drew) (by kernel_rfl) (by kernel_rfl) rfl ?_
    (refine textS_run ?_ ?_ (fun W hS => ?_) ?_; rotate_left; (focus go_simp); (focus (subst hS; go_simp; all_goals (first | exact ⟨rfl, rfl⟩ | rfl | (refine ⟨?_, rfl⟩; rfl)))); (try go_simp))
    (refine textS_run ?_ ?_ (fun W hS => ?_) ?_; rotate_left; (focus go_simp); (focus (subst hS; go_simp; all_goals (first | exact ⟨rfl, rfl⟩ | rfl | (refine ⟨?_, rfl⟩; rfl)))); (try go_simp))
    (refine textS_run ?_ ?_ (fun W hS => ?_) ?_; rotate_left; (focus go_simp); (focus (subst hS; go_simp; all_goals (first | exact ⟨rfl, rfl⟩ | rfl | (refine ⟨?_, rfl⟩; rfl)))); (try go_simp))
    (refine textS_run ?_ ?_ (fun W hS => ?_) ?_; rotate_left; (focus go_simp); (focus (subst hS; go_simp; all_goals (first | exact ⟨rfl, rfl⟩ | rfl | (refine ⟨?_, rfl⟩; rfl)))); (try go_simp))
    (refine textS_run ?_ ?_ (fun W hS => ?_) ?_; rotate_left; (focus go_simp); (focus (subst hS; go_simp; refine (KM.out _).mono ?_; rintro e w1 ⟨rfl, rfl⟩; refine ⟨?_, ?_⟩; (focus rfl); (focus rfl))); (try go_simp))
    (refine textS_run ?_ ?_ (fun W hS => ?_) ?_; rotate_left; (focus go_simp); (focus (subst hS; go_simp; all_goals (first | exact ⟨rfl, rfl⟩ | rfl | (refine ⟨?_, rfl⟩; rfl)))); (try go_simp))
    (refine textS_run ?_ ?_ (fun W hS => ?_) ?_; rotate_left; (focus go_simp); (focus (subst hS; go_simp; all_goals (first | exact ⟨rfl, rfl⟩ | rfl | (refine ⟨?_, rfl⟩; rfl)))); (try go_simp))
    (refine textS_run ?_ ?_ (fun W hS => ?_) ?_; rotate_left; (focus go_simp); (focus (subst hS; go_simp; all_goals (first | exact ⟨rfl, rfl⟩ | rfl | (refine ⟨?_, rfl⟩; rfl)))); (try go_simp))
    refine textS_nil ?_
    go_wp2
    simp only [Exit.noGoto]
    go_ret2
    exact ⟨rfl, (by repeat (first | exact Below.refl _ _ | assumption | refine below_drewN ?_ _ | refine Below.drew ?_ | refine below_alloc ?_ _ | refine Below.alloc ?_ (by first | omega | (simp; done) | (simp; omega)) _ | refine Below.setCell ?_ (Below.size (by assumption)) _ | refine Below.setCell ?_ (by first | omega | (simp; done) | (simp; omega)) _ | (refine Below.trans ?_ (Below.mono (by assumption) (by first | omega | (simp; done) | (simp; omega)))) | refine below_next ?_ (by assumption)))⟩
/-- a slice of sets that was just built -/
theorem sets_new (W : World) (l : List NSet) (T : TypeId) (hl : l.length ≤ 1000) (W' : World) (hb : Below (W.heap.size + 1) (W.alloc (.cells (l.map (fun s => Value.int .u64 (nv s))).toArray T)) W') : SetsAt W' (some ⟨W.heap.size, 0, none⟩) l.length l.length l :=
  ⟨rfl, by omega, fun _ => ⟨W.heap.size, 0, rfl, fun k hk => by
    rw [Nat.zero_add, hb.cell (p := ⟨W.heap.size, k, none⟩) (by show W.heap.size < W.heap.size + 1; omega)]
    have h0 := World.alloc_heap_new W (.cells (l.map (fun s => Value.int .u64 (nv s))).toArray T)
    simp only [World.cell?, h0]
    simp [hk, List.getD]⟩⟩
theorem blk_at (W : World) (n : Nat) (h : W.heap.size = n) (cs : Array Value) (T : TypeId) : (W.alloc (.cells cs T)).heap[n]? = some (.cells cs T (0, 0)) := by rw [← h]; exact blk_last W cs T
theorem oneset (k : Nat) (l : List Int) (s : NSet) (hl : ofS l = s) (h : l.length ≤ 1000) (b : Nat) (W : World) {T : TypeId} (hb : W.heap[b]? = some (.cells (l.map (Value.int .i64)).toArray T (0, 0))) :
    Calls Tryd.prog 12 #[.slice (some ⟨b, 0, none⟩) l.length l.length] W fun e w' => e = .returned (.int .u64 (nv s)) ∧ W = w' := by
  have := of_ints b l.length l W (by omega) (fun k hk => cell_of_block hb (by simp [hk]))
  rw [hl] at this
  exact this
theorem o4 (b : Nat) (W : World) (hb : W.heap[b]? = some (.cells #[.int .i64 4] 3 (0, 0))) : Calls Tryd.prog 12 #[.slice (some ⟨b, 0, none⟩) 1 1] W fun e w' => e = .returned (.int .u64 16) ∧ W = w' := oneset 0 [4] 16#64 (by decide +kernel) (by decide) b W hb
theorem o12 (b : Nat) (W : World) (hb : W.heap[b]? = some (.cells #[.int .i64 1, .int .i64 2] 3 (0, 0))) : Calls Tryd.prog 12 #[.slice (some ⟨b, 0, none⟩) 2 2] W fun e w' => e = .returned (.int .u64 6) ∧ W = w' := oneset 0 [1, 2] 6#64 (by decide +kernel) (by decide) b W hb
theorem o124 (b : Nat) (W : World) (hb : W.heap[b]? = some (.cells #[.int .i64 1, .int .i64 2, .int .i64 4] 3 (0, 0))) : Calls Tryd.prog 12 #[.slice (some ⟨b, 0, none⟩) 3 3] W fun e w' => e = .returned (.int .u64 22) ∧ W = w' := oneset 0 [1, 2, 4] 22#64 (by decide +kernel) (by decide) b W hb
theorem first6 (w : World) : Calls Tryd.prog 17 #[.int .i64 6] w fun e w' => e = .returned (.int .u64 63) ∧ w = w' := by
  have h := first_any 6 w
  rw [show nv (firstI 6) = 63 by decide +kernel] at h
  exact h
theorem cost2 (w : World) : Calls Tryd.prog 38 #[.int .u64 22, .int .u64 16] w fun e w' => e = .returned (.int .i64 2) ∧ w = w' := by
  have h := cost_any 22#64 16#64 w
  rw [show (card (22#64 &&& ~~~16#64) : Int) = 2 by decide +kernel] at h
  exact h
theorem choose1 (W W' : World) (hT : TabZ W') (hb : Below (W.heap.size + 1) (W.alloc (.cells #[.int .u64 16, .int .u64 6] 23)) W') :
    Calls Tryd.prog 34 #[.int .u64 63, .int .i64 3, .slice (some ⟨W.heap.size, 0, none⟩) 2 2] W' fun e w' => e = .returned (.tuple #[.int .u64 22, .bool true]) ∧ Below W'.heap.size W' w' := by
  have h := choose_yes 63#64 3 (some ⟨W.heap.size, 0, none⟩) 2 2 [16#64, 6#64] W' hT (sets_new W [16#64, 6#64] 23 (by decide) W' hb) (by decide) (by decide +kernel) (by decide)
  rw [show chF 63#64 3 [16#64, 6#64] 0#64 = 22#64 by decide +kernel] at h
  exact h
set_option maxRecDepth 100000 in
set_option maxHeartbeats 2000000 in
theorem pone_yes (w : World) (hT : TabZ w) : Calls Tryd.prog 36 #[] w fun e w' => e = .returned (.bool true) ∧ Below w.heap.size w w' := by
  have HT := Lib.hid hT
  clear hT
  go_enter Tryd.func36, Tryd.ntmps36
  go_wp2_with fail
  refine (first6 _).mono ?_
  rintro e w' ⟨rfl, rfl⟩
  go_wp2_with fail
  refine (o4 _ _ (blk_last w #[.int .i64 4] 3)).mono ?_
  rintro e w' ⟨rfl, rfl⟩
  go_wp2_with fail
  refine (o12 _ _ (blk_at _ _ (by simp) _ 3)).mono ?_
  rintro e w' ⟨rfl, rfl⟩
  go_wp2_with fail
  have hb0 : Below w.heap.size w ((w.alloc (.cells #[.int .i64 4] 3)).alloc (.cells #[.int .i64 1, .int .i64 2] 3)) := (by repeat (first | exact Below.refl _ _ | assumption | refine below_drewN ?_ _ | refine Below.drew ?_ | refine below_alloc ?_ _ | refine Below.alloc ?_ (by first | omega | (simp; done) | (simp; omega)) _ | refine Below.setCell ?_ (Below.size (by assumption)) _ | refine Below.setCell ?_ (by first | omega | (simp; done) | (simp; omega)) _ | (refine Below.trans ?_ (Below.mono (by assumption) (by first | omega | (simp; done) | (simp; omega)))) | refine below_next ?_ (by assumption)))
  have hz0 : ((w.alloc (.cells #[.int .i64 4] 3)).alloc (.cells #[.int .i64 1, .int .i64 2] 3)).heap.size = w.heap.size + 1 + 1 := by simp
  generalize (w.alloc (.cells #[.int .i64 4] 3)).alloc (.cells #[.int .i64 1, .int .i64 2] 3) = W1 at *
  have hb1 := hb0.alloc hb0.size (.cells #[.int .u64 16, .int .u64 6] 23)
  have KC := Lib.hid (choose1 W1 _ (HT.out.below hb1) (Below.refl _ _))
  rw [hz0] at KC
  refine KC.out.mono ?_
  rintro e w2 ⟨rfl, hb2⟩
  have HB2 := Lib.hid (below_next hb1 hb2)
  clear hb2 hb1
  go_wp2_with fail
  refine (o124 _ _ (blk_at _ _ rfl _ 3)).mono ?_
  rintro e w' ⟨rfl, rfl⟩
  go_wp2_with fail
  refine (o4 _ _ (blk_at _ _ (by simp) _ 3)).mono ?_
  rintro e w' ⟨rfl, rfl⟩
  go_wp2_with fail
  refine (cost2 _).mono ?_
  rintro e w' ⟨rfl, rfl⟩
  go_wp2_with fail
  go_ret
  exact ⟨rfl, ((HB2.out.alloc HB2.out.size _).alloc (by simp; have := HB2.out.size; omega) _)⟩
end Go.Proofs.YtkllhnfnkgkelaaDoor
