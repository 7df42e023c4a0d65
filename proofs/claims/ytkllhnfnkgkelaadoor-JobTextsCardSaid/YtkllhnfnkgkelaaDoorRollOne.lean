/- bits.Of; what the known drain comes to (one). Condition: math/bits' table of trailing zeros lies as its text lays it. -/
import Derived.Test.YtkllhnfnkgkelaaDoorRollC
import Derived.Test.YtkllhnfnkgkelaaDoorBldD
namespace Go.Proofs.YtkllhnfnkgkelaaDoor
set_option linter.unusedVariables false
open Go.ChangeShapes Go.WideShapes Go.ChangeAt Go.RowKit Go.Shelf
attribute [local go_sem ↓] Go.wp_at_zero Go.wp_at_succ comesTo_value_eq comesTo_skip_eq comesTo_enter_eq

/-- the set of nodes -/
def ofS (l : List Int) : NSet := l.foldl (fun s n => s ||| oneI n) 0#64
theorem ofS_snoc (l : List Int) (n : Int) : ofS (l ++ [n]) = ofS l ||| oneI n := by unfold ofS; rw [List.foldl_append]; rfl
theorem of_ints (g c : Nat) (l : List Int) (w : World) (hl : l.length ≤ 9223372036854775807) (hc : ∀ k, k < l.length → w.cell? ⟨g, k, none⟩ = some (.int .i64 (l.getD k 0))) :
    Calls Tryd.prog 12 #[.slice (some ⟨g, 0, none⟩) l.length c] w fun e w' => e = .returned (.int .u64 (nv (ofS l))) ∧ w = w' := by
  have HC := Lib.hid hc
  clear hc
  go_enter Tryd.func12, Tryd.ntmps12
  go_wp2
  go_loop [3, 8] (fun s i => ∃ k : Nat, k ≤ l.length ∧ i = .int .i64 k ∧ s = .int .u64 (nv (ofS (l.take k)))) (fun _ i => l.length - (intOf i).toNat)
  case atStart => exact ⟨0, Nat.zero_le _, rfl, rfl⟩
  case round =>
    obtain ⟨k, hk, rfl, rfl⟩ := hrel
    by_cases hlt : k < l.length
    · have hcell := HC.out k hlt
      have e : ofS (l.take (k + 1)) = ofS (l.take k) ||| oneI (l.getD k 0) := by
        rw [List.take_succ_eq_append_getElem hlt, ofS_snoc]
        simp [List.getD, hlt]
      have KW := Lib.hid (fun W => with_any (ofS (l.take k)) (l.getD k 0) W)
      rw [← e] at KW
      clear e
      generalize l.getD k 0 = x at *
      generalize hT : ofS (l.take (k + 1)) = T2 at *
      have HT := Lib.hid hT
      clear hT
      go_wp2_with (go_at_call 15; refine (KW.out _).mono ?_; rintro e w' ⟨rfl, rfl⟩)
      go_round
      case rel => exact ⟨k + 1, by omega, by go_num, by rw [HT.out]⟩
      case measure => simp [intOf]; omega
    · obtain rfl : k = l.length := by omega
      rw [List.take_of_length_le (Nat.le_refl _)]
      go_wp2
      go_ret
      exact ⟨rfl, rfl⟩
/-- numbers that lie in a block -/
theorem of_block (l : List Int) (x : NSet) (hx : ofS l = x) (hl : l.length ≤ 1000) (b : Nat) (W : World) {T : TypeId} (hb : W.heap[b]? = some (.cells (l.map (Value.int .i64)).toArray T (0, 0))) :
    Calls Tryd.prog 12 #[.slice (some ⟨b, 0, none⟩) l.length l.length] W fun e w' => e = .returned (.int .u64 (nv x)) ∧ Below W.heap.size W w' := by
  have := of_ints b l.length l W (by omega) (fun k hk => cell_of_block hb (by simp [hk]))
  rw [hx] at this
  exact this.mono fun _ _ ⟨h1, h2⟩ => ⟨h1, by subst h2; exact Below.refl _ _⟩
theorem of1 (b : Nat) (W : World) (hb : W.heap[b]? = some (.cells #[.int .i64 1] 3 (0, 0))) : Calls Tryd.prog 12 #[.slice (some ⟨b, 0, none⟩) 1 1] W fun e w' => e = .returned (.int .u64 (nv 2#64)) ∧ Below W.heap.size W w' := of_block [1] 2#64 (by decide) (by decide) b W hb
theorem of2 (b : Nat) (W : World) (hb : W.heap[b]? = some (.cells #[.int .i64 2] 3 (0, 0))) : Calls Tryd.prog 12 #[.slice (some ⟨b, 0, none⟩) 1 1] W fun e w' => e = .returned (.int .u64 (nv 4#64)) ∧ Below W.heap.size W w' := of_block [2] 4#64 (by decide) (by decide) b W hb
theorem of5 (b : Nat) (W : World) (hb : W.heap[b]? = some (.cells #[.int .i64 5] 3 (0, 0))) : Calls Tryd.prog 12 #[.slice (some ⟨b, 0, none⟩) 1 1] W fun e w' => e = .returned (.int .u64 (nv 32#64)) ∧ Below W.heap.size W w' := of_block [5] 32#64 (by decide) (by decide) b W hb
theorem of12 (b : Nat) (W : World) (hb : W.heap[b]? = some (.cells #[.int .i64 1, .int .i64 2] 3 (0, 0))) : Calls Tryd.prog 12 #[.slice (some ⟨b, 0, none⟩) 2 2] W fun e w' => e = .returned (.int .u64 (nv 6#64)) ∧ Below W.heap.size W w' := of_block [1, 2] 6#64 (by decide) (by decide) b W hb
theorem of125 (b : Nat) (W : World) (hb : W.heap[b]? = some (.cells #[.int .i64 1, .int .i64 2, .int .i64 5] 3 (0, 0))) : Calls Tryd.prog 12 #[.slice (some ⟨b, 0, none⟩) 3 3] W fun e w' => e = .returned (.int .u64 (nv 38#64)) ∧ Below W.heap.size W w' := of_block [1, 2, 5] 38#64 (by decide) (by decide) b W hb

theorem next_one (W : World) (hT : TabZ W) : Calls Tryd.prog 40 #[.agg #[.int .i64 2, .int .i64 3, .int .u64 0, .int .u64 0], .int .i64 3, .int .u64 (nv 38#64)] W fun e w' => e = .returned (.int .u64 (nv 6#64)) ∧ Below W.heap.size W w' := by
  have := next_goes 2 3 0#64 0#64 3 38#64 W hT (by decide) (by decide +kernel) (by decide)
  rw [show tk (minZ (2 - (card 0#64 : Int)) (card (38#64 &&& ~~~(0#64 ||| 0#64)))).toNat (38#64 &&& ~~~(0#64 ||| 0#64)) = 6#64 by decide +kernel, nv_zero] at this
  exact this
theorem next_two (W : World) : Calls Tryd.prog 40 #[.agg #[.int .i64 2, .int .i64 3, .int .u64 0, .int .u64 0], .int .i64 2, .int .u64 (nv 6#64)] W fun e w' => e = .returned (.int .u64 0) ∧ Below W.heap.size W w' := by
  have := next_late 2 3 0#64 0#64 2 6#64 W (by decide)
  rw [nv_zero] at this
  exact this
theorem next_three (W : World) (hT : TabZ W) : Calls Tryd.prog 40 #[.agg #[.int .i64 2, .int .i64 3, .int .u64 (nv 2#64), .int .u64 (nv 4#64)], .int .i64 9, .int .u64 (nv 38#64)] W fun e w' => e = .returned (.int .u64 (nv 32#64)) ∧ Below W.heap.size W w' := by
  have := next_goes 2 3 2#64 4#64 9 38#64 W hT (by decide) (by decide +kernel) (by decide)
  rw [show tk (minZ (2 - (card 4#64 : Int)) (card (38#64 &&& ~~~(2#64 ||| 4#64)))).toNat (38#64 &&& ~~~(2#64 ||| 4#64)) = 32#64 by decide +kernel] at this
  exact this
theorem hold_one (W : World) : Calls Tryd.prog 41 #[.agg #[.int .i64 2, .int .i64 3, .int .u64 0, .int .u64 0], .int .u64 (nv 6#64)] W fun e w' => e = .returned (.agg #[.int .i64 2, .int .i64 3, .int .u64 0, .int .u64 (nv 6#64)]) ∧ Below W.heap.size W w' := by
  have := hold_any 2 3 0#64 0#64 6#64 W
  rw [show (0#64 ||| 6#64 : NSet) = 6#64 by decide, nv_zero] at this
  exact this
theorem back_one (W : World) : Calls Tryd.prog 43 #[.agg #[.int .i64 2, .int .i64 3, .int .u64 0, .int .u64 (nv 6#64)], .int .i64 1] W fun e w' => e = .returned (.agg #[.int .i64 2, .int .i64 3, .int .u64 (nv 2#64), .int .u64 (nv 4#64)]) ∧ Below W.heap.size W w' := by
  have := back_any 2 3 0#64 6#64 1 W
  rw [show backD 0#64 6#64 1 = 2#64 by decide, show backH 6#64 1 = 4#64 by decide, nv_zero] at this
  exact this
theorem right_one (W : World) : Calls Tryd.prog 42 #[.agg #[.int .i64 2, .int .i64 3, .int .u64 0, .int .u64 0], .int .i64 6] W fun e w' => e = .returned (.bool true) ∧ Below W.heap.size W w' := by
  have := right_yes 2 3 0#64 0#64 6 W (by decide) (by decide) (by decide) (by decide) (by decide) (by decide +kernel)
  rw [nv_zero] at this
  exact this

set_option maxRecDepth 100000 in
set_option maxHeartbeats 2000000 in
theorem roll_one (w : World) (hT : TabZ w) : Calls Tryd.prog 44 #[] w fun e w' => e = .returned (.bool true) ∧ Below w.heap.size w w' := by
  have HT := Lib.hid hT
  clear hT
  go_enter Tryd.func44, Tryd.ntmps44
  go_wp2_with fail
  generalize hW : w.alloc (.cells #[.int .i64 2, .int .i64 3, .int .u64 0, .int .u64 0] 58) = U
  have d0 : U.cell? ⟨w.heap.size, 0, none⟩ = some (.int .i64 2) := by subst hW; go_simp
  have d1 : U.cell? ⟨w.heap.size, 1, none⟩ = some (.int .i64 3) := by subst hW; go_simp
  have d2 : U.cell? ⟨w.heap.size, 2, none⟩ = some (.int .u64 0) := by subst hW; go_simp
  have d3 : U.cell? ⟨w.heap.size, 3, none⟩ = some (.int .u64 0) := by subst hW; go_simp
  have HB0 := Lib.hid (show Below w.heap.size w U by rw [← hW]; exact (by repeat (first | exact Below.refl _ _ | assumption | refine below_drewN ?_ _ | refine Below.drew ?_ | refine below_alloc ?_ _ | refine Below.alloc ?_ (by first | omega | (simp; done) | (simp; omega)) _ | refine Below.setCell ?_ (Below.size (by assumption)) _ | refine Below.setCell ?_ (by first | omega | (simp; done) | (simp; omega)) _ | (refine Below.trans ?_ (Below.mono (by assumption) (by first | omega | (simp; done) | (simp; omega)))) | refine below_next ?_ (by assumption))))
  clear hW
  have l0 : w.heap.size < U.heap.size := World.block_lt_of_cell? U _ d2
  refine Bld.wp_region_build U (by kernel_rfl) (by kernel_rfl) (Below.refl _ _) ?_
  (refine Bld.textB_det ?_ rfl rfl rfl ?_ (fun W hS => ?_) ?_; rotate_left; (focus go_simp); (focus (obtain ⟨hc, hf⟩ := bcell hS; go_simp; first | (refine ⟨?_, Below.refl _ _⟩; rfl) | rfl | exact Below.refl _ _)); (try go_simp))
  (refine Bld.textB_al _ ((3), (#[.int .i64 1, .int .i64 2, .int .i64 5]), (some 3)) rfl rfl rfl rfl (fun W => ?_) ?_; (focus (first | rfl | (go_simp; done) | (go_simp; rfl))); (try go_simp))
  (refine Bld.textB_use ?_ (6) _ rfl rfl rfl rfl (fun b => ?_) (fun b W hS hB hb => ?_) ?_; rotate_left; (focus go_simp); (focus (go_simp; refine (of125 b W hb).mono ?_; rintro e w1 ⟨rfl, hbb⟩; refine ⟨?_, hbb⟩; rfl)); (try go_simp))
  (refine Bld.textB_det ?_ rfl rfl rfl ?_ (fun W hS => ?_) ?_; rotate_left; (focus go_simp); (focus (obtain ⟨hc, hf⟩ := bcell hS; go_simp; refine (next_one _ (HT.out.below (HB0.out.trans (hS.mono HB0.out.size)))).mono ?_; rintro e w1 ⟨rfl, hb⟩; refine ⟨?_, hb⟩; rfl)); (try go_simp))
  (refine Bld.textB_det ?_ rfl rfl rfl ?_ (fun W hS => ?_) ?_; rotate_left; (focus go_simp); (focus (obtain ⟨hc, hf⟩ := bcell hS; go_simp; first | (refine ⟨?_, Below.refl _ _⟩; rfl) | rfl | exact Below.refl _ _)); (try go_simp))
  intro blk w1 hb1 hn1 hn2
  clear hn1 hn2
  simp only [Bld.putZ, Bld.mkVal]
  generalize blk 6 = z6 at *
  clear blk
  obtain ⟨hc, hf⟩ := bcell hb1
  replace d0 := (hc _ 0 l0).trans d0
  replace d1 := (hc _ 1 l0).trans d1
  replace d2 := (hc _ 2 l0).trans d2
  replace d3 := (hc _ 3 l0).trans d3
  have HB1 := Lib.hid (below_next HB0.out hb1)
  have l1 : w.heap.size < w1.heap.size := World.block_lt_of_cell? w1 _ d2
  clear hc hf hb1 HB0 l0
  go_wp2_with fail
  refine (hold_one _).mono ?_
  rintro e w2 ⟨rfl, hb2⟩
  obtain ⟨hc, hf⟩ := bcell hb2
  replace d0 := (hc _ 0 l1).trans d0
  replace d1 := (hc _ 1 l1).trans d1
  replace d2 := (hc _ 2 l1).trans d2
  replace d3 := (hc _ 3 l1).trans d3
  have HB2 := Lib.hid (below_next HB1.out hb2)
  have l2 : w.heap.size < w2.heap.size := World.block_lt_of_cell? w2 _ d2
  clear hc hf hb2 HB1 l1
  clear w1
  go_wp2_with fail
  refine (back_one _).mono ?_
  rintro e w3 ⟨rfl, hb3⟩
  obtain ⟨hc, hf⟩ := bcell hb3
  replace d0 := (hc _ 0 l2).trans d0
  replace d1 := (hc _ 1 l2).trans d1
  replace d2 := (hc _ 2 l2).trans d2
  replace d3 := (hc _ 3 l2).trans d3
  have HB3 := Lib.hid (below_next HB2.out hb3)
  have l3 : w.heap.size < w3.heap.size := World.block_lt_of_cell? w3 _ d2
  clear hc hf hb3 HB2 l2
  clear w2
  go_wp2_with fail
  generalize hW : w3.alloc (.cells #[.int .i64 2, .int .i64 3, .int .u64 (nv 2#64), .int .u64 (nv 4#64)] 58) = U
  have c0 : U.cell? ⟨w.heap.size, 0, none⟩ = some (.int .i64 2) := by subst hW; go_simp
  have c1 : U.cell? ⟨w.heap.size, 1, none⟩ = some (.int .i64 3) := by subst hW; go_simp
  have c2 : U.cell? ⟨w.heap.size, 2, none⟩ = some (.int .u64 0) := by subst hW; go_simp
  have c3 : U.cell? ⟨w.heap.size, 3, none⟩ = some (.int .u64 0) := by subst hW; go_simp
  have q0 : U.cell? ⟨w3.heap.size, 0, none⟩ = some (.int .i64 2) := by subst hW; go_simp
  have q1 : U.cell? ⟨w3.heap.size, 1, none⟩ = some (.int .i64 3) := by subst hW; go_simp
  have q2 : U.cell? ⟨w3.heap.size, 2, none⟩ = some (.int .u64 (nv 2#64)) := by subst hW; go_simp
  have q3 : U.cell? ⟨w3.heap.size, 3, none⟩ = some (.int .u64 (nv 4#64)) := by subst hW; go_simp
  have HB4 := Lib.hid (show Below w.heap.size w U by rw [← hW]; exact below_alloc HB3.out _)
  clear hW d0 d1 d2 d3
  have l4 : w.heap.size < U.heap.size := World.block_lt_of_cell? U _ c2
  have l5 : w3.heap.size < U.heap.size := World.block_lt_of_cell? U _ q2
  generalize w3.heap.size = q at *
  refine Bld.wp_region_build U (by kernel_rfl) (by kernel_rfl) (Below.refl _ _) ?_
  (refine Bld.textB_det ?_ rfl rfl rfl ?_ (fun W hS => ?_) ?_; rotate_left; (focus go_simp); (focus (obtain ⟨hc, hf⟩ := bcell hS; go_simp; first | (refine ⟨?_, Below.refl _ _⟩; rfl) | rfl | exact Below.refl _ _)); (try go_simp))
  (refine Bld.textB_al _ ((3), (#[.int .i64 1, .int .i64 2]), (some 2)) rfl rfl rfl rfl (fun W => ?_) ?_; (focus (first | rfl | (go_simp; done) | (go_simp; rfl))); (try go_simp))
  (refine Bld.textB_use ?_ (14) _ rfl rfl rfl rfl (fun b => ?_) (fun b W hS hB hb => ?_) ?_; rotate_left; (focus go_simp); (focus (go_simp; refine (of12 b W hb).mono ?_; rintro e w1 ⟨rfl, hbb⟩; refine ⟨?_, hbb⟩; rfl)); (try go_simp))
  (refine Bld.textB_det ?_ rfl rfl rfl ?_ (fun W hS => ?_) ?_; rotate_left; (focus go_simp); (focus (obtain ⟨hc, hf⟩ := bcell hS; go_simp; first | (refine ⟨?_, Below.refl _ _⟩; rfl) | rfl | exact Below.refl _ _)); (try go_simp))
  (refine Bld.textB_det ?_ rfl rfl rfl ?_ (fun W hS => ?_) ?_; rotate_left; (focus go_simp); (focus (obtain ⟨hc, hf⟩ := bcell hS; go_simp; first | (refine ⟨?_, Below.refl _ _⟩; rfl) | rfl | exact Below.refl _ _)); (try go_simp))
  (refine Bld.textB_det ?_ rfl rfl rfl ?_ (fun W hS => ?_) ?_; rotate_left; (focus go_simp); (focus (obtain ⟨hc, hf⟩ := bcell hS; go_simp; first | (refine ⟨?_, Below.refl _ _⟩; rfl) | rfl | exact Below.refl _ _)); (try go_simp))
  (refine Bld.textB_det ?_ rfl rfl rfl ?_ (fun W hS => ?_) ?_; rotate_left; (focus go_simp); (focus (obtain ⟨hc, hf⟩ := bcell hS; go_simp; first | (refine ⟨?_, Below.refl _ _⟩; rfl) | rfl | exact Below.refl _ _)); (try go_simp))
  (refine Bld.textB_det ?_ rfl rfl rfl ?_ (fun W hS => ?_) ?_; rotate_left; (focus go_simp); (focus (obtain ⟨hc, hf⟩ := bcell hS; go_simp; refine (next_two _).mono ?_; rintro e w1 ⟨rfl, hb⟩; refine ⟨?_, hb⟩; rfl)); (try go_simp))
  (refine Bld.textB_det ?_ rfl rfl rfl ?_ (fun W hS => ?_) ?_; rotate_left; (focus go_simp); (focus (obtain ⟨hc, hf⟩ := bcell hS; go_simp; first | (refine ⟨?_, Below.refl _ _⟩; rfl) | rfl | exact Below.refl _ _)); (try go_simp))
  (refine Bld.textB_det ?_ rfl rfl rfl ?_ (fun W hS => ?_) ?_; rotate_left; (focus go_simp); (focus (obtain ⟨hc, hf⟩ := bcell hS; go_simp; first | (refine ⟨?_, Below.refl _ _⟩; rfl) | rfl | exact Below.refl _ _)); (try go_simp))
  (refine Bld.textB_det ?_ rfl rfl rfl ?_ (fun W hS => ?_) ?_; rotate_left; (focus go_simp); (focus (obtain ⟨hc, hf⟩ := bcell hS; go_simp; first | (refine ⟨?_, Below.refl _ _⟩; rfl) | rfl | exact Below.refl _ _)); (try go_simp))
  (refine Bld.textB_det ?_ rfl rfl rfl ?_ (fun W hS => ?_) ?_; rotate_left; (focus go_simp); (focus (obtain ⟨hc, hf⟩ := bcell hS; go_simp; first | (refine ⟨?_, Below.refl _ _⟩; rfl) | rfl | exact Below.refl _ _)); (try go_simp))
  (refine Bld.textB_det ?_ rfl rfl rfl ?_ (fun W hS => ?_) ?_; rotate_left; (focus go_simp); (focus (obtain ⟨hc, hf⟩ := bcell hS; go_simp; first | (refine ⟨?_, Below.refl _ _⟩; rfl) | rfl | exact Below.refl _ _)); (try go_simp))
  (refine Bld.textB_alg _ ((3), (#[.int .i64 1]), (some 1)) rfl rfl rfl rfl ?_ (fun W => ?_) ?_; (focus (first | rfl | (go_simp; done) | (go_simp; rfl))); (focus (first | rfl | (go_simp; done) | (go_simp; rfl))); (try go_simp))
  (refine Bld.textB_use ?_ (26) _ rfl rfl rfl rfl (fun b => ?_) (fun b W hS hB hb => ?_) ?_; rotate_left; (focus go_simp); (focus (go_simp; refine (of1 b W hb).mono ?_; rintro e w1 ⟨rfl, hbb⟩; refine ⟨?_, hbb⟩; rfl)); (try go_simp))
  (refine Bld.textB_det ?_ rfl rfl rfl ?_ (fun W hS => ?_) ?_; rotate_left; (focus go_simp); (focus (obtain ⟨hc, hf⟩ := bcell hS; go_simp; first | (refine ⟨?_, Below.refl _ _⟩; rfl) | rfl | exact Below.refl _ _)); (try go_simp))
  (refine Bld.textB_det ?_ rfl rfl rfl ?_ (fun W hS => ?_) ?_; rotate_left; (focus go_simp); (focus (obtain ⟨hc, hf⟩ := bcell hS; go_simp; first | (refine ⟨?_, Below.refl _ _⟩; rfl) | rfl | exact Below.refl _ _)); (try go_simp))
  (refine Bld.textB_det ?_ rfl rfl rfl ?_ (fun W hS => ?_) ?_; rotate_left; (focus go_simp); (focus (obtain ⟨hc, hf⟩ := bcell hS; go_simp; first | (refine ⟨?_, Below.refl _ _⟩; rfl) | rfl | exact Below.refl _ _)); (try go_simp))
  (refine Bld.textB_det ?_ rfl rfl rfl ?_ (fun W hS => ?_) ?_; rotate_left; (focus go_simp); (focus (obtain ⟨hc, hf⟩ := bcell hS; go_simp; first | (refine ⟨?_, Below.refl _ _⟩; rfl) | rfl | exact Below.refl _ _)); (try go_simp))
  (refine Bld.textB_det ?_ rfl rfl rfl ?_ (fun W hS => ?_) ?_; rotate_left; (focus go_simp); (focus (obtain ⟨hc, hf⟩ := bcell hS; go_simp; first | (refine ⟨?_, Below.refl _ _⟩; rfl) | rfl | exact Below.refl _ _)); (try go_simp))
  (refine Bld.textB_alg _ ((3), (#[.int .i64 2]), (some 1)) rfl rfl rfl rfl ?_ (fun W => ?_) ?_; (focus (first | rfl | (go_simp; done) | (go_simp; rfl))); (focus (first | rfl | (go_simp; done) | (go_simp; rfl))); (try go_simp))
  (refine Bld.textB_use ?_ (33) _ rfl rfl rfl rfl (fun b => ?_) (fun b W hS hB hb => ?_) ?_; rotate_left; (focus go_simp); (focus (go_simp; refine (of2 b W hb).mono ?_; rintro e w1 ⟨rfl, hbb⟩; refine ⟨?_, hbb⟩; rfl)); (try go_simp))
  (refine Bld.textB_det ?_ rfl rfl rfl ?_ (fun W hS => ?_) ?_; rotate_left; (focus go_simp); (focus (obtain ⟨hc, hf⟩ := bcell hS; go_simp; first | (refine ⟨?_, Below.refl _ _⟩; rfl) | rfl | exact Below.refl _ _)); (try go_simp))
  (refine Bld.textB_det ?_ rfl rfl rfl ?_ (fun W hS => ?_) ?_; rotate_left; (focus go_simp); (focus (obtain ⟨hc, hf⟩ := bcell hS; go_simp; first | (refine ⟨?_, Below.refl _ _⟩; rfl) | rfl | exact Below.refl _ _)); (try go_simp))
  (refine Bld.textB_det ?_ rfl rfl rfl ?_ (fun W hS => ?_) ?_; rotate_left; (focus go_simp); (focus (obtain ⟨hc, hf⟩ := bcell hS; go_simp; first | (refine ⟨?_, Below.refl _ _⟩; rfl) | rfl | exact Below.refl _ _)); (try go_simp))
  (refine Bld.textB_det ?_ rfl rfl rfl ?_ (fun W hS => ?_) ?_; rotate_left; (focus go_simp); (focus (obtain ⟨hc, hf⟩ := bcell hS; go_simp; first | (refine ⟨?_, Below.refl _ _⟩; rfl) | rfl | exact Below.refl _ _)); (try go_simp))
  (refine Bld.textB_alg _ ((3), (#[.int .i64 1, .int .i64 2, .int .i64 5]), (some 3)) rfl rfl rfl rfl ?_ (fun W => ?_) ?_; (focus (first | rfl | (go_simp; done) | (go_simp; rfl))); (focus (first | rfl | (go_simp; done) | (go_simp; rfl))); (try go_simp))
  (refine Bld.textB_use ?_ (39) _ rfl rfl rfl rfl (fun b => ?_) (fun b W hS hB hb => ?_) ?_; rotate_left; (focus go_simp); (focus (go_simp; refine (of125 b W hb).mono ?_; rintro e w1 ⟨rfl, hbb⟩; refine ⟨?_, hbb⟩; rfl)); (try go_simp))
  (refine Bld.textB_det ?_ rfl rfl rfl ?_ (fun W hS => ?_) ?_; rotate_left; (focus go_simp); (focus (obtain ⟨hc, hf⟩ := bcell hS; go_simp; refine (next_three _ (HT.out.below (HB4.out.trans (hS.mono HB4.out.size)))).mono ?_; rintro e w1 ⟨rfl, hb⟩; refine ⟨?_, hb⟩; rfl)); (try go_simp))
  (refine Bld.textB_alg _ ((3), (#[.int .i64 5]), (some 1)) rfl rfl rfl rfl ?_ (fun W => ?_) ?_; (focus (first | rfl | (go_simp; done) | (go_simp; rfl))); (focus (first | rfl | (go_simp; done) | (go_simp; rfl))); (try go_simp))
  (refine Bld.textB_use ?_ (42) _ rfl rfl rfl rfl (fun b => ?_) (fun b W hS hB hb => ?_) ?_; rotate_left; (focus go_simp); (focus (go_simp; refine (of5 b W hb).mono ?_; rintro e w1 ⟨rfl, hbb⟩; refine ⟨?_, hbb⟩; rfl)); (try go_simp))
  (refine Bld.textB_det ?_ rfl rfl rfl ?_ (fun W hS => ?_) ?_; rotate_left; (focus go_simp); (focus (obtain ⟨hc, hf⟩ := bcell hS; go_simp; first | (refine ⟨?_, Below.refl _ _⟩; rfl) | rfl | exact Below.refl _ _)); (try go_simp))
  (refine Bld.textB_det ?_ rfl rfl rfl ?_ (fun W hS => ?_) ?_; rotate_left; (focus go_simp); (focus (obtain ⟨hc, hf⟩ := bcell hS; go_simp; first | (refine ⟨?_, Below.refl _ _⟩; rfl) | rfl | exact Below.refl _ _)); (try go_simp))
  (refine Bld.textB_det ?_ rfl rfl rfl ?_ (fun W hS => ?_) ?_; rotate_left; (focus go_simp); (focus (obtain ⟨hc, hf⟩ := bcell hS; go_simp; first | (refine ⟨?_, Below.refl _ _⟩; rfl) | rfl | exact Below.refl _ _)); (try go_simp))
  (refine Bld.textB_det ?_ rfl rfl rfl ?_ (fun W hS => ?_) ?_; rotate_left; (focus go_simp); (focus (obtain ⟨hc, hf⟩ := bcell hS; go_simp; first | (refine ⟨?_, Below.refl _ _⟩; rfl) | rfl | exact Below.refl _ _)); (try go_simp))
  (refine Bld.textB_det ?_ rfl rfl rfl ?_ (fun W hS => ?_) ?_; rotate_left; (focus go_simp); (focus (obtain ⟨hc, hf⟩ := bcell hS; go_simp; refine (right_one _).mono ?_; rintro e w1 ⟨rfl, hb⟩; refine ⟨?_, hb⟩; rfl)); (try go_simp))
  (refine Bld.textB_det ?_ rfl rfl rfl ?_ (fun W hS => ?_) ?_; rotate_left; (focus go_simp); (focus (obtain ⟨hc, hf⟩ := bcell hS; go_simp; first | (refine ⟨?_, Below.refl _ _⟩; rfl) | rfl | exact Below.refl _ _)); (try go_simp))
  (refine Bld.textB_det ?_ rfl rfl rfl ?_ (fun W hS => ?_) ?_; rotate_left; (focus go_simp); (focus (obtain ⟨hc, hf⟩ := bcell hS; go_simp; first | (refine ⟨?_, Below.refl _ _⟩; rfl) | rfl | exact Below.refl _ _)); (try go_simp))
  intro blk w5 hb5 hn1 hn2
  clear hn1 hn2
  simp only [Bld.putZ, Bld.mkVal]
  generalize blk 14 = z14 at *
  generalize blk 26 = z26 at *
  generalize blk 33 = z33 at *
  generalize blk 39 = z39 at *
  generalize blk 42 = z42 at *
  clear blk
  go_wp2
  go_ret
  exact ⟨rfl, below_next HB4.out hb5⟩
end Go.Proofs.YtkllhnfnkgkelaaDoor
