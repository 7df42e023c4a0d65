/- Two rows of ints compared (same); what the iterator tells a function (listed). Condition: math/bits' table of trailing zeros lies as its text lays it. -/
import Derived.Test.YtkllhnfnkgkelaaDoorOwnI
import Derived.Test.YtkllhnfnkgkelaaDoorBitsRefP
import Derived.Test.YtkllhnfnkgkelaaDoorGrowTwo
import Derived.Test.YtkllhnfnkgkelaaDoorBitsText
import Derived.Test.YtkllhnfnkgkelaaDoorBitsIter
namespace Go.Proofs.YtkllhnfnkgkelaaDoor
set_option linter.unusedVariables false
open Go.ChangeShapes Go.WideShapes Go.ChangeAt Go.RowKit Go.Shelf
attribute [local go_sem ↓] Go.wp_at_zero Go.wp_at_succ comesTo_value_eq comesTo_skip_eq comesTo_enter_eq

set_option maxRecDepth 100000 in
theorem same_rows (g o c g2 o2 c2 : Nat) (l : List Int) (w : World) (hl : l.length ≤ 1000) (hc : ∀ k, k < l.length → w.cell? ⟨g, o + k, none⟩ = some (.int .i64 (l.getD k 0))) (hc2 : ∀ k, k < l.length → w.cell? ⟨g2, o2 + k, none⟩ = some (.int .i64 (l.getD k 0))) :
    Calls Tryd.prog 24 #[.slice (some ⟨g, o, none⟩) l.length c, .slice (some ⟨g2, o2, none⟩) l.length c2] w fun e w' => e = .returned (.bool true) ∧ Below w.heap.size w w' := by
  have hmx : Tryd.prog.follows .mixedOrders = true := by kernel_rfl
  have HC := Lib.hid hc
  have HC2 := Lib.hid hc2
  clear hc hc2
  go_enter Tryd.func24, Tryd.ntmps24
  go_wp2
  go_loopw [5] (fun i wr => ∃ k : Nat, k ≤ l.length ∧ i = .int .i64 k ∧ Below w.heap.size w wr) (fun i _ => l.length - (intOf i).toNat)
  case atStart => exact ⟨0, Nat.zero_le _, rfl, Below.refl _ _⟩
  case round =>
    obtain ⟨k, hk, rfl, hB⟩ := hrel
    by_cases hlt : k < l.length
    · have hlt' : (k : Int) < (l.length : Int) := by omega
      have c1 := (hB.cell (p := ⟨g, o + k, none⟩) (World.block_lt_of_cell? w _ (HC.out k hlt))).trans (HC.out k hlt)
      have c2 := (hB.cell (p := ⟨g2, o2 + k, none⟩) (World.block_lt_of_cell? w _ (HC2.out k hlt))).trans (HC2.out k hlt)
      generalize l.getD k 0 = x at *
      go_wp2
      refine wp_region_grow (fun w' => w' = wr.drew) hmx (by kernel_rfl) rfl ?_
      (refine textS_run ?_ ?_ (fun W hS => ?_) ?_; rotate_left; (focus go_simp); (focus (subst hS; go_simp; all_goals (first | exact ⟨rfl, rfl⟩ | rfl | (refine ⟨?_, rfl⟩; rfl)))); (try go_simp))
      (refine textS_run ?_ ?_ (fun W hS => ?_) ?_; rotate_left; (focus go_simp); (focus (subst hS; go_simp; all_goals (first | exact ⟨rfl, rfl⟩ | rfl | (refine ⟨?_, rfl⟩; rfl)))); (try go_simp))
      (refine textS_run ?_ ?_ (fun W hS => ?_) ?_; rotate_left; (focus go_simp); (focus (subst hS; go_simp; all_goals (first | exact ⟨rfl, rfl⟩ | rfl | (refine ⟨?_, rfl⟩; rfl)))); (try go_simp))
      (refine textS_run ?_ ?_ (fun W hS => ?_) ?_; rotate_left; (focus go_simp); (focus (subst hS; go_simp; all_goals (first | exact ⟨rfl, rfl⟩ | rfl | (refine ⟨?_, rfl⟩; rfl)))); (try go_simp))
      (refine textS_run ?_ ?_ (fun W hS => ?_) ?_; rotate_left; (focus go_simp); (focus (subst hS; go_simp; all_goals (first | exact ⟨rfl, rfl⟩ | rfl | (refine ⟨?_, rfl⟩; rfl)))); (try go_simp))
      (refine textS_run ?_ ?_ (fun W hS => ?_) ?_; rotate_left; (focus go_simp); (focus (subst hS; go_simp; all_goals (first | exact ⟨rfl, rfl⟩ | rfl | (refine ⟨?_, rfl⟩; rfl)))); (try go_simp))
      (refine textS_run ?_ ?_ (fun W hS => ?_) ?_; rotate_left; (focus go_simp); (focus (subst hS; go_simp; all_goals (first | exact ⟨rfl, rfl⟩ | rfl | (refine ⟨?_, rfl⟩; rfl)))); (try go_simp))
      (refine textS_run ?_ ?_ (fun W hS => ?_) ?_; rotate_left; (focus go_simp); (focus (subst hS; go_simp; all_goals (first | exact ⟨rfl, rfl⟩ | rfl | (refine ⟨?_, rfl⟩; rfl)))); (try go_simp))
      (refine textS_run ?_ ?_ (fun W hS => ?_) ?_; rotate_left; (focus go_simp); (focus (subst hS; go_simp; all_goals (first | exact ⟨rfl, rfl⟩ | rfl | (refine ⟨?_, rfl⟩; rfl)))); (try go_simp))
      refine textS_nil ?_
      go_wp2
      go_roundw
      case rel => exact ⟨k + 1, by omega, by go_num, hB.drew⟩
      case measure => simp [intOf]; omega
    · obtain rfl : k = l.length := by omega
      go_wp2
      go_ret
      exact ⟨rfl, hB⟩
theorem same_none (a b : Option Addr) (c c2 : Nat) (w : World) : Calls Tryd.prog 24 #[.slice a 0 c, .slice b 0 c2] w fun e w' => e = .returned (.bool true) ∧ Below w.heap.size w w' := by
  go_enter Tryd.func24, Tryd.ntmps24
  go_wp2
  go_loop [5] (fun i => i = .int .i64 0) (fun i => 0)
  case atStart => exact rfl
  case round =>
    subst hrel
    go_wp2
    go_ret
    exact ⟨rfl, Below.refl _ _⟩
theorem same_any {v v2 : Value} (l : List Int) (w : World) (hl : l.length ≤ 1000) (h : ReadsI w v l) (h2 : ReadsI w v2 l) : Calls Tryd.prog 24 #[v, v2] w fun e w' => e = .returned (.bool true) ∧ Below w.heap.size w w' := by
  rcases h with ⟨rfl, a, c, rfl⟩ | ⟨h0, h1, g, o, c, rfl, _, hc⟩
  · rcases h2 with ⟨_, b, c2, rfl⟩ | ⟨h0, _⟩
    · exact same_none a b c c2 w
    · exact absurd h0 (Nat.lt_irrefl _)
  · rcases h2 with ⟨he, _⟩ | ⟨_, _, g2, o2, c2, rfl, _, hc2⟩
    · rw [he] at h0; exact absurd h0 (Nat.lt_irrefl _)
    · exact same_rows g o c g2 o2 c2 l w hl hc hc2
/-- the box's row grows by one -/
def Grew (n₀ B : Nat) (l : List Int) (w w' : World) : Prop := ∃ v', Boxed w' B 24 v' ∧ OwnI w' n₀ v' l ∧ Below n₀ w w'
set_option maxRecDepth 100000 in
/-- what the function that is told the nodes does -/
theorem listed1_any (n : Int) (B n₀ : Nat) (v : Value) (l : List Int) (w : World) (hv : Boxed w B 24 v) (hO : OwnI w n₀ v l) (hn : n₀ ≤ w.heap.size) (hB : n₀ ≤ B) (hl : l.length ≤ 68) :
    Calls Tryd.prog 49 #[.int .i64 n, .pointer (some ⟨B, 0, none⟩)] w fun e w' => e = .returned (.bool true) ∧ Grew n₀ B (l ++ [n]) w w' := by
  obtain ⟨i0, hi, hz0, hz1, hz2⟩ := info_parts infoInt
  have hc := hv.cell
  have hc2 := (hv.alloc (.cells #[.int .i64 n] 3)).cell
  have HL := Lib.hid hl
  have HO := Lib.hid (show w.ownsRow n₀ 3 1 v l.length (l.map (Value.int .i64)) from hO)
  clear hO hl
  go_enter Tryd.func49, Tryd.ntmps49
  go_wp2_with (at_builtin; go_loud (have hl := HL.out; refine wpList_append_own _ rfl _ _ 24 rfl n₀ 3 i0 (.int .i64 0) 1 8 Tryd.underlying24 hi hz0 hz1 hz2 rfl (by decide) v l.length (l.map (Value.int .i64)) rfl (World.ownsRow.alloc HO.out _) ⟨w.heap.size, 0, none⟩ 1 1 [.int .i64 n] rfl rfl (cell_one_new _ _ _) (by intro u hu; simp at hu; subst hu; rfl) (by unfold maxLen; omega) (by omega) (by simp; omega) ?_; intro v' w1 hown' hgrow _; have hrp := ownsRow_pos hown' (by omega); obtain ⟨g', cap', rfl⟩ := hrp; have hap := Boxed.appended hv (by decide) HO.out hn hB hown' hgrow; obtain ⟨hv2, hv3, hr3, hk3, hb3⟩ := hap; have hc3 := hv2.cell; have hf3 := hv2.frozen; have hc4 := hv3.cell; have h70 : ((l.length : Int) + 1 < 70) := by omega))
  go_ret
  exact ⟨rfl, _, hv3, (by unfold OwnI; rw [List.length_append, List.map_append]; exact hr3), hb3⟩
/-- the iterator of a set's nodes, told that function -/
theorem all1_listed (s : NSet) (Bn B n₀ : Nat) (w : World) (hBn : w.cell? ⟨Bn, 0, none⟩ = some (.int .u64 (nv s))) (hv : Boxed w B 24 (.slice none 0 0)) (hn : n₀ ≤ w.heap.size) (hB : n₀ ≤ B) (hg : 1 < n₀) (hT : TabZ w) :
    Calls Tryd.prog 61 #[.func (.func 49) #[] #[.pointer (some ⟨B, 0, none⟩)], .pointer (some ⟨Bn, 0, none⟩)] w fun e w' => (∃ v, e = .returned v) ∧ Grew n₀ B (nodes s) w w' := by
  have hcard := card_le s
  have HT := Lib.hid hT
  have HV := Lib.hid hv
  clear hT hv
  go_enter Tryd.func61, Tryd.ntmps61
  go_wp2
  go_loopw [3] (fun p wr => ∃ (pre : List Int) (r : NSet), p = .int .u64 (nv r) ∧ nodes s = pre ++ nodes r ∧ TabZ wr ∧ Grew n₀ B pre w wr)
    (fun p _ => (card (BitVec.ofInt 64 (intOf p))))
  case atStart => exact ⟨[], s, rfl, rfl, HT.out, _, HV.out, OwnI.nil, Below.refl _ _⟩
  case round =>
    obtain ⟨pre, r, rfl, hx, hTr, v, hb1, hO, hBw⟩ := hrel
    have HX := Lib.hid hx
    have HG := Lib.hid hg
    by_cases hr : r = 0#64
    · have hb : (nv r == 0) = true := by rw [nv_is0]; simpa using hr
      rw [hr, nodes_zero, List.append_nil] at hx
      clear hg
      go_wp2
      go_end0
      exact ⟨⟨_, rfl⟩, v, hb1, by rw [hx]; exact hO, hBw⟩
    · have hb : (nv r == 0) = false := by rw [nv_is0]; simpa using hr
      have hlen : pre.length < card s := by
        have h1 := congrArg List.length hx
        rw [nodes_length _ s rfl, List.length_append, nodes_cons hr, List.length_cons] at h1
        omega
      have KL := Lib.hid (fun W (h : TabZ W) => lowest_any r W h)
      have KN := Lib.hid (listed1_any (lowI r) B n₀ v pre wr hb1 hO (Nat.le_trans hn hBw.size) hB (by omega))
      have HW := Lib.hid hBw
      clear hx hO hb1 hBw hg
      go_wp2_with fail
      refine (KL.out _ hTr).mono ?_
      rintro e w' ⟨rfl, rfl⟩
      go_wp2_with fail
      refine KN.out.mono ?_
      rintro e W3 ⟨rfl, v3, hb3, hO3, hB3⟩
      have hT3 := TabZ.kept hTr HG.out hB3
      go_wp2_with fail
      refine (KL.out _ hT3).mono ?_
      rintro e w' ⟨rfl, rfl⟩
      go_wp2_with fail
      refine (without_any r (lowI r) _).mono ?_
      rintro e w' ⟨rfl, rfl⟩
      go_wp2_with fail
      go_roundw
      case rel => exact ⟨pre ++ [lowI r], restS r, rfl, by rw [HX.out, nodes_cons hr]; simp, hT3, v3, hb3, hO3, HW.out.trans hB3⟩
      case measure =>
        have := card_rest hr
        simp only [intOf, nv, BitVec.ofInt_natCast, BitVec.ofNat_toNat, BitVec.setWidth_eq]
        unfold restS at this
        omega
set_option maxRecDepth 100000 in
theorem listed_any (s : NSet) (w : World) (hT : TabZ w) : Calls Tryd.prog 25 #[.int .u64 (nv s)] w (GivesI w (nodes s)) := by
  have bW := Boxed.new w 24 (.slice none 0 0)
  have hbx := (Below.refl w.heap.size w).alloc (Nat.le_refl _) (.cells #[.slice none 0 0] 24)
  have hby := hbx.alloc (by simp) (.cells #[.int .u64 (nv s)] 23)
  have KN := Lib.hid (all1_listed s (w.heap.size + 1) w.heap.size w.heap.size ((w.alloc (.cells #[.slice none 0 0] 24)).alloc (.cells #[.int .u64 (nv s)] 23))
    (by have := (Boxed.new (w.alloc (.cells #[.slice none 0 0] 24)) 23 (.int .u64 (nv s))).cell; rw [World.size_alloc] at this; exact this) (bW.alloc _) hby.size (Nat.le_refl _) hT.1 (hT.below hby))
  have HB := Lib.hid hby
  have hrun : ∀ W : World, Sem.run Tryd.prog (binOp BinOp.eql 65 (.func (.func 61) #[] #[.pointer (some ⟨w.heap.size + 1, 0, none⟩)]) Value.nilFunc) W = .ok (.bool false) W := fun W => by kernel_rfl
  clear hT bW hbx hby
  go_enter Tryd.func25, Tryd.ntmps25
  go_wp2_with fail
  refine (all_any s _).mono ?_
  rintro e w' ⟨rfl, rfl⟩
  go_wp2_with fail
  refine KN.out.mono ?_
  rintro e W3 ⟨⟨u, rfl⟩, v3, hb3, hO3, hB3⟩
  have hc3 := hb3.cell
  go_wp2_with fail
  go_ret
  exact ⟨_, rfl, hO3, HB.out.trans hB3⟩
end Go.Proofs.YtkllhnfnkgkelaaDoor
