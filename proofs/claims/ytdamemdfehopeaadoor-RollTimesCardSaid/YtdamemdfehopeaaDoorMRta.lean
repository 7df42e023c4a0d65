/- Roll (layer 21): bound, Start, Lower, Bound. Conditions: levels that are there, and right; the numbers' bounds. -/
import Derived.Test.YtdamemdfehopeaaDoorMak
import Derived.Test.YtdamemdfehopeaaDoorMag
import Derived.Test.YtdamemdfehopeaaDoorMAppTwo
import Derived.Test.YtdamemdfehopeaaDoorMac
import Derived.Test.YtdamemdfehopeaaDoorMab
import Derived.Test.YtdamemdfehopeaaDoorMaa
import Derived.Lib.MinMax
namespace Go.Proofs.YtdamemdfehopeaaDoor
set_option linter.unusedVariables false
open Go.ChangeShapes Go.WideShapes Go.ChangeAt Go.RowKit
attribute [local go_sem ↓] Go.wp_at_zero Go.wp_at_succ comesTo_value_eq comesTo_skip_eq comesTo_enter_eq

def bdF (lo hi v : Int) : Int := min (max v lo) hi
theorem rbound1_any {W : World} {b1 b2 : Nat} {lo hi : Int} (h1 : W.cell? ⟨b1, 0, none⟩ = some (.int .i64 lo)) (h2 : W.cell? ⟨b2, 0, none⟩ = some (.int .i64 hi)) (v : Int) :
    Calls Tryd.prog 111 #[.int .i64 v, .pointer (some ⟨b1, 0, none⟩), .pointer (some ⟨b2, 0, none⟩)] W fun e w' => e = .returned (.int .i64 (bdF lo hi v)) ∧ W = w' := by
  go_enter Tryd.func111, Tryd.ntmps111
  go_wp2
  go_ret
  exact ⟨rfl, rfl⟩
/-- a bound that was made -/
def BdV (lo hi : Int) (v : Value) (w : World) : Prop := ∃ b1 b2 : Nat, v = .func (.func 111) #[] #[.pointer (some ⟨b1, 0, none⟩), .pointer (some ⟨b2, 0, none⟩)] ∧ w.cell? ⟨b1, 0, none⟩ = some (.int .i64 lo) ∧ w.cell? ⟨b2, 0, none⟩ = some (.int .i64 hi)
theorem rbound_any (lo hi : Int) (w : World) : Calls Tryd.prog 74 #[.int .i64 lo, .int .i64 hi] w fun e w' => ∃ v, e = .returned v ∧ BdV lo hi v w' ∧ Below w.heap.size w w' := by
  have hb := below_alloc (below_alloc (Below.refl _ w) (.cells #[.int .i64 lo] 3)) (.cells #[.int .i64 hi] 3)
  have n2 := World.alloc_heap_new (w.alloc (.cells #[.int .i64 lo] 3)) (.cells #[.int .i64 hi] 3)
  have n1 := ((below_alloc (Below.refl _ (w.alloc (.cells #[.int .i64 lo] 3))) (.cells #[.int .i64 hi] 3)).block w.heap.size (by simp)).trans (World.alloc_heap_new w (.cells #[.int .i64 lo] 3))
  rw [show (w.alloc (.cells #[.int .i64 lo] 3)).heap.size = w.heap.size + 1 by simp] at n2
  go_enter Tryd.func74, Tryd.ntmps74
  go_wp2
  go_ret
  exact ⟨_, rfl, ⟨_, _, rfl, cell_of_block n1 rfl, cell_of_block n2 rfl⟩, hb⟩
def startF (L : List (Int × Int)) (now Wd : Int) : Int := if Wd < 1 then 1099511627776 else earlU L now 1099511627776 Wd
theorem start_at {w : World} {S : Nat} {L : List (Int × Int)} (h : USt w S L) (hr : RightU L) (now Wd : Int) : Calls Tryd.prog 24 #[.pointer (some ⟨S, 0, none⟩), .int .i64 now, .int .i64 Wd] w fun e w' => e = .returned (.int .i64 (startF L now Wd)) ∧ Below w.heap.size w w' := by
  have K := Lib.hid (early_at h hr now 1099511627776 Wd)
  unfold startF
  generalize earlU L now 1099511627776 Wd = E at *
  clear h hr
  by_cases hw : Wd < 1
  · have hd : decide (Wd < 1) = true := decide_eq_true hw
    rw [if_pos hw]
    clear hw
    go_enter Tryd.func24, Tryd.ntmps24
    go_wp2
    go_ret
    exact ⟨rfl, Below.refl _ _⟩
  · have hd : decide (Wd < 1) = false := decide_eq_false hw
    rw [if_neg hw]
    clear hw
    go_enter Tryd.func24, Tryd.ntmps24
    go_wp2_with fail
    refine K.out.mono ?_
    rintro e w' ⟨rfl, hb⟩
    go_wp2_with fail
    go_ret
    exact ⟨rfl, hb⟩
set_option maxRecDepth 100000 in
set_option maxHeartbeats 400000 in
theorem lower_gen {w : World} {v : Value} (Wd Fr nd nh : Int) (res : Int) (Q : World → Prop) (hv : v.oneCell' = true)
    (hA : ∀ X, Below w.heap.size w X → Calls Tryd.prog 64 #[v, .agg #[.int .i64 (clampI Fr), .int .i64 (addI Fr 1099511627776)], .int .i64 (-(bdF (-1073741824) 1073741824 Wd))] X fun e w' => e = .returned (.int .i64 res) ∧ Q w' ∧ ∀ b, w.heap.size ≤ b → b < X.heap.size → w'.heap[b]? = X.heap[b]?) :
    Calls Tryd.prog 25 #[.agg #[.int .i64 Wd, .int .i64 Fr, .int .u64 nd, .int .u64 nh], v] w fun e w' => e = .returned (.int .i64 res) ∧ Q w' := by
  have hmx : Tryd.prog.follows .mixedOrders = true := by kernel_rfl
  have hb0 := below_alloc (Below.refl _ w) (.cells #[.int .i64 Wd, .int .i64 Fr, .int .u64 nd, .int .u64 nh] 63)
  have n0 := World.alloc_heap_new w (.cells #[.int .i64 Wd, .int .i64 Fr, .int .u64 nd, .int .u64 nh] 63)
  have hx : -1073741824 ≤ bdF (-1073741824) 1073741824 Wd ∧ bdF (-1073741824) 1073741824 Wd ≤ 1073741824 := by unfold bdF; omega
  have hB1 := fun (W : World) (b1 b2 : Nat) h1 h2 => rbound1_any (W := W) (b1 := b1) (b2 := b2) (lo := -1073741824) (hi := 1073741824) h1 h2 Wd
  obtain ⟨x, hxe⟩ : ∃ x, x = bdF (-1073741824) 1073741824 Wd := ⟨_, rfl⟩
  rw [← hxe] at hx hA hB1
  clear hxe
  have hwn : IntKind.i64.wrap (-x) = -x := by rw [IntKind.wrap_i64]; omega
  have HA := Lib.hid hA
  have HB1 := Lib.hid hB1
  clear hA hB1 hx
  go_enter Tryd.func25, Tryd.ntmps25
  go_upto_region 1 with fail
  generalize w.alloc (.cells #[.int .i64 Wd, .int .i64 Fr, .int .u64 nd, .int .u64 nh] 63) = W0 at *
  have hw0 := (Array.getElem?_eq_some_iff.1 n0).1
  refine Ap.wp_region_K (S1 := fun X : World => X.heap[w.heap.size]? = some (.cells #[.int .i64 Wd, .int .i64 Fr, .int .u64 nd, .int .u64 nh] 63 (0, 0))) (S2 := fun _ => True) (js := 10) hmx ?_
  change Ap.wpAnyK _ _ _ _ _ _ _ 11 _ _ W0.drew
  have hSS : (fun X : World => X.heap[w.heap.size]? = some (.cells #[.int .i64 Wd, .int .i64 Fr, .int .u64 nd, .int .u64 nh] 63 (0, 0))) W0.drew ∧ (fun _ : World => True) W0.drew := ⟨n0, trivial⟩
  refine Ap.wpAnyK_take1 (i := 0) (v := v) rfl (by decide) (by decide +kernel) (by decide +kernel) (by decide +kernel) (fun _ _ _ h => h) (.inl ⟨by first | rfl | (go_simp; done), fun X hX => by have hx0 := cell_of_block (o := 0) hX rfl; have hx1 := cell_of_block (o := 1) hX rfl; clear hX; first | (go_simp; done) | (go_simp; rfl)⟩) hSS ?_
  refine Ap.wpAnyK_take1 (i := 1) (v := .pointer (some ⟨w.heap.size, 1, none⟩)) rfl (by decide) (by decide +kernel) (by decide +kernel) (by decide +kernel) (fun _ _ _ h => h) (.inl ⟨by first | rfl | (go_simp; done), fun X hX => by have hx0 := cell_of_block (o := 0) hX rfl; have hx1 := cell_of_block (o := 1) hX rfl; clear hX; first | (go_simp; done) | (go_simp; rfl)⟩) hSS ?_
  refine Ap.wpAnyK_take1 (i := 2) (v := .int .i64 Fr) rfl (by decide) (by decide +kernel) (by decide +kernel) (by decide +kernel) (fun _ _ _ h => h) (.inl ⟨by first | rfl | (go_simp; done), fun X hX => by have hx0 := cell_of_block (o := 0) hX rfl; have hx1 := cell_of_block (o := 1) hX rfl; clear hX; first | (go_simp; done) | (go_simp; rfl)⟩) hSS ?_
  refine Ap.wpAnyK_take1 (i := 5) (v := .pointer (some ⟨w.heap.size, 0, none⟩)) rfl (by decide) (by decide +kernel) (by decide +kernel) (by decide +kernel) (fun _ _ _ h => h) (.inl ⟨by first | rfl | (go_simp; done), fun X hX => by have hx0 := cell_of_block (o := 0) hX rfl; have hx1 := cell_of_block (o := 1) hX rfl; clear hX; first | (go_simp; done) | (go_simp; rfl)⟩) hSS ?_
  refine Ap.wpAnyK_take1 (i := 6) (v := .int .i64 Wd) rfl (by decide) (by decide +kernel) (by decide +kernel) (by decide +kernel) (fun _ _ _ h => h) (.inl ⟨by first | rfl | (go_simp; done), fun X hX => by have hx0 := cell_of_block (o := 0) hX rfl; have hx1 := cell_of_block (o := 1) hX rfl; clear hX; first | (go_simp; done) | (go_simp; rfl)⟩) hSS ?_
  refine Ap.anyK_call (i := 3) (by decide +kernel) rfl rfl (by go_simp) (of_any Fr 1099511627776 _) ?_
  rintro e X1 ⟨rfl, hb1⟩
  have m1 := (hb1.block _ hw0).trans n0
  refine ⟨_, rfl, ⟨m1, fun _ => trivial⟩, ?_⟩
  refine Ap.anyK_call (i := 4) (by decide +kernel) rfl rfl (by go_simp) (rbound_any (-1073741824) 1073741824 _) ?_
  rintro e X2 ⟨bv, rfl, ⟨b1, b2, rfl, e1, e2⟩, hb2⟩
  have m2 := (hb2.block _ (Array.getElem?_eq_some_iff.1 m1).1).trans m1
  refine ⟨_, rfl, ⟨m2, fun _ => trivial⟩, ?_⟩
  refine Ap.anyK_call (i := 7) (by decide +kernel) rfl rfl (by go_simp) (HB1.out _ b1 b2 e1 e2) ?_
  rintro e X3 ⟨rfl, rfl⟩
  refine ⟨_, rfl, ⟨m2, fun _ => trivial⟩, ?_⟩
  refine Ap.anyK_val1 (i := 8) (v := .int .i64 (-x)) (w' := X2) (by decide +kernel) rfl rfl (by first | (go_simp; done) | (go_simp; rfl)) ⟨m2, trivial⟩ ?_
  have hbX : Below w.heap.size w X2 := below_next (below_next (Below.drew hb0) hb1) hb2
  refine Ap.anyK_call (i := 9) (by decide +kernel) rfl rfl (by go_simp) (HA.out _ hbX) ?_
  rintro e X4 ⟨rfl, hq, hk⟩
  have m4 := (hk _ (Nat.le_refl _) (Array.getElem?_eq_some_iff.1 m2).1).trans m2
  refine ⟨_, rfl, ⟨m4, fun _ => trivial⟩, ?_⟩
  refine Ap.anyK_val1 (i := 10) (v := .int .i64 res) (w' := X4) (by decide +kernel) rfl rfl (by first | (go_simp; done) | (go_simp; rfl)) ⟨m4, trivial⟩ ?_
  refine Ap.wpAnyK_done (by decide +kernel) ?_ _
  have HQ := Lib.hid hq
  clear hq hk m1 m2 m4 e1 e2 hb1 hb2 hbX hb0 n0 hSS HA HB1
  go_simp
  go_wp2_with fail
  go_ret
  exact ⟨rfl, HQ.out⟩
theorem lower_at {w : World} {S : Nat} {L : List (Int × Int)} (h : USt w S L) (hr : RightU L) (hl : 3 * L.length ≤ 1099511627776) (Wd Fr nd nh : Int) :
    Calls Tryd.prog 25 #[.agg #[.int .i64 Wd, .int .i64 Fr, .int .u64 nd, .int .u64 nh], .pointer (some ⟨S, 0, none⟩)] w fun e w' => e = .returned (.int .i64 0) ∧ USt w' S (changeU (addF (byU (-(bdF (-1073741824) 1073741824 Wd)))) L (clampI Fr, addI Fr 1099511627776)) ∧ FrU S w w' := by
  have hS : S < w.heap.size := by
    obtain ⟨g, c, _, hs, _⟩ := h.at_
    exact (Array.getElem?_eq_some_iff.1 hs).1
  refine lower_gen Wd Fr nd nh 0 (fun w' => USt w' S (changeU (addF (byU (-(bdF (-1073741824) 1073741824 Wd)))) L (clampI Fr, addI Fr 1099511627776)) ∧ FrU S w w') rfl fun X hb => ?_
  refine (add_r (h.below hb) hr hl (clampI Fr) (addI Fr 1099511627776) (-(bdF (-1073741824) 1073741824 Wd))).mono ?_
  rintro e w' ⟨rfl, hu, hf⟩
  exact ⟨rfl, ⟨hu, FrU.after hb hf⟩, fun b hb1 hb2 => hf.block b hb2 (by show ¬ b = S; omega)⟩
theorem lower_nil {w : World} (Wd Fr nd nh : Int) :
    Calls Tryd.prog 25 #[.agg #[.int .i64 Wd, .int .i64 Fr, .int .u64 nd, .int .u64 nh], .pointer none] w fun e w' => e = .returned (.int .i64 1) ∧ Below w.heap.size w w' := by
  refine lower_gen Wd Fr nd nh 1 (fun w' => Below w.heap.size w w') rfl fun X hb => ?_
  refine (add_no (.inl rfl : NoU X (.pointer none)) (clampI Fr) (addI Fr 1099511627776) (-(bdF (-1073741824) 1073741824 Wd))).mono ?_
  rintro e w' ⟨rfl, hf⟩
  exact ⟨rfl, below_next hb hf, fun b hb1 hb2 => hf.block b hb2⟩
def boundF (Fr n f a3 a4 a0 : Int) : Int := addI Fr (timesI (addI (addI a3 a4) (addI a0 1)) (bdF 0 1048576 n + bdF 0 1048576 f))
set_option maxRecDepth 100000 in
set_option maxHeartbeats 400000 in
theorem boundR_any (Wd Fr nd nh n f a3 a4 a0 : Int) (w : World) :
    Calls Tryd.prog 29 #[.agg #[.int .i64 Wd, .int .i64 Fr, .int .u64 nd, .int .u64 nh], .int .i64 n, .int .i64 f, .int .i64 a3, .int .i64 a4, .int .i64 a0] w fun e w' => e = .returned (.int .i64 (boundF Fr n f a3 a4 a0)) ∧ Below w.heap.size w w' := by
  have hmx : Tryd.prog.follows .mixedOrders = true := by kernel_rfl
  have hb0 := below_alloc (Below.refl _ w) (.cells #[.int .i64 Wd, .int .i64 Fr, .int .u64 nd, .int .u64 nh] 63)
  have n0 := World.alloc_heap_new w (.cells #[.int .i64 Wd, .int .i64 Fr, .int .u64 nd, .int .u64 nh] 63)
  unfold boundF
  have hx : (0 ≤ bdF 0 1048576 n ∧ bdF 0 1048576 n ≤ 1048576) ∧ 0 ≤ bdF 0 1048576 f ∧ bdF 0 1048576 f ≤ 1048576 := by unfold bdF; omega
  have hB1 := fun (W : World) (b1 b2 : Nat) h1 h2 => rbound1_any (W := W) (b1 := b1) (b2 := b2) (lo := 0) (hi := 1048576) h1 h2 n
  have hB2 := fun (W : World) (b1 b2 : Nat) h1 h2 => rbound1_any (W := W) (b1 := b1) (b2 := b2) (lo := 0) (hi := 1048576) h1 h2 f
  generalize bdF 0 1048576 n = x at *
  generalize bdF 0 1048576 f = y at *
  have hwn : IntKind.i64.wrap (x + y) = x + y := by rw [IntKind.wrap_i64]; omega
  have K1 := Lib.hid (fun W => add_any a3 a4 W)
  have K2 := Lib.hid (fun W => add_any a0 1 W)
  generalize addI a3 a4 = p at *
  generalize addI a0 1 = q at *
  have K3 := Lib.hid (fun W => add_any p q W)
  generalize addI p q = t at *
  have K4 := Lib.hid (fun W => times_any t (x + y) (by omega) W)
  generalize timesI t (x + y) = z at *
  have K5 := Lib.hid (fun W => add_any Fr z W)
  generalize addI Fr z = u at *
  have HB1 := Lib.hid hB1
  have HB2 := Lib.hid hB2
  clear hB1 hB2 hx
  go_enter Tryd.func29, Tryd.ntmps29
  go_upto_region 1 with fail
  generalize w.alloc (.cells #[.int .i64 Wd, .int .i64 Fr, .int .u64 nd, .int .u64 nh] 63) = W0 at *
  have hw0 := (Array.getElem?_eq_some_iff.1 n0).1
  go_wp2_with fail
  refine (rbound_any 0 1048576 _).mono ?_
  rintro e W1 ⟨bv, rfl, ⟨b1, b2, rfl, e1, e2⟩, hb1⟩
  have m1 := (hb1.block _ hw0).trans n0
  have HB := Lib.hid (below_next hb0 hb1)
  clear hb0 hb1 n0
  go_wp2_with fail
  refine (K1.out _).mono ?_
  rintro e w' ⟨rfl, rfl⟩
  go_wp2_with fail
  refine (K2.out _).mono ?_
  rintro e w' ⟨rfl, rfl⟩
  go_wp2_with fail
  refine (K3.out _).mono ?_
  rintro e w' ⟨rfl, rfl⟩
  go_upto_region 3 with fail
  have c1 := cell_of_block (o := 1) m1 rfl
  have KA := Lib.hid (HB1.out W1.drew b1 b2 e1 e2)
  have KB := Lib.hid (HB2.out W1.drew b1 b2 e1 e2)
  clear m1 HB1 HB2
  refine wp_region_grow (fun w' => w' = W1.drew) hmx (by kernel_rfl) rfl ?_
  iterate 5 (refine textS_run ?_ ?_ (fun W hS => ?_) ?_; rotate_left; (focus go_simp); (focus (subst hS; go_simp; all_goals (first | exact ⟨rfl, rfl⟩ | rfl | (refine ⟨?_, rfl⟩; rfl)))); (try go_simp))
  (refine textS_run ?_ ?_ (fun W hS => ?_) ?_; rotate_left; (focus go_simp); (focus (subst hS; go_simp; refine (KA.out).mono ?_; rintro e w1 ⟨rfl, rfl⟩; refine ⟨?_, ?_⟩; (focus rfl); (focus rfl))); (try go_simp))
  iterate 2 (refine textS_run ?_ ?_ (fun W hS => ?_) ?_; rotate_left; (focus go_simp); (focus (subst hS; go_simp; all_goals (first | exact ⟨rfl, rfl⟩ | rfl | (refine ⟨?_, rfl⟩; rfl)))); (try go_simp))
  (refine textS_run ?_ ?_ (fun W hS => ?_) ?_; rotate_left; (focus go_simp); (focus (subst hS; go_simp; refine (KB.out).mono ?_; rintro e w1 ⟨rfl, rfl⟩; refine ⟨?_, ?_⟩; (focus rfl); (focus rfl))); (try go_simp))
  iterate 1 (refine textS_run ?_ ?_ (fun W hS => ?_) ?_; rotate_left; (focus go_simp); (focus (subst hS; go_simp; all_goals (first | exact ⟨rfl, rfl⟩ | rfl | (refine ⟨?_, rfl⟩; rfl)))); (try go_simp))
  (refine textS_run ?_ ?_ (fun W hS => ?_) ?_; rotate_left; (focus go_simp); (focus (subst hS; go_simp; refine (K4.out _).mono ?_; rintro e w1 ⟨rfl, rfl⟩; refine ⟨?_, ?_⟩; (focus rfl); (focus rfl))); (try go_simp))
  (refine textS_run ?_ ?_ (fun W hS => ?_) ?_; rotate_left; (focus go_simp); (focus (subst hS; go_simp; refine (K5.out _).mono ?_; rintro e w1 ⟨rfl, rfl⟩; refine ⟨?_, ?_⟩; (focus rfl); (focus rfl))); (try go_simp))
  (refine textS_run ?_ ?_ (fun W hS => ?_) ?_; rotate_left; (focus go_simp); (focus (subst hS; go_simp; all_goals (first | exact ⟨rfl, rfl⟩ | rfl | (refine ⟨?_, rfl⟩; rfl)))); (try go_simp))
  refine textS_nil ?_
  go_wp2_with fail
  go_ret
  exact ⟨rfl, Below.drew HB.out⟩
theorem like_add_of {first : Int} {L : List (Int × Int)} {C : List ChgC} (h : LikeU first L C) (hr : RightU L) (Fr n : Int) : LikeU first (changeU (addF (byU n)) L (clampI Fr, addI Fr 1099511627776)) (C ++ [⟨Fr, 1099511627776, false, n⟩]) := fun x h0 h1 => by
  have e1 : addI Fr 1099511627776 = 1099511627776 := by
    unfold addI
    have : clampI 1099511627776 = 1099511627776 := by decide
    rw [this]
    have hb := clampI_bounds Fr
    unfold clampI at *
    (repeat' split) <;> omega
  rw [(change_right hr (addF_in (byU n)) (clampI Fr) (addI Fr 1099511627776)).2 x h0 h1, List.foldl_append, List.foldl_cons, List.foldl_nil, ratStep_iff _ _ _ h0 h1, h x h0 h1, e1, clampI_clampI]
  simp only
  have hc : (clampI Fr < clampI 1099511627776 ∧ clampI Fr ≤ x ∧ x < 1099511627776) ↔ (clampI Fr < clampI 1099511627776 ∧ Fr ≤ x ∧ x < 1099511627776) := by
    rcases clamp_facts Fr with ⟨a, b⟩ | ⟨a, c, b⟩ | ⟨a, b⟩ <;> rw [b] <;> omega
  by_cases hh : clampI Fr < clampI 1099511627776 ∧ clampI Fr ≤ x ∧ x < 1099511627776
  · rw [if_pos hh, if_pos (hc.1 hh)]; simp
  · rw [if_neg hh, if_neg (fun q => hh (hc.2 q))]
end Go.Proofs.YtdamemdfehopeaaDoor
