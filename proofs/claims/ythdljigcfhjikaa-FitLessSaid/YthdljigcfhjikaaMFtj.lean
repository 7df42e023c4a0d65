/- Room (layer 11): FitLess walked. Conditions: the acts that came in; the numbers' bounds. -/
import Derived.Test.YthdljigcfhjikaaMaj
import Derived.Test.YthdljigcfhjikaaMUrc
import Derived.Test.YthdljigcfhjikaaMask
namespace Go.Proofs.Ythdljigcfhjikaa
set_option linter.unusedVariables false
open Go.ChangeShapes Go.WideShapes Go.ChangeAt Go.RowKit
attribute [local go_sem ↓] Go.wp_at_zero Go.wp_at_succ comesTo_value_eq comesTo_skip_eq comesTo_enter_eq

/-- what Earliest tells -/
def earlU (L : List (Int × Int)) (from_ many W : Int) : Int := firstU (startsU L (clampI from_) (maxU (clampI many) 1) W)
theorem early_at {X : World} {S : Nat} {L : List (Int × Int)} (h : USt X S L) (hr : RightU L) (from_ many W : Int) : Calls Try.prog 38 #[.pointer (some ⟨S, 0, none⟩), .int .i64 from_, .int .i64 many, .int .i64 W] X fun e w' => e = .returned (.int .i64 (earlU L from_ many W)) ∧ Below X.heap.size X w' :=
  earliest_any from_ many W hr h.len (fun _ hb => levels_any (h.below hb))
theorem early_no {X : World} {v : Value} (h : NoU X v) (from_ many W : Int) : Calls Try.prog 38 #[v, .int .i64 from_, .int .i64 many, .int .i64 W] X fun e w' => e = .returned (.int .i64 (earlU [(0, 0)] from_ many W)) ∧ Below X.heap.size X w' :=
  earliest_any from_ many W (right_flat 0) (by decide) (fun _ hb => levels_no (h.below hb))
theorem early_spec {L : List (Int × Int)} (hr : RightU L) (from_ many W : Int) : (earlU L from_ many W < 1099511627776 → clampI from_ ≤ earlU L from_ many W ∧ GoodF (lvl 0 L) (maxU (clampI many) 1) W (earlU L from_ many W)) ∧ (∀ y, clampI from_ ≤ y → y < earlU L from_ many W → y < 1099511627776 → ¬ GoodF (lvl 0 L) (maxU (clampI many) 1) W y) ∧ 0 ≤ earlU L from_ many W ∧ earlU L from_ many W ≤ 1099511627776 :=
  first_spec (starts_ok hr (clampI_le from_).1 (maxU_le many).1) (clampI_le from_).1
/-- what is good for one is good for the other: it is found as early -/
theorem early_le {L M : List (Int × Int)} (hl : RightU L) (hm : RightU M) {f f' n n' W W' : Int} (hf : clampI f' ≤ clampI f)
    (hg : ∀ y, 0 ≤ y → y < 1099511627776 → GoodF (lvl 0 L) (maxU (clampI n) 1) W y → GoodF (lvl 0 M) (maxU (clampI n') 1) W' y) : earlU M f' n' W' ≤ earlU L f n W := by
  obtain ⟨a1, a2, a3, a4⟩ := early_spec hl f n W
  obtain ⟨b1, b2, b3, b4⟩ := early_spec hm f' n' W'
  rcases Int.lt_or_le (earlU L f n W) 1099511627776 with h | h
  · obtain ⟨c1, c2⟩ := a1 h
    refine Classical.byContradiction fun hc => ?_
    exact b2 _ (by omega) (by omega) h (hg _ a3 h c2)
  · omega
theorem lvl_in : ∀ (L : List (Int × Int)) (d x : Int), (-1000000 ≤ d ∧ d ≤ 1000000) → (∀ p ∈ L, -1000000 ≤ p.2 ∧ p.2 ≤ 1000000) → -1000000 ≤ lvl d L x ∧ lvl d L x ≤ 1000000
  | [], d, x, hd, _ => hd
  | p :: r, d, x, hd, h => by
    unfold lvl
    split
    · first | exact hd | exact lvl_in r _ x (h p List.mem_cons_self) fun q hq => h q (List.mem_cons_of_mem _ hq)
    · first | exact hd | exact lvl_in r _ x (h p List.mem_cons_self) fun q hq => h q (List.mem_cons_of_mem _ hq)
theorem lvl_bd {L : List (Int × Int)} (h : RightU L) (x : Int) : -1000000 ≤ lvl 0 L x ∧ lvl 0 L x ≤ 1000000 := lvl_in L 0 x (by omega) h.bd
/-- more levels are as good -/
theorem more_good {L : List (Int × Int)} (hl : RightU L) (f t : Int) : ∀ x, 0 ≤ x → x < 1099511627776 → lvl 0 L x ≤ lvl 0 (changeU (addF (byU 2)) L (f, t)) x := by
  intro x h0 h1
  rw [(change_right hl (addF_in (byU 2)) f t).2 x h0 h1]
  split
  · have hb := lvl_bd hl x
    have e2 : byU 2 = 2 := by decide
    have hw : IntKind.i64.wrap (lvl 0 L x + 2) = lvl 0 L x + 2 := by rw [IntKind.wrap_i64]; omega
    unfold addF
    rw [e2, hw]
    unfold boundU
    split <;> (try split) <;> omega
  · exact Int.le_refl _
theorem many_of {n : Int} (h : 1 ≤ n) (h' : n ≤ 1099511627776) : maxU (clampI n) 1 = n := by
  rw [clampI_of (by omega) h']
  unfold maxU
  split <;> omega
set_option maxRecDepth 100000 in
/-- an empty span fits -/
theorem fits_empty (v : Value) (f t W : Int) (he : clampI t ≤ clampI f) (w : World) : Calls Try.prog 44 #[v, .agg #[.int .i64 f, .int .i64 t], .int .i64 W] w fun e w' => e = .returned (.bool true) ∧ Below w.heap.size w w' := by
  have hb0 := below_alloc (Below.refl _ w) (.cells #[.int .i64 f, .int .i64 t] 25)
  have n0 := World.alloc_heap_new w (.cells #[.int .i64 f, .int .i64 t] 25)
  have KE := Lib.hid (fun W => empty_any f t W)
  have hd : decide (clampI t ≤ clampI f) = true := decide_eq_true he
  go_enter Try.func44, Try.ntmps44
  go_upto_region 1 with fail
  generalize w.alloc (.cells #[.int .i64 f, .int .i64 t] 25) = W0 at *
  have c0 := cell_of_block (o := 0) n0 rfl
  have c1 := cell_of_block (o := 1) n0 rfl
  go_wp2_with fail
  refine (KE.out _).mono ?_
  rintro e W1 ⟨rfl, hb1⟩
  have HB1 := Lib.hid (below_next hb0 hb1)
  clear hb0 hb1 n0
  rw [hd]
  go_wp2_with fail
  go_ret
  exact ⟨rfl, HB1.out⟩
theorem actsU_below {w w' : World} {lad : Option Addr} {ll : Nat} {A : Nat → ActU} (hA : ActsU w lad ll A) (hb0 : Below w.heap.size w w') : ActsU w' lad ll A := by
  refine ⟨hA.1, fun hp => ?_⟩
  obtain ⟨b, off, rfl, hc⟩ := hA.2 hp
  refine ⟨b, off, rfl, fun k hk => ?_⟩
  have h := hc k hk
  have hbl : b < w.heap.size := World.block_lt_of_cell? w _ h.c0
  exact ⟨(hb0.cell (p := ⟨b, off + k * 4, none⟩) hbl).trans h.c0, (hb0.cell (p := ⟨b, off + k * 4 + 1, none⟩) hbl).trans h.c1, (hb0.cell (p := ⟨b, off + k * 4 + 2, none⟩) hbl).trans h.c2, (hb0.cell (p := ⟨b, off + k * 4 + 3, none⟩) hbl).trans h.c3, h.n64, h.f64, h.t64⟩
set_option maxRecDepth 100000 in
set_option maxHeartbeats 16000000 in
theorem less_any (lad : Option Addr) (ll lcap : Nat) (A : Nat → ActU) (f n W g h mf mt : Int) (hW : -9223372036854775808 ≤ W ∧ W ≤ 9223372036854775807) (w : World) (hA : ActsU w lad ll A) :
    Calls Try.prog 10 #[.slice lad ll lcap, .agg #[.int .i64 f, .int .i64 n, .int .i64 W, .int .i64 g, .int .i64 h], .agg #[.int .i64 mf, .int .i64 mt]] w fun e w' => e = .returned (.bool true) ∧ Below w.heap.size w w' := by
  have K1 := Lib.hid (fun W => fit_one W)
  have hb0 := below_alloc (below_alloc (Below.refl _ w) (.cells #[.int .i64 f, .int .i64 n, .int .i64 W, .int .i64 g, .int .i64 h] 70)) (.cells #[.int .i64 mf, .int .i64 mt] 25)
  have s1 : (w.alloc (.cells #[.int .i64 f, .int .i64 n, .int .i64 W, .int .i64 g, .int .i64 h] 70)).heap.size = w.heap.size + 1 := by simp
  have n1 := World.alloc_heap_new (w.alloc (.cells #[.int .i64 f, .int .i64 n, .int .i64 W, .int .i64 g, .int .i64 h] 70)) (.cells #[.int .i64 mf, .int .i64 mt] 25)
  rw [s1] at n1
  have n0 := ((below_alloc (Below.refl _ (w.alloc (.cells #[.int .i64 f, .int .i64 n, .int .i64 W, .int .i64 g, .int .i64 h] 70))) (.cells #[.int .i64 mf, .int .i64 mt] 25)).block w.heap.size (by omega)).trans (World.alloc_heap_new w (.cells #[.int .i64 f, .int .i64 n, .int .i64 W, .int .i64 g, .int .i64 h] 70))
  have hA0 := actsU_below hA hb0
  have KP := Lib.hid (play_any lad ll lcap A 3 12 (by decide) _ hA0)
  clear hA hA0 s1
  go_enter Try.func10, Try.ntmps10
  go_upto_region 1 with fail
  generalize (w.alloc (.cells #[.int .i64 f, .int .i64 n, .int .i64 W, .int .i64 g, .int .i64 h] 70)).alloc (.cells #[.int .i64 mf, .int .i64 mt] 25) = W0 at *
  go_wp2_with fail
  refine KP.out.mono ?_
  rintro e W1 ⟨S, v, L, C, rfl, hS, hu, hr, hl, hrow, hcl, hlk, hb1⟩
  obtain ⟨vad, vn, vcp, rfl⟩ : ∃ a n c, v = .slice a n c := by obtain ⟨a, c, e⟩ := hrow.form; exact ⟨_, _, _, e⟩
  have hb2 := below_alloc (Below.refl _ W1) (.cells #[.int .i64 3, .slice vad vn vcp] 29)
  have hb12 := below_next hb1 hb2
  have n0 := (hb12.block _ (Array.getElem?_eq_some_iff.1 n0).1).trans n0
  have n1 := (hb12.block _ (Array.getElem?_eq_some_iff.1 n1).1).trans n1
  have HU := Lib.hid (hu.below hb2)
  have HB := Lib.hid (below_next hb0 hb12)
  have HR := Lib.hid hr
  clear hu hr hrow hlk hcl hb0 hb1 hb2 hb12 KP
  go_upto_region 2 with fail
  generalize W1.alloc (.cells #[.int .i64 3, .slice vad vn vcp] 29) = W2 at *
  have c0 := cell_of_block (o := 0) n0 rfl
  have c1 := cell_of_block (o := 1) n0 rfl
  have c2 := cell_of_block (o := 2) n0 rfl
  have hk := mask_255 n
  obtain ⟨mm, hmm⟩ : ∃ mm, mm = 2 + n % 256 := ⟨_, rfl⟩
  have hm1 : 2 ≤ mm ∧ mm ≤ 257 := by omega
  have hw : IntKind.i64.wrap (2 + n % 256) = mm := by rw [IntKind.wrap_i64]; omega
  have KE := Lib.hid (fun (X : World) (hx : Below W2.heap.size W2 X) a b c => early_at (HU.out.below hx) HR.out a b c)
  have hw0 := (Array.getElem?_eq_some_iff.1 n0).1
  have hw1 := (Array.getElem?_eq_some_iff.1 n1).1
  have N0 := Lib.hid n0
  have N1 := Lib.hid n1
  have HB2 := Lib.hid (Below.refl W2.heap.size W2)
  clear n0 n1
  go_wp2_with fail
  rw [← hmm]
  clear hmm hk hw
  obtain ⟨t, ht⟩ : ∃ t, t = earlU L f mm W := ⟨_, rfl⟩
  have hg1 : ¬ earlU L f (mm - 1) W > t := by
    have := early_le (f := f) (n := mm) (n' := mm - 1) (W := W) (W' := W) HR.out HR.out (Int.le_refl (clampI f)) (fun y h0 h1 hg x x1 x2 x3 => hg x x1 (by rw [many_of (by omega) (by omega)] at x2 ⊢; omega) x3)
    omega
  have hg2 : ¬ earlU L f mm (W - 1) > t := by
    have := early_le (f := f) (n := mm) (n' := mm) (W := W) (W' := W - 1) HR.out HR.out (Int.le_refl (clampI f)) (fun y h0 h1 hg x x1 x2 x3 => by have := hg x x1 x2 x3; omega)
    omega
  have hg3 : ¬ earlU L 0 mm W > t := by
    have := early_le (f := f) (f' := 0) (n := mm) (n' := mm) (W := W) (W' := W) HR.out HR.out (clampI_le f).1 (fun y h0 h1 hg => hg)
    omega
  have HC := Lib.hid (change_right HR.out (addF_in (byU 2)) mf mt)
  have hg4 : ¬ earlU (changeU (addF (byU 2)) L (mf, mt)) f mm W > t := by
    have := early_le (f := f) (n := mm) (n' := mm) (W := W) (W' := W) HR.out HC.out.1 (Int.le_refl (clampI f)) (fun y h0 h1 hg x x1 x2 x3 => Int.le_trans (hg x x1 x2 x3) (more_good HR.out mf mt x (by omega) x3))
    omega
  have KG := Lib.hid (fun (X : World) S' (hx : USt X S' (changeU (addF (byU 2)) L (mf, mt))) => early_at hx HC.out.1 f mm W)
  obtain ⟨x1, hx1⟩ : ∃ x, x = earlU L f (mm - 1) W := ⟨_, rfl⟩
  obtain ⟨x2, hx2⟩ : ∃ x, x = earlU L f mm (W - 1) := ⟨_, rfl⟩
  obtain ⟨x3, hx3⟩ : ∃ x, x = earlU L 0 mm W := ⟨_, rfl⟩
  obtain ⟨x4, hx4⟩ : ∃ x, x = earlU (changeU (addF (byU 2)) L (mf, mt)) f mm W := ⟨_, rfl⟩
  rw [← hx1] at hg1
  rw [← hx2] at hg2
  rw [← hx3] at hg3
  rw [← hx4] at hg4 KG
  have hd1 : decide (x1 > t) = false := decide_eq_false hg1
  have hd2 : decide (x2 > t) = false := decide_eq_false hg2
  have hd3 : decide (x3 > t) = false := decide_eq_false hg3
  have hd4 : decide (x4 > t) = false := decide_eq_false hg4
  have KE0 := Lib.hid (fun X hx => ht ▸ KE.out X hx f mm W)
  have KE1 := Lib.hid (fun X hx => hx1 ▸ KE.out X hx f (mm - 1) W)
  have KE2 := Lib.hid (fun X hx => hx2 ▸ KE.out X hx f mm (W - 1))
  have KE3 := Lib.hid (fun X hx => hx3 ▸ KE.out X hx 0 mm W)
  have KN1 := Lib.hid (fun X => (show Calls Try.prog 38 #[.pointer none, .int .i64 7, .int .i64 5, .int .i64 0] X fun e w' => e = .returned (.int .i64 7) ∧ Below X.heap.size X w' by
    have := early_no (X := X) (v := .pointer none) (.inl rfl) 7 5 0
    rwa [show earlU [(0, 0)] 7 5 0 = 7 by decide +kernel] at this))
  have KN2 := Lib.hid (fun X => (show Calls Try.prog 38 #[.pointer none, .int .i64 7, .int .i64 5, .int .i64 1] X fun e w' => e = .returned (.int .i64 1099511627776) ∧ Below X.heap.size X w' by
    have := early_no (X := X) (v := .pointer none) (.inl rfl) 7 5 1
    rwa [show earlU [(0, 0)] 7 5 1 = 1099511627776 by decide +kernel] at this))
  have KF := Lib.hid (fun X => fits_empty (.pointer none) 3 3 9 (Int.le_refl _) X)
  clear hg1 hg2 hg3 hg4 ht hx1 hx2 hx3 hx4 KE
  refine (KE0.out _ HB2.out).mono ?_
  rintro e W3 ⟨rfl, hb⟩
  have HB3 := Lib.hid (below_next HB2.out hb)
  clear hb c0 c1 c2
  have c0 := cell_of_block (o := 0) ((HB3.out.block _ hw0).trans N0.out) rfl
  have c1 := cell_of_block (o := 1) ((HB3.out.block _ hw0).trans N0.out) rfl
  have c2 := cell_of_block (o := 2) ((HB3.out.block _ hw0).trans N0.out) rfl
  have hwm : IntKind.i64.wrap (mm - 1) = mm - 1 := by rw [IntKind.wrap_i64]; omega
  have hwW : -1000 < W → IntKind.i64.wrap (W - 1) = W - 1 := fun h => by rw [IntKind.wrap_i64]; omega
  go_wp2_with fail
  refine (KE1.out _ HB3.out).mono ?_
  rintro e W4 ⟨rfl, hb⟩
  have HB4 := Lib.hid (below_next HB3.out hb)
  clear hb c0 c1 c2
  have c0 := cell_of_block (o := 0) ((HB4.out.block _ hw0).trans N0.out) rfl
  have c1 := cell_of_block (o := 1) ((HB4.out.block _ hw0).trans N0.out) rfl
  have c2 := cell_of_block (o := 2) ((HB4.out.block _ hw0).trans N0.out) rfl
  by_cases hg : -1000 < W
  case pos =>
    have hdg : decide (W > -1000) = true := decide_eq_true hg
    have hwW1 := hwW hg
    clear hwW
    go_wp2_with fail
    refine (KE2.out _ HB4.out).mono ?_
    rintro e W5 ⟨rfl, hb⟩
    have HB5 := Lib.hid (below_next HB4.out hb)
    clear hb c0 c1 c2
    have c0 := cell_of_block (o := 0) ((HB5.out.block _ hw0).trans N0.out) rfl
    have c1 := cell_of_block (o := 1) ((HB5.out.block _ hw0).trans N0.out) rfl
    have c2 := cell_of_block (o := 2) ((HB5.out.block _ hw0).trans N0.out) rfl
    go_wp2_with fail
    refine (KE3.out _ HB5.out).mono ?_
    rintro e W6 ⟨rfl, hb⟩
    have HB6 := Lib.hid (below_next HB5.out hb)
    clear hb c0 c1 c2
    have c0 := cell_of_block (o := 0) ((HB6.out.block _ hw0).trans N0.out) rfl
    have c1 := cell_of_block (o := 1) ((HB6.out.block _ hw0).trans N0.out) rfl
    have c2 := cell_of_block (o := 2) ((HB6.out.block _ hw0).trans N0.out) rfl
    go_wp2_with fail
    refine (clone_any (HU.out.below HB6.out)).mono ?_
    rintro e Wa ⟨S', rfl, hS', hua, hba⟩
    have HBa := Lib.hid (below_next HB6.out hba)
    have HUa := Lib.hid hua
    have m0 := cell_of_block (o := 0) ((HBa.out.block _ hw1).trans N1.out) rfl
    have m1 := cell_of_block (o := 1) ((HBa.out.block _ hw1).trans N1.out) rfl
    have hsz := HB6.out.size
    clear hua hba c0 c1 c2
    go_wp2_with fail
    refine (add_r HUa.out HR.out (by omega) mf mt 2).mono ?_
    rintro e Wb ⟨rfl, hub, hfb⟩
    have hwb : Below W2.heap.size W2 Wb := HBa.out.trans (hfb.below HBa.out.size (fun j hj => by have hj' : j = S' := hj; omega))
    have HBb := Lib.hid hwb
    have HUb := Lib.hid hub
    clear hub hfb hwb m0 m1
    have c0 := cell_of_block (o := 0) ((HBb.out.block _ hw0).trans N0.out) rfl
    have c2 := cell_of_block (o := 2) ((HBb.out.block _ hw0).trans N0.out) rfl
    go_wp2_with fail
    refine (KG.out _ _ HUb.out).mono ?_
    rintro e Wc ⟨rfl, hb⟩
    have HBc := Lib.hid (below_next HBb.out hb)
    clear hb c0 c2
    go_wp2_with fail
    refine (KN1.out _).mono ?_
    rintro e Wd ⟨rfl, hb⟩
    have HBd := Lib.hid (below_next HBc.out hb)
    clear hb
    go_wp2_with fail
    refine (KN2.out _).mono ?_
    rintro e We ⟨rfl, hb⟩
    have HBe := Lib.hid (below_next HBd.out hb)
    clear hb
    go_wp2_with fail
    refine (KF.out _).mono ?_
    rintro e Wf ⟨rfl, hb⟩
    have HBf := Lib.hid (below_next HBe.out hb)
    clear hb
    go_wp2_with fail
    refine (K1.out _).mono ?_
    rintro e Wg ⟨rfl, hb⟩
    have HBg := Lib.hid (below_next HBf.out hb)
    clear hb
    go_wp2_with fail
    go_ret
    exact ⟨rfl, HB.out.trans (HBg.out.mono HB.out.size)⟩
  case neg =>
    have hdg : decide (W > -1000) = false := decide_eq_false hg
    clear hwW
    go_wp2_with fail
    refine (KE3.out _ HB4.out).mono ?_
    rintro e W5 ⟨rfl, hb⟩
    have HB5 := Lib.hid (below_next HB4.out hb)
    clear hb c0 c1 c2
    have c0 := cell_of_block (o := 0) ((HB5.out.block _ hw0).trans N0.out) rfl
    have c1 := cell_of_block (o := 1) ((HB5.out.block _ hw0).trans N0.out) rfl
    have c2 := cell_of_block (o := 2) ((HB5.out.block _ hw0).trans N0.out) rfl
    go_wp2_with fail
    refine (clone_any (HU.out.below HB5.out)).mono ?_
    rintro e Wa ⟨S', rfl, hS', hua, hba⟩
    have HBa := Lib.hid (below_next HB5.out hba)
    have HUa := Lib.hid hua
    have m0 := cell_of_block (o := 0) ((HBa.out.block _ hw1).trans N1.out) rfl
    have m1 := cell_of_block (o := 1) ((HBa.out.block _ hw1).trans N1.out) rfl
    have hsz := HB5.out.size
    clear hua hba c0 c1 c2
    go_wp2_with fail
    refine (add_r HUa.out HR.out (by omega) mf mt 2).mono ?_
    rintro e Wb ⟨rfl, hub, hfb⟩
    have hwb : Below W2.heap.size W2 Wb := HBa.out.trans (hfb.below HBa.out.size (fun j hj => by have hj' : j = S' := hj; omega))
    have HBb := Lib.hid hwb
    have HUb := Lib.hid hub
    clear hub hfb hwb m0 m1
    have c0 := cell_of_block (o := 0) ((HBb.out.block _ hw0).trans N0.out) rfl
    have c2 := cell_of_block (o := 2) ((HBb.out.block _ hw0).trans N0.out) rfl
    go_wp2_with fail
    refine (KG.out _ _ HUb.out).mono ?_
    rintro e Wc ⟨rfl, hb⟩
    have HBc := Lib.hid (below_next HBb.out hb)
    clear hb c0 c2
    go_wp2_with fail
    refine (KN1.out _).mono ?_
    rintro e Wd ⟨rfl, hb⟩
    have HBd := Lib.hid (below_next HBc.out hb)
    clear hb
    go_wp2_with fail
    refine (KN2.out _).mono ?_
    rintro e We ⟨rfl, hb⟩
    have HBe := Lib.hid (below_next HBd.out hb)
    clear hb
    go_wp2_with fail
    refine (KF.out _).mono ?_
    rintro e Wf ⟨rfl, hb⟩
    have HBf := Lib.hid (below_next HBe.out hb)
    clear hb
    go_wp2_with fail
    refine (K1.out _).mono ?_
    rintro e Wg ⟨rfl, hb⟩
    have HBg := Lib.hid (below_next HBf.out hb)
    clear hb
    go_wp2_with fail
    go_ret
    exact ⟨rfl, HB.out.trans (HBg.out.mono HB.out.size)⟩
end Go.Proofs.Ythdljigcfhjikaa
