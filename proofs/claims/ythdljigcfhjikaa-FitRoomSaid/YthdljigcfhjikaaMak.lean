/- Laws that belong together: Room (layer 11): FitLess walked. Conditions: the acts that came in; the numbers' bounds.; Room (layer 11): FitRoom walked. Conditions: the acts that came in; the numbers' bounds. -/
import Derived.Test.YthdljigcfhjikaaMaj
import Derived.Test.YthdljigcfhjikaaMUrc
import Derived.Test.YthdljigcfhjikaaMask
import Derived.Test.YthdljigcfhjikaaMad
import Derived.Test.YthdljigcfhjikaaMac
import Derived.Deep.CutBlock
namespace Go.Proofs.Ythdljigcfhjikaa
set_option linter.unusedVariables false
open Go.ChangeShapes Go.WideShapes Go.ChangeAt Go.RowKit
attribute [local go_sem ↓] Go.wp_at_zero Go.wp_at_succ comesTo_value_eq comesTo_skip_eq comesTo_enter_eq

/-- what Earliest tells -/
def earlU (L : List (Int × Int)) (from_ many W : Int) : Int := firstU (startsU L (clampI from_) (maxU (clampI many) 1) W)
theorem early_at {X : World} {S : Nat} {L : List (Int × Int)} (h : USt X S L) (hr : RightU L) (from_ many W : Int) : Calls Try.prog 38 #[.pointer (some ⟨S, 0, none⟩), .int .i64 from_, .int .i64 many, .int .i64 W] X fun e w' => e = .returned (.int .i64 (earlU L from_ many W)) ∧ Below X.heap.size X w' :=
  earliest_any from_ many W hr h.len (fun _ hb => levels_any (h.below hb))
theorem early_no {X : World} {v : Value} (h : NoU X v) (from_ many W : Int) : Calls Try.prog 38 #[v, .int .i64 from_, .int .i64 many, .int .i64 W] X fun e w' => e = .returned (.int .i64 (earlU [(0, 0)] from_ many W)) ∧ Below X.heap.size X w' :=
  earliest_any from_ many W (right_flat 0) (by decide) (fun _ hb => levels_no (h.below hb))
theorem early_spec {L : List (Int × Int)} (hr : RightU L) (from_ many W : Int) : (earlU L from_ many W < 1099511627776 → clampI from_ ≤ earlU L from_ many W ∧ GoodF (lvl 0 L) (maxU (clampI many) 1) W (earlU L from_ many W)) ∧ (∀ y, clampI from_ ≤ y → y < earlU L from_ many W → y < 1099511627776 → ¬ GoodF (lvl 0 L) (maxU (clampI many) 1) W y) ∧ 0 ≤ earlU L from_ many W ∧ earlU L from_ many W ≤ 1099511627776 :=
  first_spec (starts_ok hr (clampI_le from_).1 (maxU_le many).1) (clampI_le from_).1
/-- what is good for one is good for the other: it is found as early -/
theorem early_le {L M : List (Int × Int)} (hl : RightU L) (hm : RightU M) {f f' n n' W W' : Int} (hf : clampI f' ≤ clampI f)
    (hg : ∀ y, 0 ≤ y → y < 1099511627776 → GoodF (lvl 0 L) (maxU (clampI n) 1) W y → GoodF (lvl 0 M) (maxU (clampI n') 1) W' y) : earlU M f' n' W' ≤ earlU L f n W := by
  obtain ⟨a1, a2, a3, a4⟩ := early_spec hl f n W
  obtain ⟨b1, b2, b3, b4⟩ := early_spec hm f' n' W'
  rcases Int.lt_or_le (earlU L f n W) 1099511627776 with h | h
  · obtain ⟨c1, c2⟩ := a1 h
    refine Classical.byContradiction fun hc => ?_
    exact b2 _ (by omega) (by omega) h (hg _ a3 h c2)
  · omega
theorem lvl_in : ∀ (L : List (Int × Int)) (d x : Int), (-1000000 ≤ d ∧ d ≤ 1000000) → (∀ p ∈ L, -1000000 ≤ p.2 ∧ p.2 ≤ 1000000) → -1000000 ≤ lvl d L x ∧ lvl d L x ≤ 1000000
  | [], d, x, hd, _ => hd
  | p :: r, d, x, hd, h => by
    unfold lvl
    split
    · first | exact hd | exact lvl_in r _ x (h p List.mem_cons_self) fun q hq => h q (List.mem_cons_of_mem _ hq)
    · first | exact hd | exact lvl_in r _ x (h p List.mem_cons_self) fun q hq => h q (List.mem_cons_of_mem _ hq)
theorem lvl_bd {L : List (Int × Int)} (h : RightU L) (x : Int) : -1000000 ≤ lvl 0 L x ∧ lvl 0 L x ≤ 1000000 := lvl_in L 0 x (by omega) h.bd
/-- more levels are as good -/
theorem more_good {L : List (Int × Int)} (hl : RightU L) (f t : Int) : ∀ x, 0 ≤ x → x < 1099511627776 → lvl 0 L x ≤ lvl 0 (changeU (addF (byU 2)) L (f, t)) x := by
  intro x h0 h1
  rw [(change_right hl (addF_in (byU 2)) f t).2 x h0 h1]
  split
  · have hb := lvl_bd hl x
    have e2 : byU 2 = 2 := by decide
    have hw : IntKind.i64.wrap (lvl 0 L x + 2) = lvl 0 L x + 2 := by rw [IntKind.wrap_i64]; omega
    unfold addF
    rw [e2, hw]
    unfold boundU
    split <;> (try split) <;> omega
  · exact Int.le_refl _
theorem many_of {n : Int} (h : 1 ≤ n) (h' : n ≤ 1099511627776) : maxU (clampI n) 1 = n := by
  rw [clampI_of (by omega) h']
  unfold maxU
  split <;> omega
set_option maxRecDepth 100000 in
/-- an empty span fits -/
theorem fits_empty (v : Value) (f t W : Int) (he : clampI t ≤ clampI f) (w : World) : Calls Try.prog 44 #[v, .agg #[.int .i64 f, .int .i64 t], .int .i64 W] w fun e w' => e = .returned (.bool true) ∧ Below w.heap.size w w' := by
  have hb0 := below_alloc (Below.refl _ w) (.cells #[.int .i64 f, .int .i64 t] 25)
  have n0 := World.alloc_heap_new w (.cells #[.int .i64 f, .int .i64 t] 25)
  have KE := Lib.hid (fun W => empty_any f t W)
  have hd : decide (clampI t ≤ clampI f) = true := decide_eq_true he
  go_enter Try.func44, Try.ntmps44
  go_upto_region 1 with fail
  generalize w.alloc (.cells #[.int .i64 f, .int .i64 t] 25) = W0 at *
  have c0 := cell_of_block (o := 0) n0 rfl
  have c1 := cell_of_block (o := 1) n0 rfl
  go_wp2_with fail
  refine (KE.out _).mono ?_
  rintro e W1 ⟨rfl, hb1⟩
  have HB1 := Lib.hid (below_next hb0 hb1)
  clear hb0 hb1 n0
  rw [hd]
  go_wp2_with fail
  go_ret
  exact ⟨rfl, HB1.out⟩
theorem actsU_below {w w' : World} {lad : Option Addr} {ll : Nat} {A : Nat → ActU} (hA : ActsU w lad ll A) (hb0 : Below w.heap.size w w') : ActsU w' lad ll A := by
  refine ⟨hA.1, fun hp => ?_⟩
  obtain ⟨b, off, rfl, hc⟩ := hA.2 hp
  refine ⟨b, off, rfl, fun k hk => ?_⟩
  have h := hc k hk
  have hbl : b < w.heap.size := World.block_lt_of_cell? w _ h.c0
  exact ⟨(hb0.cell (p := ⟨b, off + k * 4, none⟩) hbl).trans h.c0, (hb0.cell (p := ⟨b, off + k * 4 + 1, none⟩) hbl).trans h.c1, (hb0.cell (p := ⟨b, off + k * 4 + 2, none⟩) hbl).trans h.c2, (hb0.cell (p := ⟨b, off + k * 4 + 3, none⟩) hbl).trans h.c3, h.n64, h.f64, h.t64⟩
set_option maxRecDepth 100000 in
set_option maxHeartbeats 16000000 in
theorem less_any (lad : Option Addr) (ll lcap : Nat) (A : Nat → ActU) (f n W g h mf mt : Int) (hW : -9223372036854775808 ≤ W ∧ W ≤ 9223372036854775807) (w : World) (hA : ActsU w lad ll A) :
    Calls Try.prog 10 #[.slice lad ll lcap, .agg #[.int .i64 f, .int .i64 n, .int .i64 W, .int .i64 g, .int .i64 h], .agg #[.int .i64 mf, .int .i64 mt]] w fun e w' => e = .returned (.bool true) ∧ Below w.heap.size w w' := by
  have K1 := Lib.hid (fun W => fit_one W)
  have hb0 := below_alloc (below_alloc (Below.refl _ w) (.cells #[.int .i64 f, .int .i64 n, .int .i64 W, .int .i64 g, .int .i64 h] 70)) (.cells #[.int .i64 mf, .int .i64 mt] 25)
  have s1 : (w.alloc (.cells #[.int .i64 f, .int .i64 n, .int .i64 W, .int .i64 g, .int .i64 h] 70)).heap.size = w.heap.size + 1 := by simp
  have n1 := World.alloc_heap_new (w.alloc (.cells #[.int .i64 f, .int .i64 n, .int .i64 W, .int .i64 g, .int .i64 h] 70)) (.cells #[.int .i64 mf, .int .i64 mt] 25)
  rw [s1] at n1
  have n0 := ((below_alloc (Below.refl _ (w.alloc (.cells #[.int .i64 f, .int .i64 n, .int .i64 W, .int .i64 g, .int .i64 h] 70))) (.cells #[.int .i64 mf, .int .i64 mt] 25)).block w.heap.size (by omega)).trans (World.alloc_heap_new w (.cells #[.int .i64 f, .int .i64 n, .int .i64 W, .int .i64 g, .int .i64 h] 70))
  have hA0 := actsU_below hA hb0
  have KP := Lib.hid (play_any lad ll lcap A 3 12 (by decide) _ hA0)
  clear hA hA0 s1
  go_enter Try.func10, Try.ntmps10
  go_upto_region 1 with fail
  generalize (w.alloc (.cells #[.int .i64 f, .int .i64 n, .int .i64 W, .int .i64 g, .int .i64 h] 70)).alloc (.cells #[.int .i64 mf, .int .i64 mt] 25) = W0 at *
  go_wp2_with fail
  refine KP.out.mono ?_
  rintro e W1 ⟨S, v, L, C, rfl, hS, hu, hr, hl, hrow, hcl, hlk, hb1⟩
  obtain ⟨vad, vn, vcp, rfl⟩ : ∃ a n c, v = .slice a n c := by obtain ⟨a, c, e⟩ := hrow.form; exact ⟨_, _, _, e⟩
  have hb2 := below_alloc (Below.refl _ W1) (.cells #[.int .i64 3, .slice vad vn vcp] 29)
  have hb12 := below_next hb1 hb2
  have n0 := (hb12.block _ (Array.getElem?_eq_some_iff.1 n0).1).trans n0
  have n1 := (hb12.block _ (Array.getElem?_eq_some_iff.1 n1).1).trans n1
  have HU := Lib.hid (hu.below hb2)
  have HB := Lib.hid (below_next hb0 hb12)
  have HR := Lib.hid hr
  clear hu hr hrow hlk hcl hb0 hb1 hb2 hb12 KP
  go_upto_region 2 with fail
  generalize W1.alloc (.cells #[.int .i64 3, .slice vad vn vcp] 29) = W2 at *
  have c0 := cell_of_block (o := 0) n0 rfl
  have c1 := cell_of_block (o := 1) n0 rfl
  have c2 := cell_of_block (o := 2) n0 rfl
  have hk := mask_255 n
  obtain ⟨mm, hmm⟩ : ∃ mm, mm = 2 + n % 256 := ⟨_, rfl⟩
  have hm1 : 2 ≤ mm ∧ mm ≤ 257 := by omega
  have hw : IntKind.i64.wrap (2 + n % 256) = mm := by rw [IntKind.wrap_i64]; omega
  have KE := Lib.hid (fun (X : World) (hx : Below W2.heap.size W2 X) a b c => early_at (HU.out.below hx) HR.out a b c)
  have hw0 := (Array.getElem?_eq_some_iff.1 n0).1
  have hw1 := (Array.getElem?_eq_some_iff.1 n1).1
  have N0 := Lib.hid n0
  have N1 := Lib.hid n1
  have HB2 := Lib.hid (Below.refl W2.heap.size W2)
  clear n0 n1
  go_wp2_with fail
  rw [← hmm]
  clear hmm hk hw
  obtain ⟨t, ht⟩ : ∃ t, t = earlU L f mm W := ⟨_, rfl⟩
  have hg1 : ¬ earlU L f (mm - 1) W > t := by
    have := early_le (f := f) (n := mm) (n' := mm - 1) (W := W) (W' := W) HR.out HR.out (Int.le_refl (clampI f)) (fun y h0 h1 hg x x1 x2 x3 => hg x x1 (by rw [many_of (by omega) (by omega)] at x2 ⊢; omega) x3)
    omega
  have hg2 : ¬ earlU L f mm (W - 1) > t := by
    have := early_le (f := f) (n := mm) (n' := mm) (W := W) (W' := W - 1) HR.out HR.out (Int.le_refl (clampI f)) (fun y h0 h1 hg x x1 x2 x3 => by have := hg x x1 x2 x3; omega)
    omega
  have hg3 : ¬ earlU L 0 mm W > t := by
    have := early_le (f := f) (f' := 0) (n := mm) (n' := mm) (W := W) (W' := W) HR.out HR.out (clampI_le f).1 (fun y h0 h1 hg => hg)
    omega
  have HC := Lib.hid (change_right HR.out (addF_in (byU 2)) mf mt)
  have hg4 : ¬ earlU (changeU (addF (byU 2)) L (mf, mt)) f mm W > t := by
    have := early_le (f := f) (n := mm) (n' := mm) (W := W) (W' := W) HR.out HC.out.1 (Int.le_refl (clampI f)) (fun y h0 h1 hg x x1 x2 x3 => Int.le_trans (hg x x1 x2 x3) (more_good HR.out mf mt x (by omega) x3))
    omega
  have KG := Lib.hid (fun (X : World) S' (hx : USt X S' (changeU (addF (byU 2)) L (mf, mt))) => early_at hx HC.out.1 f mm W)
  obtain ⟨x1, hx1⟩ : ∃ x, x = earlU L f (mm - 1) W := ⟨_, rfl⟩
  obtain ⟨x2, hx2⟩ : ∃ x, x = earlU L f mm (W - 1) := ⟨_, rfl⟩
  obtain ⟨x3, hx3⟩ : ∃ x, x = earlU L 0 mm W := ⟨_, rfl⟩
  obtain ⟨x4, hx4⟩ : ∃ x, x = earlU (changeU (addF (byU 2)) L (mf, mt)) f mm W := ⟨_, rfl⟩
  rw [← hx1] at hg1
  rw [← hx2] at hg2
  rw [← hx3] at hg3
  rw [← hx4] at hg4 KG
  have hd1 : decide (x1 > t) = false := decide_eq_false hg1
  have hd2 : decide (x2 > t) = false := decide_eq_false hg2
  have hd3 : decide (x3 > t) = false := decide_eq_false hg3
  have hd4 : decide (x4 > t) = false := decide_eq_false hg4
  have KE0 := Lib.hid (fun X hx => ht ▸ KE.out X hx f mm W)
  have KE1 := Lib.hid (fun X hx => hx1 ▸ KE.out X hx f (mm - 1) W)
  have KE2 := Lib.hid (fun X hx => hx2 ▸ KE.out X hx f mm (W - 1))
  have KE3 := Lib.hid (fun X hx => hx3 ▸ KE.out X hx 0 mm W)
  have KN1 := Lib.hid (fun X => (show Calls Try.prog 38 #[.pointer none, .int .i64 7, .int .i64 5, .int .i64 0] X fun e w' => e = .returned (.int .i64 7) ∧ Below X.heap.size X w' by
    have := early_no (X := X) (v := .pointer none) (.inl rfl) 7 5 0
    rwa [show earlU [(0, 0)] 7 5 0 = 7 by decide +kernel] at this))
  have KN2 := Lib.hid (fun X => (show Calls Try.prog 38 #[.pointer none, .int .i64 7, .int .i64 5, .int .i64 1] X fun e w' => e = .returned (.int .i64 1099511627776) ∧ Below X.heap.size X w' by
    have := early_no (X := X) (v := .pointer none) (.inl rfl) 7 5 1
    rwa [show earlU [(0, 0)] 7 5 1 = 1099511627776 by decide +kernel] at this))
  have KF := Lib.hid (fun X => fits_empty (.pointer none) 3 3 9 (Int.le_refl _) X)
  clear hg1 hg2 hg3 hg4 ht hx1 hx2 hx3 hx4 KE
  refine (KE0.out _ HB2.out).mono ?_
  rintro e W3 ⟨rfl, hb⟩
  have HB3 := Lib.hid (below_next HB2.out hb)
  clear hb c0 c1 c2
  have c0 := cell_of_block (o := 0) ((HB3.out.block _ hw0).trans N0.out) rfl
  have c1 := cell_of_block (o := 1) ((HB3.out.block _ hw0).trans N0.out) rfl
  have c2 := cell_of_block (o := 2) ((HB3.out.block _ hw0).trans N0.out) rfl
  have hwm : IntKind.i64.wrap (mm - 1) = mm - 1 := by rw [IntKind.wrap_i64]; omega
  have hwW : -1000 < W → IntKind.i64.wrap (W - 1) = W - 1 := fun h => by rw [IntKind.wrap_i64]; omega
  go_wp2_with fail
  refine (KE1.out _ HB3.out).mono ?_
  rintro e W4 ⟨rfl, hb⟩
  have HB4 := Lib.hid (below_next HB3.out hb)
  clear hb c0 c1 c2
  have c0 := cell_of_block (o := 0) ((HB4.out.block _ hw0).trans N0.out) rfl
  have c1 := cell_of_block (o := 1) ((HB4.out.block _ hw0).trans N0.out) rfl
  have c2 := cell_of_block (o := 2) ((HB4.out.block _ hw0).trans N0.out) rfl
  by_cases hg : -1000 < W
  case pos =>
    have hdg : decide (W > -1000) = true := decide_eq_true hg
    have hwW1 := hwW hg
    clear hwW
    go_wp2_with fail
    refine (KE2.out _ HB4.out).mono ?_
    rintro e W5 ⟨rfl, hb⟩
    have HB5 := Lib.hid (below_next HB4.out hb)
    clear hb c0 c1 c2
    have c0 := cell_of_block (o := 0) ((HB5.out.block _ hw0).trans N0.out) rfl
    have c1 := cell_of_block (o := 1) ((HB5.out.block _ hw0).trans N0.out) rfl
    have c2 := cell_of_block (o := 2) ((HB5.out.block _ hw0).trans N0.out) rfl
    go_wp2_with fail
    refine (KE3.out _ HB5.out).mono ?_
    rintro e W6 ⟨rfl, hb⟩
    have HB6 := Lib.hid (below_next HB5.out hb)
    clear hb c0 c1 c2
    have c0 := cell_of_block (o := 0) ((HB6.out.block _ hw0).trans N0.out) rfl
    have c1 := cell_of_block (o := 1) ((HB6.out.block _ hw0).trans N0.out) rfl
    have c2 := cell_of_block (o := 2) ((HB6.out.block _ hw0).trans N0.out) rfl
    go_wp2_with fail
    refine (clone_any (HU.out.below HB6.out)).mono ?_
    rintro e Wa ⟨S', rfl, hS', hua, hba⟩
    have HBa := Lib.hid (below_next HB6.out hba)
    have HUa := Lib.hid hua
    have m0 := cell_of_block (o := 0) ((HBa.out.block _ hw1).trans N1.out) rfl
    have m1 := cell_of_block (o := 1) ((HBa.out.block _ hw1).trans N1.out) rfl
    have hsz := HB6.out.size
    clear hua hba c0 c1 c2
    go_wp2_with fail
    refine (add_r HUa.out HR.out (by omega) mf mt 2).mono ?_
    rintro e Wb ⟨rfl, hub, hfb⟩
    have hwb : Below W2.heap.size W2 Wb := HBa.out.trans (hfb.below HBa.out.size (fun j hj => by have hj' : j = S' := hj; omega))
    have HBb := Lib.hid hwb
    have HUb := Lib.hid hub
    clear hub hfb hwb m0 m1
    have c0 := cell_of_block (o := 0) ((HBb.out.block _ hw0).trans N0.out) rfl
    have c2 := cell_of_block (o := 2) ((HBb.out.block _ hw0).trans N0.out) rfl
    go_wp2_with fail
    refine (KG.out _ _ HUb.out).mono ?_
    rintro e Wc ⟨rfl, hb⟩
    have HBc := Lib.hid (below_next HBb.out hb)
    clear hb c0 c2
    go_wp2_with fail
    refine (KN1.out _).mono ?_
    rintro e Wd ⟨rfl, hb⟩
    have HBd := Lib.hid (below_next HBc.out hb)
    clear hb
    go_wp2_with fail
    refine (KN2.out _).mono ?_
    rintro e We ⟨rfl, hb⟩
    have HBe := Lib.hid (below_next HBd.out hb)
    clear hb
    go_wp2_with fail
    refine (KF.out _).mono ?_
    rintro e Wf ⟨rfl, hb⟩
    have HBf := Lib.hid (below_next HBe.out hb)
    clear hb
    go_wp2_with fail
    refine (K1.out _).mono ?_
    rintro e Wg ⟨rfl, hb⟩
    have HBg := Lib.hid (below_next HBf.out hb)
    clear hb
    go_wp2_with fail
    go_ret
    exact ⟨rfl, HB.out.trans (HBg.out.mono HB.out.size)⟩
  case neg =>
    have hdg : decide (W > -1000) = false := decide_eq_false hg
    clear hwW
    go_wp2_with fail
    refine (KE3.out _ HB4.out).mono ?_
    rintro e W5 ⟨rfl, hb⟩
    have HB5 := Lib.hid (below_next HB4.out hb)
    clear hb c0 c1 c2
    have c0 := cell_of_block (o := 0) ((HB5.out.block _ hw0).trans N0.out) rfl
    have c1 := cell_of_block (o := 1) ((HB5.out.block _ hw0).trans N0.out) rfl
    have c2 := cell_of_block (o := 2) ((HB5.out.block _ hw0).trans N0.out) rfl
    go_wp2_with fail
    refine (clone_any (HU.out.below HB5.out)).mono ?_
    rintro e Wa ⟨S', rfl, hS', hua, hba⟩
    have HBa := Lib.hid (below_next HB5.out hba)
    have HUa := Lib.hid hua
    have m0 := cell_of_block (o := 0) ((HBa.out.block _ hw1).trans N1.out) rfl
    have m1 := cell_of_block (o := 1) ((HBa.out.block _ hw1).trans N1.out) rfl
    have hsz := HB5.out.size
    clear hua hba c0 c1 c2
    go_wp2_with fail
    refine (add_r HUa.out HR.out (by omega) mf mt 2).mono ?_
    rintro e Wb ⟨rfl, hub, hfb⟩
    have hwb : Below W2.heap.size W2 Wb := HBa.out.trans (hfb.below HBa.out.size (fun j hj => by have hj' : j = S' := hj; omega))
    have HBb := Lib.hid hwb
    have HUb := Lib.hid hub
    clear hub hfb hwb m0 m1
    have c0 := cell_of_block (o := 0) ((HBb.out.block _ hw0).trans N0.out) rfl
    have c2 := cell_of_block (o := 2) ((HBb.out.block _ hw0).trans N0.out) rfl
    go_wp2_with fail
    refine (KG.out _ _ HUb.out).mono ?_
    rintro e Wc ⟨rfl, hb⟩
    have HBc := Lib.hid (below_next HBb.out hb)
    clear hb c0 c2
    go_wp2_with fail
    refine (KN1.out _).mono ?_
    rintro e Wd ⟨rfl, hb⟩
    have HBd := Lib.hid (below_next HBc.out hb)
    clear hb
    go_wp2_with fail
    refine (KN2.out _).mono ?_
    rintro e We ⟨rfl, hb⟩
    have HBe := Lib.hid (below_next HBd.out hb)
    clear hb
    go_wp2_with fail
    refine (KF.out _).mono ?_
    rintro e Wf ⟨rfl, hb⟩
    have HBf := Lib.hid (below_next HBe.out hb)
    clear hb
    go_wp2_with fail
    refine (K1.out _).mono ?_
    rintro e Wg ⟨rfl, hb⟩
    have HBg := Lib.hid (below_next HBf.out hb)
    clear hb
    go_wp2_with fail
    go_ret
    exact ⟨rfl, HB.out.trans (HBg.out.mono HB.out.size)⟩
end Go.Proofs.Ythdljigcfhjikaa
namespace Go.Proofs.Ythdljigcfhjikaa
set_option linter.unusedVariables false
open Go.ChangeShapes Go.WideShapes Go.ChangeAt Go.RowKit
attribute [local go_sem ↓] Go.wp_at_zero Go.wp_at_succ comesTo_value_eq comesTo_skip_eq comesTo_enter_eq Rl.comesToR_value_eq Rl.comesToR_skip_eq Rl.comesToR_enter_eq

theorem clampI_twice (f : Int) : clampI (clampI f) = clampI f := clampI_of (clampI_le f).1 (clampI_le f).2
/-- what is taken of levels that suffice leaves none below 0 -/
theorem taken_least {L : List (Int × Int)} (hr : RightU L) {t mm W : Int} (h0 : 0 ≤ t) (h1 : t < 1099511627776) (h2 : 1 ≤ mm) (h3 : mm ≤ 1099511627776) (hW : 0 < W ∧ W < 1000) (hg : GoodF (lvl 0 L) mm W t) :
    0 ≤ chooseU minU (changeU (addF (byU (-W))) L (clampI t, addI t mm)) (clampI t, addI t mm) := by
  have hC := change_right hr (addF_in (byU (-W))) (clampI t) (addI t mm)
  have ea := addI_of h0 (by omega) (by omega) h3
  have hb : t < addI t mm ∧ addI t mm ≤ 1099511627776 := by rw [ea]; split <;> omega
  have e1 : clampI t = t := clampI_of h0 (by omega)
  have e2 : clampI (addI t mm) = addI t mm := clampI_of (by omega) (by omega)
  rw [e1] at hC ⊢
  obtain ⟨⟨x, x0, x1, x2, x3, x4⟩, _⟩ := least_spec hC.1 (f := t) (t := addI t mm) (by rw [e1, e2]; omega)
  rw [← x4, hC.2 x x0 x1, if_pos ⟨by rw [e1, e2]; omega, by rw [e1] at x2; exact x2, by rw [e2] at x3; exact x3⟩]
  have hl := hg x (by rw [e1] at x2; exact x2) (by rw [e2] at x3; rw [ea] at x3; split at x3 <;> omega) x1
  have hbd := lvl_bd hr x
  have hby : byU (-W) = -W := by unfold byU; rw [if_neg (by omega), if_neg (by omega)]
  have hw : IntKind.i64.wrap (lvl 0 L x + -W) = lvl 0 L x - W := by rw [IntKind.wrap_i64]; omega
  unfold addF
  rw [hby, hw]
  unfold boundU
  split <;> (try split) <;> omega
set_option maxRecDepth 100000 in
set_option maxHeartbeats 16000000 in
theorem room_any (lad : Option Addr) (ll lcap : Nat) (A : Nat → ActU) (first f n W g h : Int) (hW : -9223372036854775808 ≤ W ∧ W ≤ 9223372036854775807) (w : World) (hA : ActsU w lad ll A) :
    Calls Try.prog 9 #[.int .i64 first, .slice lad ll lcap, .agg #[.int .i64 f, .int .i64 n, .int .i64 W, .int .i64 g, .int .i64 h]] w fun e w' => e = .returned (.bool true) ∧ Below w.heap.size w w' := by
  have hmx : Try.prog.follows .mixedOrders = true := by kernel_rfl
  have K1 := Lib.hid (fun W => fit_one W)
  have hb0 := below_alloc (Below.refl _ w) (.cells #[.int .i64 f, .int .i64 n, .int .i64 W, .int .i64 g, .int .i64 h] 70)
  have n0 := World.alloc_heap_new w (.cells #[.int .i64 f, .int .i64 n, .int .i64 W, .int .i64 g, .int .i64 h] 70)
  have hA0 := actsU_below hA hb0
  have KP := Lib.hid (play_any lad ll lcap A first 12 (by decide) _ hA0)
  clear hA hA0
  go_enter Try.func9, Try.ntmps9
  go_upto_region 1 with fail
  generalize w.alloc (.cells #[.int .i64 f, .int .i64 n, .int .i64 W, .int .i64 g, .int .i64 h] 70) = W0 at *
  go_wp2_with fail
  refine KP.out.mono ?_
  rintro e W1 ⟨S, v, L, C, rfl, hS, hu, hr, hl, hrow, hcl, hlk, hb1⟩
  obtain ⟨vad, vn, vcp, rfl⟩ : ∃ a n c, v = .slice a n c := by obtain ⟨a, c, e⟩ := hrow.form; exact ⟨_, _, _, e⟩
  have hb2 := below_alloc (Below.refl _ W1) (.cells #[.int .i64 first, .slice vad vn vcp] 29)
  have hb12 := below_next hb1 hb2
  have n0 := (hb12.block _ (Array.getElem?_eq_some_iff.1 n0).1).trans n0
  have HU := Lib.hid (hu.below hb2)
  have HB := Lib.hid (below_next hb0 hb12)
  have HR := Lib.hid hr
  clear hu hr hrow hlk hcl hb0 hb1 hb2 hb12 KP
  go_upto_region 2 with fail
  generalize W1.alloc (.cells #[.int .i64 first, .slice vad vn vcp] 29) = W2 at *
  have c0 := cell_of_block (o := 0) n0 rfl
  have c1 := cell_of_block (o := 1) n0 rfl
  have c2 := cell_of_block (o := 2) n0 rfl
  have hw0 := (Array.getElem?_eq_some_iff.1 n0).1
  have N0 := Lib.hid n0
  have HB2 := Lib.hid (Below.refl W2.heap.size W2)
  clear n0
  have hk := mask_65535 n
  obtain ⟨mm, hmm⟩ : ∃ mm, mm = 1 + n % 65536 := ⟨_, rfl⟩
  have hm1 : 1 ≤ mm ∧ mm ≤ 65536 := by omega
  have hw : IntKind.i64.wrap (1 + n % 65536) = mm := by rw [IntKind.wrap_i64]; omega
  have hF := clampI_le f
  have KC := Lib.hid (fun X => clamp_any f X)
  obtain ⟨F, hFe⟩ : ∃ F, F = clampI f := ⟨_, rfl⟩
  rw [← hFe] at hF KC
  clear hFe
  have hFF : clampI F = F := clampI_of hF.1 hF.2
  have hsp := early_spec HR.out F mm W
  rw [hFF, many_of hm1.1 (by omega)] at hsp
  clear hFF
  obtain ⟨t, ht⟩ : ∃ t, t = earlU L F mm W := ⟨_, rfl⟩
  have KE := Lib.hid (fun (X : World) (hx : Below W2.heap.size W2 X) => early_at (HU.out.below hx) HR.out F mm W)
  rw [← ht] at hsp KE
  clear ht
  obtain ⟨hp1, hp2, hp3, hp4⟩ := hsp
  have HP1 := Lib.hid hp1
  have HP2 := Lib.hid hp2
  clear hp1 hp2
  have KF := Lib.hid (fun (X : World) (hx : Below W2.heap.size W2 X) a b => fits_any (HU.out.below hx) a b W)
  have KW := Lib.hid (fun (X : World) (hx : Below W2.heap.size W2 X) => widest_any (HU.out.below hx) t mm)
  have KO := Lib.hid (fun (X : World) a => of_any a mm X)
  go_wp2_with fail
  rw [← hmm]
  clear hmm hk hw
  refine (KC.out _).mono ?_
  rintro e w' ⟨rfl, rfl⟩
  go_wp2_with fail
  refine (KE.out _ HB2.out).mono ?_
  rintro e W3 ⟨rfl, hb3⟩
  have HB3 := Lib.hid hb3
  clear hb3 c0 c1 c2
  have c2 := cell_of_block (o := 2) ((HB3.out.block _ hw0).trans N0.out) rfl
  have hz2 := World.block_lt_of_cell? _ _ c2
  go_upto_region 5 with fail
  go_cut [59] (fun s wx => s = .bool false ∧ Below W3.heap.size W3 wx)
  case first =>
    by_cases htn : t < 1099511627776
    case pos =>
      have hdt : decide (t < 1099511627776) = true := decide_eq_true htn
      obtain ⟨hft, hgd⟩ := HP1.out htn
      have hdf : decide (t < F) = false := decide_eq_false (by omega)
      have hfit := (fits_good HR.out (W := W) hp3 htn hm1.1 (by omega : mm ≤ 1099511627776)).2 hgd
      have hwd := (widest_good HR.out (W := W) hp3 htn hm1.1 (by omega : mm ≤ 1099511627776)).2 hgd
      have KF1 := Lib.hid (fun (X : World) (hx : Below W3.heap.size W3 X) => hfit ▸ KF.out X (below_next HB3.out hx) (clampI t) (addI t mm))
      obtain ⟨wv, hwv⟩ : ∃ x, x = widestU L t mm := ⟨_, rfl⟩
      have KW1 := Lib.hid (fun (X : World) (hx : Below W3.heap.size W3 X) => hwv ▸ KW.out X (below_next HB3.out hx))
      rw [← hwv] at hwd
      have hdw : decide (wv < W) = false := decide_eq_false (by omega)
      clear hfit hwv hgd
      refine Rl.wp_region_rel (fun a b => Below a.heap.size a b) W3 (fun a b c h h' => below_next h h') (fun a => Below.refl _ _) hmx (by kernel_rfl) (Below.refl _ _).drew ?_
      iterate 10 (refine Rl.textR_run ?_ (fun ρ => ?_) (fun ρ W hS hd => ?_) ?_; rotate_left; (focus go_simp); (focus (obtain ⟨hc, hf⟩ := bcell hS; go_simp; first | exact ⟨rfl, Below.refl _ _⟩ | (refine ⟨?_, Below.refl _ _⟩; rfl))); (try go_simp))
      (refine Rl.textR_run ?_ (fun ρ => ?_) (fun ρ W hS hd => ?_) ?_; rotate_left; (focus go_simp); (focus (obtain ⟨hc, hf⟩ := bcell hS; go_simp; refine (KO.out _ _).mono ?_; rintro e w1 ⟨rfl, hb⟩; refine ⟨_, rfl, ?_, hb⟩; rfl)); (try go_simp))
      iterate 2 (refine Rl.textR_run ?_ (fun ρ => ?_) (fun ρ W hS hd => ?_) ?_; rotate_left; (focus go_simp); (focus (obtain ⟨hc, hf⟩ := bcell hS; go_simp; first | exact ⟨rfl, Below.refl _ _⟩ | (refine ⟨?_, Below.refl _ _⟩; rfl))); (try go_simp))
      (refine Rl.textR_run ?_ (fun ρ => ?_) (fun ρ W hS hd => ?_) ?_; rotate_left; (focus go_simp); (focus (obtain ⟨hc, hf⟩ := bcell hS; go_simp; refine (KF1.out _ hS).mono ?_; rintro e w1 ⟨rfl, hb⟩; refine ⟨_, rfl, ?_, hb⟩; rfl)); (try go_simp))
      iterate 6 (refine Rl.textR_run ?_ (fun ρ => ?_) (fun ρ W hS hd => ?_) ?_; rotate_left; (focus go_simp); (focus (obtain ⟨hc, hf⟩ := bcell hS; go_simp; first | exact ⟨rfl, Below.refl _ _⟩ | (refine ⟨?_, Below.refl _ _⟩; rfl))); (try go_simp))
      (refine Rl.textR_run ?_ (fun ρ => ?_) (fun ρ W hS hd => ?_) ?_; rotate_left; (focus go_simp); (focus (obtain ⟨hc, hf⟩ := bcell hS; go_simp; refine (KW1.out _ hS).mono ?_; rintro e w1 ⟨rfl, hb⟩; refine ⟨_, rfl, ?_, hb⟩; rfl)); (try go_simp))
      iterate 5 (refine Rl.textR_run ?_ (fun ρ => ?_) (fun ρ W hS hd => ?_) ?_; rotate_left; (focus go_simp); (focus (obtain ⟨hc, hf⟩ := bcell hS; go_simp; first | exact ⟨rfl, Below.refl _ _⟩ | (refine ⟨?_, Below.refl _ _⟩; rfl))); (try go_simp))
      refine Rl.textR_nil ?_
      intro ρ w1 hg hk1
      dsimp only
      go_wp2_with fail
      go_meet
      exact ⟨rfl, hg⟩
    case neg =>
      have hdt : decide (t < 1099511627776) = false := decide_eq_false htn
      refine Rl.wp_region_rel (fun a b => Below a.heap.size a b) W3 (fun a b c h h' => below_next h h') (fun a => Below.refl _ _) hmx (by kernel_rfl) (Below.refl _ _).drew ?_
      iterate 3 (refine Rl.textR_run ?_ (fun ρ => ?_) (fun ρ W hS hd => ?_) ?_; rotate_left; (focus go_simp); (focus (obtain ⟨hc, hf⟩ := bcell hS; go_simp; first | exact ⟨rfl, Below.refl _ _⟩ | (refine ⟨?_, Below.refl _ _⟩; rfl))); (try go_simp))
      iterate 22 (refine Rl.textR_skip (fun ρ => ?_) ?_; (focus (first | rfl | (go_simp; done) | (go_simp; rfl))); (try go_simp))
      (refine Rl.textR_run ?_ (fun ρ => ?_) (fun ρ W hS hd => ?_) ?_; rotate_left; (focus go_simp); (focus (obtain ⟨hc, hf⟩ := bcell hS; go_simp; first | exact ⟨rfl, Below.refl _ _⟩ | (refine ⟨?_, Below.refl _ _⟩; rfl))); (try go_simp))
      refine Rl.textR_nil ?_
      intro ρ w1 hg hk1
      dsimp only
      go_wp2_with fail
      go_meet
      exact ⟨rfl, hg⟩
  case rest =>
  obtain ⟨rfl, hb4⟩ := hcut
  have HB4 := Lib.hid (below_next HB3.out hb4)
  clear hb4 c2 HB3
  go_wp2_with fail
  refine (list_any (HU.out.below HB4.out)).mono ?_
  rintro e W5 ⟨gr, gc, rfl, hg1, hg2, hg3, hrw, hb5⟩
  have HB5 := Lib.hid (below_next HB4.out hb5)
  have HRw := Lib.hid hrw
  clear hb5 hrw hg1 hg3
  go_wp2_with fail
  go_loopw [13] (fun i wr => ∃ k : Nat, k ≤ L.length ∧ i = .int .i64 k ∧ Below W5.heap.size W5 wr) (fun i _ => L.length - (intOf i).toNat)
  case atStart => exact ⟨0, Nat.zero_le _, rfl, Below.refl _ _⟩
  case round =>
    obtain ⟨k, hk, rfl, hBr⟩ := hrel
    have HBr := Lib.hid (below_next HB5.out hBr)
    by_cases hlt : k < L.length
    case pos =>
      have hlt' : (k : Int) < (L.length : Int) := by omega
      have e0 := (hBr.cell (p := ⟨gr, k * 2, none⟩) hg2).trans (HRw.out k hlt).1
      have hz0 := World.block_lt_of_cell? _ _ e0
      have c2 := cell_of_block (o := 2) ((HBr.out.block _ hw0).trans N0.out) rfl
      have hz2 := World.block_lt_of_cell? _ _ c2
      have hwk : IntKind.i64.wrap ((k : Int) + 1) = ((k + 1 : Nat) : Int) := by rw [IntKind.wrap_i64]; omega
      have hal := toU_le HR.out hlt
      obtain ⟨a, ha⟩ : ∃ a, a = (L.getD k (0, 0)).1 := ⟨_, rfl⟩
      rw [← ha] at e0 hal
      clear ha
      go_upto_region 11 with fail
      go_cut [96] (fun s wx => s = .bool false ∧ Below wr.heap.size wr wx)
      case first =>
        by_cases h1 : a ≥ F
        case pos =>
          have hd1 : decide (a ≥ F) = true := decide_eq_true h1
          by_cases h2 : a < t
          case pos =>
            have hd2 : decide (a < t) = true := decide_eq_true h2
            have hbad := HP2.out a h1 h2 (by omega)
            have hfit : fitsU L (clampI a) (addI a mm) W = false := by
              cases hc : fitsU L (clampI a) (addI a mm) W with
              | false => rfl
              | true => exact absurd ((fits_good HR.out (W := W) hal.1 (by omega) hm1.1 (by omega : mm ≤ 1099511627776)).1 hc) hbad
            have KF1 := Lib.hid (fun (X : World) (hx : Below wr.heap.size wr X) => hfit ▸ KF.out X (below_next HBr.out hx) (clampI a) (addI a mm))
            clear hfit hbad
            refine Rl.wp_region_rel (fun a b => Below a.heap.size a b) wr (fun a b c h h' => below_next h h') (fun a => Below.refl _ _) hmx (by kernel_rfl) (Below.refl _ _).drew ?_
            iterate 24 (refine Rl.textR_run ?_ (fun ρ => ?_) (fun ρ W hS hd => ?_) ?_; rotate_left; (focus go_simp); (focus (obtain ⟨hc, hf⟩ := bcell hS; go_simp; first | exact ⟨rfl, Below.refl _ _⟩ | (refine ⟨?_, Below.refl _ _⟩; rfl))); (try go_simp))
            (refine Rl.textR_run ?_ (fun ρ => ?_) (fun ρ W hS hd => ?_) ?_; rotate_left; (focus go_simp); (focus (obtain ⟨hc, hf⟩ := bcell hS; go_simp; refine (KO.out _ _).mono ?_; rintro e w1 ⟨rfl, hb⟩; refine ⟨_, rfl, ?_, hb⟩; rfl)); (try go_simp))
            iterate 2 (refine Rl.textR_run ?_ (fun ρ => ?_) (fun ρ W hS hd => ?_) ?_; rotate_left; (focus go_simp); (focus (obtain ⟨hc, hf⟩ := bcell hS; go_simp; first | exact ⟨rfl, Below.refl _ _⟩ | (refine ⟨?_, Below.refl _ _⟩; rfl))); (try go_simp))
            (refine Rl.textR_run ?_ (fun ρ => ?_) (fun ρ W hS hd => ?_) ?_; rotate_left; (focus go_simp); (focus (obtain ⟨hc, hf⟩ := bcell hS; go_simp; refine (KF1.out _ hS).mono ?_; rintro e w1 ⟨rfl, hb⟩; refine ⟨_, rfl, ?_, hb⟩; rfl)); (try go_simp))
            (refine Rl.textR_run ?_ (fun ρ => ?_) (fun ρ W hS hd => ?_) ?_; rotate_left; (focus go_simp); (focus (obtain ⟨hc, hf⟩ := bcell hS; go_simp; first | exact ⟨rfl, Below.refl _ _⟩ | (refine ⟨?_, Below.refl _ _⟩; rfl))); (try go_simp))
            refine Rl.textR_nil ?_
            intro ρ w1 hg hk1
            dsimp only
            go_wp2_with fail
            go_meet
            exact ⟨rfl, hg⟩
          case neg =>
            have hd2 : decide (a < t) = false := decide_eq_false h2
            refine Rl.wp_region_rel (fun a b => Below a.heap.size a b) wr (fun a b c h h' => below_next h h') (fun a => Below.refl _ _) hmx (by kernel_rfl) (Below.refl _ _).drew ?_
            iterate 17 (refine Rl.textR_run ?_ (fun ρ => ?_) (fun ρ W hS hd => ?_) ?_; rotate_left; (focus go_simp); (focus (obtain ⟨hc, hf⟩ := bcell hS; go_simp; first | exact ⟨rfl, Below.refl _ _⟩ | (refine ⟨?_, Below.refl _ _⟩; rfl))); (try go_simp))
            iterate 11 (refine Rl.textR_skip (fun ρ => ?_) ?_; (focus (first | rfl | (go_simp; done) | (go_simp; rfl))); (try go_simp))
            (refine Rl.textR_run ?_ (fun ρ => ?_) (fun ρ W hS hd => ?_) ?_; rotate_left; (focus go_simp); (focus (obtain ⟨hc, hf⟩ := bcell hS; go_simp; first | exact ⟨rfl, Below.refl _ _⟩ | (refine ⟨?_, Below.refl _ _⟩; rfl))); (try go_simp))
            refine Rl.textR_nil ?_
            intro ρ w1 hg hk1
            dsimp only
            go_wp2_with fail
            go_meet
            exact ⟨rfl, hg⟩
        case neg =>
          have hd1 : decide (a ≥ F) = false := decide_eq_false h1
          refine Rl.wp_region_rel (fun a b => Below a.heap.size a b) wr (fun a b c h h' => below_next h h') (fun a => Below.refl _ _) hmx (by kernel_rfl) (Below.refl _ _).drew ?_
          iterate 8 (refine Rl.textR_run ?_ (fun ρ => ?_) (fun ρ W hS hd => ?_) ?_; rotate_left; (focus go_simp); (focus (obtain ⟨hc, hf⟩ := bcell hS; go_simp; first | exact ⟨rfl, Below.refl _ _⟩ | (refine ⟨?_, Below.refl _ _⟩; rfl))); (try go_simp))
          iterate 7 (refine Rl.textR_skip (fun ρ => ?_) ?_; (focus (first | rfl | (go_simp; done) | (go_simp; rfl))); (try go_simp))
          iterate 2 (refine Rl.textR_run ?_ (fun ρ => ?_) (fun ρ W hS hd => ?_) ?_; rotate_left; (focus go_simp); (focus (obtain ⟨hc, hf⟩ := bcell hS; go_simp; first | exact ⟨rfl, Below.refl _ _⟩ | (refine ⟨?_, Below.refl _ _⟩; rfl))); (try go_simp))
          iterate 11 (refine Rl.textR_skip (fun ρ => ?_) ?_; (focus (first | rfl | (go_simp; done) | (go_simp; rfl))); (try go_simp))
          (refine Rl.textR_run ?_ (fun ρ => ?_) (fun ρ W hS hd => ?_) ?_; rotate_left; (focus go_simp); (focus (obtain ⟨hc, hf⟩ := bcell hS; go_simp; first | exact ⟨rfl, Below.refl _ _⟩ | (refine ⟨?_, Below.refl _ _⟩; rfl))); (try go_simp))
          refine Rl.textR_nil ?_
          intro ρ w1 hg hk1
          dsimp only
          go_wp2_with fail
          go_meet
          exact ⟨rfl, hg⟩
      case rest =>
      obtain ⟨rfl, hbx⟩ := hcut
      go_wp2_with fail
      go_roundw
      case rel => exact ⟨k + 1, by omega, by go_num, below_next hBr hbx⟩
      case measure => simp [intOf]; omega
    case neg =>
      obtain rfl : k = L.length := by omega
      have c2 := cell_of_block (o := 2) ((HBr.out.block _ hw0).trans N0.out) rfl
      have hz2 := World.block_lt_of_cell? _ _ c2
      go_upto_region 13 with fail
      go_cut [108] (fun s wx => s = .bool false ∧ Below wr.heap.size wr wx)
      case first =>
        by_cases hFt : F < t
        case pos =>
          have hd1 : decide (F < t) = true := decide_eq_true hFt
          have hbad := HP2.out F (Int.le_refl _) hFt (by omega)
          have hfit : fitsU L (clampI F) (addI F mm) W = false := by
            cases hc : fitsU L (clampI F) (addI F mm) W with
            | false => rfl
            | true => exact absurd ((fits_good HR.out (W := W) hF.1 (by omega) hm1.1 (by omega : mm ≤ 1099511627776)).1 hc) hbad
          have KF1 := Lib.hid (fun (X : World) (hx : Below wr.heap.size wr X) => hfit ▸ KF.out X (below_next HBr.out hx) (clampI F) (addI F mm))
          clear hfit hbad
          refine Rl.wp_region_rel (fun a b => Below a.heap.size a b) wr (fun a b c h h' => below_next h h') (fun a => Below.refl _ _) hmx (by kernel_rfl) (Below.refl _ _).drew ?_
          iterate 7 (refine Rl.textR_run ?_ (fun ρ => ?_) (fun ρ W hS hd => ?_) ?_; rotate_left; (focus go_simp); (focus (obtain ⟨hc, hf⟩ := bcell hS; go_simp; first | exact ⟨rfl, Below.refl _ _⟩ | (refine ⟨?_, Below.refl _ _⟩; rfl))); (try go_simp))
          (refine Rl.textR_run ?_ (fun ρ => ?_) (fun ρ W hS hd => ?_) ?_; rotate_left; (focus go_simp); (focus (obtain ⟨hc, hf⟩ := bcell hS; go_simp; refine (KO.out _ _).mono ?_; rintro e w1 ⟨rfl, hb⟩; refine ⟨_, rfl, ?_, hb⟩; rfl)); (try go_simp))
          iterate 2 (refine Rl.textR_run ?_ (fun ρ => ?_) (fun ρ W hS hd => ?_) ?_; rotate_left; (focus go_simp); (focus (obtain ⟨hc, hf⟩ := bcell hS; go_simp; first | exact ⟨rfl, Below.refl _ _⟩ | (refine ⟨?_, Below.refl _ _⟩; rfl))); (try go_simp))
          (refine Rl.textR_run ?_ (fun ρ => ?_) (fun ρ W hS hd => ?_) ?_; rotate_left; (focus go_simp); (focus (obtain ⟨hc, hf⟩ := bcell hS; go_simp; refine (KF1.out _ hS).mono ?_; rintro e w1 ⟨rfl, hb⟩; refine ⟨_, rfl, ?_, hb⟩; rfl)); (try go_simp))
          (refine Rl.textR_run ?_ (fun ρ => ?_) (fun ρ W hS hd => ?_) ?_; rotate_left; (focus go_simp); (focus (obtain ⟨hc, hf⟩ := bcell hS; go_simp; first | exact ⟨rfl, Below.refl _ _⟩ | (refine ⟨?_, Below.refl _ _⟩; rfl))); (try go_simp))
          refine Rl.textR_nil ?_
          intro ρ w1 hg hk1
          dsimp only
          go_wp2_with fail
          go_meet
          exact ⟨rfl, hg⟩
        case neg =>
          have hd1 : decide (F < t) = false := decide_eq_false hFt
          refine Rl.wp_region_rel (fun a b => Below a.heap.size a b) wr (fun a b c h h' => below_next h h') (fun a => Below.refl _ _) hmx (by kernel_rfl) (Below.refl _ _).drew ?_
          iterate 4 (refine Rl.textR_run ?_ (fun ρ => ?_) (fun ρ W hS hd => ?_) ?_; rotate_left; (focus go_simp); (focus (obtain ⟨hc, hf⟩ := bcell hS; go_simp; first | exact ⟨rfl, Below.refl _ _⟩ | (refine ⟨?_, Below.refl _ _⟩; rfl))); (try go_simp))
          iterate 7 (refine Rl.textR_skip (fun ρ => ?_) ?_; (focus (first | rfl | (go_simp; done) | (go_simp; rfl))); (try go_simp))
          (refine Rl.textR_run ?_ (fun ρ => ?_) (fun ρ W hS hd => ?_) ?_; rotate_left; (focus go_simp); (focus (obtain ⟨hc, hf⟩ := bcell hS; go_simp; first | exact ⟨rfl, Below.refl _ _⟩ | (refine ⟨?_, Below.refl _ _⟩; rfl))); (try go_simp))
          refine Rl.textR_nil ?_
          intro ρ w1 hg hk1
          dsimp only
          go_wp2_with fail
          go_meet
          exact ⟨rfl, hg⟩
      case rest =>
      obtain ⟨rfl, hbx⟩ := hcut
      have HBx := Lib.hid (below_next HBr.out hbx)
      have c2 := cell_of_block (o := 2) ((HBx.out.block _ hw0).trans N0.out) rfl
      have hz2 := World.block_lt_of_cell? _ _ c2
      clear hbx hBr
      by_cases hq : t < 1099511627776 ∧ 0 < W ∧ W < 1000
      case pos =>
        obtain ⟨q1, q2, q3⟩ := hq
        have hd1 : decide (t < 1099511627776) = true := decide_eq_true q1
        have hd2 : decide (W > 0) = true := decide_eq_true q2
        have hd3 : decide (W < 1000) = true := decide_eq_true q3
        have HT := Lib.hid (taken_least HR.out hp3 q1 hm1.1 (by omega : mm ≤ 1099511627776) ⟨q2, q3⟩ (HP1.out q1).2)
        have hwn : IntKind.i64.wrap (-W) = -W := by rw [IntKind.wrap_i64]; omega
        go_wp2_with fail
        refine (clone_any (HU.out.below HBx.out)).mono ?_
        rintro e Wa ⟨S', rfl, hS', hua, hba⟩
        have HBa := Lib.hid (below_next HBx.out hba)
        have HUa := Lib.hid hua
        have hsx := HBx.out.size
        clear hua hba c2
        have c2 := cell_of_block (o := 2) ((HBa.out.block _ hw0).trans N0.out) rfl
        have hz2 := World.block_lt_of_cell? _ _ c2
        go_upto_region 17 with fail
        refine wp_region_grow_tail 7 (Below Wa.heap.size Wa) hmx (by kernel_rfl) (Below.refl _ _).drew ?_
        simp only [List.take_succ_cons, List.take_zero, List.drop_succ_cons, List.drop_zero]
        iterate 3 (refine textS_run ?_ ?_ (fun W hS => ?_) ?_; rotate_left; (focus go_simp); (focus (obtain ⟨hc, hf⟩ := bcell hS; go_simp; first | rfl | exact ⟨rfl, hS⟩ | exact hS)); (try go_simp))
        (refine textS_run ?_ ?_ (fun W hS => ?_) ?_; rotate_left; (focus go_simp); (focus (obtain ⟨hc, hf⟩ := bcell hS; go_simp; refine (KO.out _ _).mono ?_; rintro e w1 ⟨rfl, hb⟩; refine ⟨?_, hS.trans (hb.mono hS.size)⟩; rfl)); (try go_simp))
        iterate 3 (refine textS_run ?_ ?_ (fun W hS => ?_) ?_; rotate_left; (focus go_simp); (focus (obtain ⟨hc, hf⟩ := bcell hS; go_simp; first | rfl | exact ⟨rfl, hS⟩ | exact hS)); (try go_simp))
        refine textS_nil ?_
        intro Wy hby
        have HBy := Lib.hid (below_next HBa.out hby)
        have HUy := Lib.hid (HUa.out.below hby)
        clear hby c2 HUa
        go_wp2_with fail
        refine (add_r HUy.out HR.out (by omega) (clampI t) (addI t mm) (-W)).mono ?_
        rintro e Wb ⟨rfl, hub, hfb⟩
        have hwb : Below W2.heap.size W2 Wb := HBy.out.trans (hfb.below HBy.out.size (fun j hj => by have hj' : j = S' := hj; omega))
        have HBb := Lib.hid hwb
        have HUb := Lib.hid hub
        clear hub hfb hwb
        go_wp2_with fail
        refine (KO.out _ _).mono ?_
        rintro e Wc ⟨rfl, hb⟩
        have HBc := Lib.hid (below_next HBb.out hb)
        have HUc := Lib.hid (HUb.out.below hb)
        clear hb
        go_wp2_with fail
        refine (least_any HUc.out (clampI t) (addI t mm)).mono ?_
        rintro e Wd ⟨rfl, hb⟩
        have HBd := Lib.hid (below_next HBc.out hb)
        clear hb
        have hT := HT.out
        generalize chooseU minU (changeU (addF (byU (-W))) L (clampI t, addI t mm)) (clampI t, addI t mm) = res at *
        have hd4 : decide (res < 0) = false := decide_eq_false (by omega)
        clear hT
        go_wp2_with fail
        refine (K1.out _).mono ?_
        rintro e Wg ⟨rfl, hb⟩
        have HBg := Lib.hid (below_next HBd.out hb)
        clear hb
        go_wp2_with fail
        go_ret
        exact ⟨rfl, HB.out.trans (HBg.out.mono HB.out.size)⟩
      case neg =>
        rcases (show (¬ t < 1099511627776) ∨ (t < 1099511627776 ∧ ¬ 0 < W) ∨ (t < 1099511627776 ∧ 0 < W ∧ ¬ W < 1000) by omega) with q1 | ⟨q1, q2⟩ | ⟨q1, q2, q3⟩
        · have hd1 : decide (t < 1099511627776) = false := decide_eq_false q1
          go_wp2_with fail
          refine (K1.out _).mono ?_
          rintro e Wg ⟨rfl, hb⟩
          have HBg := Lib.hid (below_next HBx.out hb)
          clear hb
          go_wp2_with fail
          go_ret
          exact ⟨rfl, HB.out.trans (HBg.out.mono HB.out.size)⟩
        · have hd1 : decide (t < 1099511627776) = true := decide_eq_true q1
          have hd2 : decide (W > 0) = false := decide_eq_false q2
          go_wp2_with fail
          refine (K1.out _).mono ?_
          rintro e Wg ⟨rfl, hb⟩
          have HBg := Lib.hid (below_next HBx.out hb)
          clear hb
          go_wp2_with fail
          go_ret
          exact ⟨rfl, HB.out.trans (HBg.out.mono HB.out.size)⟩
        · have hd1 : decide (t < 1099511627776) = true := decide_eq_true q1
          have hd2 : decide (W > 0) = true := decide_eq_true q2
          have hd3 : decide (W < 1000) = false := decide_eq_false q3
          go_wp2_with fail
          refine (K1.out _).mono ?_
          rintro e Wg ⟨rfl, hb⟩
          have HBg := Lib.hid (below_next HBx.out hb)
          clear hb
          go_wp2_with fail
          go_ret
          exact ⟨rfl, HB.out.trans (HBg.out.mono HB.out.size)⟩
end Go.Proofs.Ythdljigcfhjikaa
