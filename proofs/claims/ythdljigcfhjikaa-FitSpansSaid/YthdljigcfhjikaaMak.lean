/- Laws that belong together: Room (layer 11): FitLess walked. Conditions: the acts that came in; the numbers' bounds.; Room (layer 11), plainly: what FitSpans asks of the spans that are told and of the last time. No condition but that the steps are right.; Room (layer 11): FitSpans walked. Conditions: the acts that came in. -/
import Derived.Test.YthdljigcfhjikaaMaj
import Derived.Test.YthdljigcfhjikaaMUrc
import Derived.Test.YthdljigcfhjikaaMask
import Derived.Test.YthdljigcfhjikaaMab
import Derived.Test.YthdljigcfhjikaaMad
import Derived.Test.YthdljigcfhjikaaMal
import Derived.Deep.CutBlock
namespace Go.Proofs.Ythdljigcfhjikaa
set_option linter.unusedVariables false
open Go.ChangeShapes Go.WideShapes Go.ChangeAt Go.RowKit
attribute [local go_sem ↓] Go.wp_at_zero Go.wp_at_succ comesTo_value_eq comesTo_skip_eq comesTo_enter_eq

/-- what Earliest tells -/
def earlU (L : List (Int × Int)) (from_ many W : Int) : Int := firstU (startsU L (clampI from_) (maxU (clampI many) 1) W)
theorem early_at {X : World} {S : Nat} {L : List (Int × Int)} (h : USt X S L) (hr : RightU L) (from_ many W : Int) : Calls Try.prog 38 #[.pointer (some ⟨S, 0, none⟩), .int .i64 from_, .int .i64 many, .int .i64 W] X fun e w' => e = .returned (.int .i64 (earlU L from_ many W)) ∧ Below X.heap.size X w' :=
  earliest_any from_ many W hr h.len (fun _ hb => levels_any (h.below hb))
theorem early_no {X : World} {v : Value} (h : NoU X v) (from_ many W : Int) : Calls Try.prog 38 #[v, .int .i64 from_, .int .i64 many, .int .i64 W] X fun e w' => e = .returned (.int .i64 (earlU [(0, 0)] from_ many W)) ∧ Below X.heap.size X w' :=
  earliest_any from_ many W (right_flat 0) (by decide) (fun _ hb => levels_no (h.below hb))
theorem early_spec {L : List (Int × Int)} (hr : RightU L) (from_ many W : Int) : (earlU L from_ many W < 1099511627776 → clampI from_ ≤ earlU L from_ many W ∧ GoodF (lvl 0 L) (maxU (clampI many) 1) W (earlU L from_ many W)) ∧ (∀ y, clampI from_ ≤ y → y < earlU L from_ many W → y < 1099511627776 → ¬ GoodF (lvl 0 L) (maxU (clampI many) 1) W y) ∧ 0 ≤ earlU L from_ many W ∧ earlU L from_ many W ≤ 1099511627776 :=
  first_spec (starts_ok hr (clampI_le from_).1 (maxU_le many).1) (clampI_le from_).1
/-- what is good for one is good for the other: it is found as early -/
theorem early_le {L M : List (Int × Int)} (hl : RightU L) (hm : RightU M) {f f' n n' W W' : Int} (hf : clampI f' ≤ clampI f)
    (hg : ∀ y, 0 ≤ y → y < 1099511627776 → GoodF (lvl 0 L) (maxU (clampI n) 1) W y → GoodF (lvl 0 M) (maxU (clampI n') 1) W' y) : earlU M f' n' W' ≤ earlU L f n W := by
  obtain ⟨a1, a2, a3, a4⟩ := early_spec hl f n W
  obtain ⟨b1, b2, b3, b4⟩ := early_spec hm f' n' W'
  rcases Int.lt_or_le (earlU L f n W) 1099511627776 with h | h
  · obtain ⟨c1, c2⟩ := a1 h
    refine Classical.byContradiction fun hc => ?_
    exact b2 _ (by omega) (by omega) h (hg _ a3 h c2)
  · omega
theorem lvl_in : ∀ (L : List (Int × Int)) (d x : Int), (-1000000 ≤ d ∧ d ≤ 1000000) → (∀ p ∈ L, -1000000 ≤ p.2 ∧ p.2 ≤ 1000000) → -1000000 ≤ lvl d L x ∧ lvl d L x ≤ 1000000
  | [], d, x, hd, _ => hd
  | p :: r, d, x, hd, h => by
    unfold lvl
    split
    · first | exact hd | exact lvl_in r _ x (h p List.mem_cons_self) fun q hq => h q (List.mem_cons_of_mem _ hq)
    · first | exact hd | exact lvl_in r _ x (h p List.mem_cons_self) fun q hq => h q (List.mem_cons_of_mem _ hq)
theorem lvl_bd {L : List (Int × Int)} (h : RightU L) (x : Int) : -1000000 ≤ lvl 0 L x ∧ lvl 0 L x ≤ 1000000 := lvl_in L 0 x (by omega) h.bd
/-- more levels are as good -/
theorem more_good {L : List (Int × Int)} (hl : RightU L) (f t : Int) : ∀ x, 0 ≤ x → x < 1099511627776 → lvl 0 L x ≤ lvl 0 (changeU (addF (byU 2)) L (f, t)) x := by
  intro x h0 h1
  rw [(change_right hl (addF_in (byU 2)) f t).2 x h0 h1]
  split
  · have hb := lvl_bd hl x
    have e2 : byU 2 = 2 := by decide
    have hw : IntKind.i64.wrap (lvl 0 L x + 2) = lvl 0 L x + 2 := by rw [IntKind.wrap_i64]; omega
    unfold addF
    rw [e2, hw]
    unfold boundU
    split <;> (try split) <;> omega
  · exact Int.le_refl _
theorem many_of {n : Int} (h : 1 ≤ n) (h' : n ≤ 1099511627776) : maxU (clampI n) 1 = n := by
  rw [clampI_of (by omega) h']
  unfold maxU
  split <;> omega
set_option maxRecDepth 100000 in
/-- an empty span fits -/
theorem fits_empty (v : Value) (f t W : Int) (he : clampI t ≤ clampI f) (w : World) : Calls Try.prog 44 #[v, .agg #[.int .i64 f, .int .i64 t], .int .i64 W] w fun e w' => e = .returned (.bool true) ∧ Below w.heap.size w w' := by
  have hb0 := below_alloc (Below.refl _ w) (.cells #[.int .i64 f, .int .i64 t] 25)
  have n0 := World.alloc_heap_new w (.cells #[.int .i64 f, .int .i64 t] 25)
  have KE := Lib.hid (fun W => empty_any f t W)
  have hd : decide (clampI t ≤ clampI f) = true := decide_eq_true he
  go_enter Try.func44, Try.ntmps44
  go_upto_region 1 with fail
  generalize w.alloc (.cells #[.int .i64 f, .int .i64 t] 25) = W0 at *
  have c0 := cell_of_block (o := 0) n0 rfl
  have c1 := cell_of_block (o := 1) n0 rfl
  go_wp2_with fail
  refine (KE.out _).mono ?_
  rintro e W1 ⟨rfl, hb1⟩
  have HB1 := Lib.hid (below_next hb0 hb1)
  clear hb0 hb1 n0
  rw [hd]
  go_wp2_with fail
  go_ret
  exact ⟨rfl, HB1.out⟩
theorem actsU_below {w w' : World} {lad : Option Addr} {ll : Nat} {A : Nat → ActU} (hA : ActsU w lad ll A) (hb0 : Below w.heap.size w w') : ActsU w' lad ll A := by
  refine ⟨hA.1, fun hp => ?_⟩
  obtain ⟨b, off, rfl, hc⟩ := hA.2 hp
  refine ⟨b, off, rfl, fun k hk => ?_⟩
  have h := hc k hk
  have hbl : b < w.heap.size := World.block_lt_of_cell? w _ h.c0
  exact ⟨(hb0.cell (p := ⟨b, off + k * 4, none⟩) hbl).trans h.c0, (hb0.cell (p := ⟨b, off + k * 4 + 1, none⟩) hbl).trans h.c1, (hb0.cell (p := ⟨b, off + k * 4 + 2, none⟩) hbl).trans h.c2, (hb0.cell (p := ⟨b, off + k * 4 + 3, none⟩) hbl).trans h.c3, h.n64, h.f64, h.t64⟩
set_option maxRecDepth 100000 in
set_option maxHeartbeats 16000000 in
theorem less_any (lad : Option Addr) (ll lcap : Nat) (A : Nat → ActU) (f n W g h mf mt : Int) (hW : -9223372036854775808 ≤ W ∧ W ≤ 9223372036854775807) (w : World) (hA : ActsU w lad ll A) :
    Calls Try.prog 10 #[.slice lad ll lcap, .agg #[.int .i64 f, .int .i64 n, .int .i64 W, .int .i64 g, .int .i64 h], .agg #[.int .i64 mf, .int .i64 mt]] w fun e w' => e = .returned (.bool true) ∧ Below w.heap.size w w' := by
  have K1 := Lib.hid (fun W => fit_one W)
  have hb0 := below_alloc (below_alloc (Below.refl _ w) (.cells #[.int .i64 f, .int .i64 n, .int .i64 W, .int .i64 g, .int .i64 h] 70)) (.cells #[.int .i64 mf, .int .i64 mt] 25)
  have s1 : (w.alloc (.cells #[.int .i64 f, .int .i64 n, .int .i64 W, .int .i64 g, .int .i64 h] 70)).heap.size = w.heap.size + 1 := by simp
  have n1 := World.alloc_heap_new (w.alloc (.cells #[.int .i64 f, .int .i64 n, .int .i64 W, .int .i64 g, .int .i64 h] 70)) (.cells #[.int .i64 mf, .int .i64 mt] 25)
  rw [s1] at n1
  have n0 := ((below_alloc (Below.refl _ (w.alloc (.cells #[.int .i64 f, .int .i64 n, .int .i64 W, .int .i64 g, .int .i64 h] 70))) (.cells #[.int .i64 mf, .int .i64 mt] 25)).block w.heap.size (by omega)).trans (World.alloc_heap_new w (.cells #[.int .i64 f, .int .i64 n, .int .i64 W, .int .i64 g, .int .i64 h] 70))
  have hA0 := actsU_below hA hb0
  have KP := Lib.hid (play_any lad ll lcap A 3 12 (by decide) _ hA0)
  clear hA hA0 s1
  go_enter Try.func10, Try.ntmps10
  go_upto_region 1 with fail
  generalize (w.alloc (.cells #[.int .i64 f, .int .i64 n, .int .i64 W, .int .i64 g, .int .i64 h] 70)).alloc (.cells #[.int .i64 mf, .int .i64 mt] 25) = W0 at *
  go_wp2_with fail
  refine KP.out.mono ?_
  rintro e W1 ⟨S, v, L, C, rfl, hS, hu, hr, hl, hrow, hcl, hlk, hb1⟩
  obtain ⟨vad, vn, vcp, rfl⟩ : ∃ a n c, v = .slice a n c := by obtain ⟨a, c, e⟩ := hrow.form; exact ⟨_, _, _, e⟩
  have hb2 := below_alloc (Below.refl _ W1) (.cells #[.int .i64 3, .slice vad vn vcp] 29)
  have hb12 := below_next hb1 hb2
  have n0 := (hb12.block _ (Array.getElem?_eq_some_iff.1 n0).1).trans n0
  have n1 := (hb12.block _ (Array.getElem?_eq_some_iff.1 n1).1).trans n1
  have HU := Lib.hid (hu.below hb2)
  have HB := Lib.hid (below_next hb0 hb12)
  have HR := Lib.hid hr
  clear hu hr hrow hlk hcl hb0 hb1 hb2 hb12 KP
  go_upto_region 2 with fail
  generalize W1.alloc (.cells #[.int .i64 3, .slice vad vn vcp] 29) = W2 at *
  have c0 := cell_of_block (o := 0) n0 rfl
  have c1 := cell_of_block (o := 1) n0 rfl
  have c2 := cell_of_block (o := 2) n0 rfl
  have hk := mask_255 n
  obtain ⟨mm, hmm⟩ : ∃ mm, mm = 2 + n % 256 := ⟨_, rfl⟩
  have hm1 : 2 ≤ mm ∧ mm ≤ 257 := by omega
  have hw : IntKind.i64.wrap (2 + n % 256) = mm := by rw [IntKind.wrap_i64]; omega
  have KE := Lib.hid (fun (X : World) (hx : Below W2.heap.size W2 X) a b c => early_at (HU.out.below hx) HR.out a b c)
  have hw0 := (Array.getElem?_eq_some_iff.1 n0).1
  have hw1 := (Array.getElem?_eq_some_iff.1 n1).1
  have N0 := Lib.hid n0
  have N1 := Lib.hid n1
  have HB2 := Lib.hid (Below.refl W2.heap.size W2)
  clear n0 n1
  go_wp2_with fail
  rw [← hmm]
  clear hmm hk hw
  obtain ⟨t, ht⟩ : ∃ t, t = earlU L f mm W := ⟨_, rfl⟩
  have hg1 : ¬ earlU L f (mm - 1) W > t := by
    have := early_le (f := f) (n := mm) (n' := mm - 1) (W := W) (W' := W) HR.out HR.out (Int.le_refl (clampI f)) (fun y h0 h1 hg x x1 x2 x3 => hg x x1 (by rw [many_of (by omega) (by omega)] at x2 ⊢; omega) x3)
    omega
  have hg2 : ¬ earlU L f mm (W - 1) > t := by
    have := early_le (f := f) (n := mm) (n' := mm) (W := W) (W' := W - 1) HR.out HR.out (Int.le_refl (clampI f)) (fun y h0 h1 hg x x1 x2 x3 => by have := hg x x1 x2 x3; omega)
    omega
  have hg3 : ¬ earlU L 0 mm W > t := by
    have := early_le (f := f) (f' := 0) (n := mm) (n' := mm) (W := W) (W' := W) HR.out HR.out (clampI_le f).1 (fun y h0 h1 hg => hg)
    omega
  have HC := Lib.hid (change_right HR.out (addF_in (byU 2)) mf mt)
  have hg4 : ¬ earlU (changeU (addF (byU 2)) L (mf, mt)) f mm W > t := by
    have := early_le (f := f) (n := mm) (n' := mm) (W := W) (W' := W) HR.out HC.out.1 (Int.le_refl (clampI f)) (fun y h0 h1 hg x x1 x2 x3 => Int.le_trans (hg x x1 x2 x3) (more_good HR.out mf mt x (by omega) x3))
    omega
  have KG := Lib.hid (fun (X : World) S' (hx : USt X S' (changeU (addF (byU 2)) L (mf, mt))) => early_at hx HC.out.1 f mm W)
  obtain ⟨x1, hx1⟩ : ∃ x, x = earlU L f (mm - 1) W := ⟨_, rfl⟩
  obtain ⟨x2, hx2⟩ : ∃ x, x = earlU L f mm (W - 1) := ⟨_, rfl⟩
  obtain ⟨x3, hx3⟩ : ∃ x, x = earlU L 0 mm W := ⟨_, rfl⟩
  obtain ⟨x4, hx4⟩ : ∃ x, x = earlU (changeU (addF (byU 2)) L (mf, mt)) f mm W := ⟨_, rfl⟩
  rw [← hx1] at hg1
  rw [← hx2] at hg2
  rw [← hx3] at hg3
  rw [← hx4] at hg4 KG
  have hd1 : decide (x1 > t) = false := decide_eq_false hg1
  have hd2 : decide (x2 > t) = false := decide_eq_false hg2
  have hd3 : decide (x3 > t) = false := decide_eq_false hg3
  have hd4 : decide (x4 > t) = false := decide_eq_false hg4
  have KE0 := Lib.hid (fun X hx => ht ▸ KE.out X hx f mm W)
  have KE1 := Lib.hid (fun X hx => hx1 ▸ KE.out X hx f (mm - 1) W)
  have KE2 := Lib.hid (fun X hx => hx2 ▸ KE.out X hx f mm (W - 1))
  have KE3 := Lib.hid (fun X hx => hx3 ▸ KE.out X hx 0 mm W)
  have KN1 := Lib.hid (fun X => (show Calls Try.prog 38 #[.pointer none, .int .i64 7, .int .i64 5, .int .i64 0] X fun e w' => e = .returned (.int .i64 7) ∧ Below X.heap.size X w' by
    have := early_no (X := X) (v := .pointer none) (.inl rfl) 7 5 0
    rwa [show earlU [(0, 0)] 7 5 0 = 7 by decide +kernel] at this))
  have KN2 := Lib.hid (fun X => (show Calls Try.prog 38 #[.pointer none, .int .i64 7, .int .i64 5, .int .i64 1] X fun e w' => e = .returned (.int .i64 1099511627776) ∧ Below X.heap.size X w' by
    have := early_no (X := X) (v := .pointer none) (.inl rfl) 7 5 1
    rwa [show earlU [(0, 0)] 7 5 1 = 1099511627776 by decide +kernel] at this))
  have KF := Lib.hid (fun X => fits_empty (.pointer none) 3 3 9 (Int.le_refl _) X)
  clear hg1 hg2 hg3 hg4 ht hx1 hx2 hx3 hx4 KE
  refine (KE0.out _ HB2.out).mono ?_
  rintro e W3 ⟨rfl, hb⟩
  have HB3 := Lib.hid (below_next HB2.out hb)
  clear hb c0 c1 c2
  have c0 := cell_of_block (o := 0) ((HB3.out.block _ hw0).trans N0.out) rfl
  have c1 := cell_of_block (o := 1) ((HB3.out.block _ hw0).trans N0.out) rfl
  have c2 := cell_of_block (o := 2) ((HB3.out.block _ hw0).trans N0.out) rfl
  have hwm : IntKind.i64.wrap (mm - 1) = mm - 1 := by rw [IntKind.wrap_i64]; omega
  have hwW : -1000 < W → IntKind.i64.wrap (W - 1) = W - 1 := fun h => by rw [IntKind.wrap_i64]; omega
  go_wp2_with fail
  refine (KE1.out _ HB3.out).mono ?_
  rintro e W4 ⟨rfl, hb⟩
  have HB4 := Lib.hid (below_next HB3.out hb)
  clear hb c0 c1 c2
  have c0 := cell_of_block (o := 0) ((HB4.out.block _ hw0).trans N0.out) rfl
  have c1 := cell_of_block (o := 1) ((HB4.out.block _ hw0).trans N0.out) rfl
  have c2 := cell_of_block (o := 2) ((HB4.out.block _ hw0).trans N0.out) rfl
  by_cases hg : -1000 < W
  case pos =>
    have hdg : decide (W > -1000) = true := decide_eq_true hg
    have hwW1 := hwW hg
    clear hwW
    go_wp2_with fail
    refine (KE2.out _ HB4.out).mono ?_
    rintro e W5 ⟨rfl, hb⟩
    have HB5 := Lib.hid (below_next HB4.out hb)
    clear hb c0 c1 c2
    have c0 := cell_of_block (o := 0) ((HB5.out.block _ hw0).trans N0.out) rfl
    have c1 := cell_of_block (o := 1) ((HB5.out.block _ hw0).trans N0.out) rfl
    have c2 := cell_of_block (o := 2) ((HB5.out.block _ hw0).trans N0.out) rfl
    go_wp2_with fail
    refine (KE3.out _ HB5.out).mono ?_
    rintro e W6 ⟨rfl, hb⟩
    have HB6 := Lib.hid (below_next HB5.out hb)
    clear hb c0 c1 c2
    have c0 := cell_of_block (o := 0) ((HB6.out.block _ hw0).trans N0.out) rfl
    have c1 := cell_of_block (o := 1) ((HB6.out.block _ hw0).trans N0.out) rfl
    have c2 := cell_of_block (o := 2) ((HB6.out.block _ hw0).trans N0.out) rfl
    go_wp2_with fail
    refine (clone_any (HU.out.below HB6.out)).mono ?_
    rintro e Wa ⟨S', rfl, hS', hua, hba⟩
    have HBa := Lib.hid (below_next HB6.out hba)
    have HUa := Lib.hid hua
    have m0 := cell_of_block (o := 0) ((HBa.out.block _ hw1).trans N1.out) rfl
    have m1 := cell_of_block (o := 1) ((HBa.out.block _ hw1).trans N1.out) rfl
    have hsz := HB6.out.size
    clear hua hba c0 c1 c2
    go_wp2_with fail
    refine (add_r HUa.out HR.out (by omega) mf mt 2).mono ?_
    rintro e Wb ⟨rfl, hub, hfb⟩
    have hwb : Below W2.heap.size W2 Wb := HBa.out.trans (hfb.below HBa.out.size (fun j hj => by have hj' : j = S' := hj; omega))
    have HBb := Lib.hid hwb
    have HUb := Lib.hid hub
    clear hub hfb hwb m0 m1
    have c0 := cell_of_block (o := 0) ((HBb.out.block _ hw0).trans N0.out) rfl
    have c2 := cell_of_block (o := 2) ((HBb.out.block _ hw0).trans N0.out) rfl
    go_wp2_with fail
    refine (KG.out _ _ HUb.out).mono ?_
    rintro e Wc ⟨rfl, hb⟩
    have HBc := Lib.hid (below_next HBb.out hb)
    clear hb c0 c2
    go_wp2_with fail
    refine (KN1.out _).mono ?_
    rintro e Wd ⟨rfl, hb⟩
    have HBd := Lib.hid (below_next HBc.out hb)
    clear hb
    go_wp2_with fail
    refine (KN2.out _).mono ?_
    rintro e We ⟨rfl, hb⟩
    have HBe := Lib.hid (below_next HBd.out hb)
    clear hb
    go_wp2_with fail
    refine (KF.out _).mono ?_
    rintro e Wf ⟨rfl, hb⟩
    have HBf := Lib.hid (below_next HBe.out hb)
    clear hb
    go_wp2_with fail
    refine (K1.out _).mono ?_
    rintro e Wg ⟨rfl, hb⟩
    have HBg := Lib.hid (below_next HBf.out hb)
    clear hb
    go_wp2_with fail
    go_ret
    exact ⟨rfl, HB.out.trans (HBg.out.mono HB.out.size)⟩
  case neg =>
    have hdg : decide (W > -1000) = false := decide_eq_false hg
    clear hwW
    go_wp2_with fail
    refine (KE3.out _ HB4.out).mono ?_
    rintro e W5 ⟨rfl, hb⟩
    have HB5 := Lib.hid (below_next HB4.out hb)
    clear hb c0 c1 c2
    have c0 := cell_of_block (o := 0) ((HB5.out.block _ hw0).trans N0.out) rfl
    have c1 := cell_of_block (o := 1) ((HB5.out.block _ hw0).trans N0.out) rfl
    have c2 := cell_of_block (o := 2) ((HB5.out.block _ hw0).trans N0.out) rfl
    go_wp2_with fail
    refine (clone_any (HU.out.below HB5.out)).mono ?_
    rintro e Wa ⟨S', rfl, hS', hua, hba⟩
    have HBa := Lib.hid (below_next HB5.out hba)
    have HUa := Lib.hid hua
    have m0 := cell_of_block (o := 0) ((HBa.out.block _ hw1).trans N1.out) rfl
    have m1 := cell_of_block (o := 1) ((HBa.out.block _ hw1).trans N1.out) rfl
    have hsz := HB5.out.size
    clear hua hba c0 c1 c2
    go_wp2_with fail
    refine (add_r HUa.out HR.out (by omega) mf mt 2).mono ?_
    rintro e Wb ⟨rfl, hub, hfb⟩
    have hwb : Below W2.heap.size W2 Wb := HBa.out.trans (hfb.below HBa.out.size (fun j hj => by have hj' : j = S' := hj; omega))
    have HBb := Lib.hid hwb
    have HUb := Lib.hid hub
    clear hub hfb hwb m0 m1
    have c0 := cell_of_block (o := 0) ((HBb.out.block _ hw0).trans N0.out) rfl
    have c2 := cell_of_block (o := 2) ((HBb.out.block _ hw0).trans N0.out) rfl
    go_wp2_with fail
    refine (KG.out _ _ HUb.out).mono ?_
    rintro e Wc ⟨rfl, hb⟩
    have HBc := Lib.hid (below_next HBb.out hb)
    clear hb c0 c2
    go_wp2_with fail
    refine (KN1.out _).mono ?_
    rintro e Wd ⟨rfl, hb⟩
    have HBd := Lib.hid (below_next HBc.out hb)
    clear hb
    go_wp2_with fail
    refine (KN2.out _).mono ?_
    rintro e We ⟨rfl, hb⟩
    have HBe := Lib.hid (below_next HBd.out hb)
    clear hb
    go_wp2_with fail
    refine (KF.out _).mono ?_
    rintro e Wf ⟨rfl, hb⟩
    have HBf := Lib.hid (below_next HBe.out hb)
    clear hb
    go_wp2_with fail
    refine (K1.out _).mono ?_
    rintro e Wg ⟨rfl, hb⟩
    have HBg := Lib.hid (below_next HBf.out hb)
    clear hb
    go_wp2_with fail
    go_ret
    exact ⟨rfl, HB.out.trans (HBg.out.mono HB.out.size)⟩
end Go.Proofs.Ythdljigcfhjikaa
namespace Go.Proofs.Ythdljigcfhjikaa
set_option linter.unusedVariables false
open Go.ChangeShapes Go.WideShapes Go.ChangeAt Go.RowKit
theorem startsGo_len (F m W : Int) : ∀ (rs : List (Int × Int × Int)), (startsGo F m W rs none).length ≤ rs.length ∧ ∀ a, (startsGo F m W rs (some a)).length ≤ rs.length + 1
  | [] => ⟨Nat.le_refl _, fun a => by unfold startsGo; split <;> simp⟩
  | r :: rs => by
    obtain ⟨h1, h2⟩ := startsGo_len F m W rs
    constructor
    · unfold startsGo
      simp only [List.length_cons]
      split
      · exact h2 _
      · omega
    · intro a
      unfold startsGo
      simp only [List.length_cons]
      split
      · have := h2 a; omega
      · rw [List.length_append]
        split <;> simp <;> omega
theorem startsU_len (L : List (Int × Int)) (F m W : Int) : (startsU L F m W).length ≤ L.length := by
  unfold startsU
  have := (startsGo_len F m W (runsU L)).1
  have h : (runsU L).length = L.length := by unfold runsU; simp
  omega
/-- is a time in one of the spans? -/
def anyH (R : List (Int × Int)) (T : Int) : Bool := R.any fun s => holdsI s T
theorem anyH_next {R : List (Int × Int)} {k : Nat} (h : k < R.length) (T : Int) : anyH (R.take (k + 1)) T = (anyH (R.take k) T || holdsI (R.getD k (0, 0)) T) := by
  unfold anyH
  rw [List.take_add_one, List.getElem?_eq_getElem h, List.any_append, List.getD_eq_getElem?_getD, List.getElem?_eq_getElem h]
  simp
theorem holds_span {s : Int × Int} {T : Int} (h : 0 ≤ s.1 ∧ s.1 < s.2 ∧ s.2 ≤ 1099511627776) (hT : 0 ≤ T ∧ T ≤ 1099511627776) : holdsI s T = true ↔ s.1 ≤ T ∧ T < s.2 := by
  unfold holdsI
  rw [clampI_of h.1 (by omega), clampI_of (n := s.2) (by omega) h.2.2, clampI_of hT.1 hT.2]
  simp
theorem right_span {s : Int × Int} (h : 0 ≤ s.1 ∧ s.1 < s.2 ∧ s.2 ≤ 1099511627776) : rightI s = true := by
  unfold rightI
  rw [clampI_of h.1 (by omega), clampI_of (n := s.2) (by omega) h.2.2]
  simp
  omega
theorem anyH_good {g : Int → Int} {F m W : Int} {R : List (Int × Int)} (h : StartsOk g F m W 0 R) {T : Int} (hT : 0 ≤ T ∧ T < 1099511627776) : anyH R T = true ↔ F ≤ T ∧ GoodF g m W T := by
  unfold anyH
  rw [List.any_eq_true, ← h.iff T hT.1 hT.2]
  constructor
  · rintro ⟨s, hs, hh⟩
    obtain ⟨q1, q2, q3, q4⟩ := h.low s hs
    exact ⟨s, hs, (holds_span ⟨q1, q3, q4⟩ ⟨hT.1, by omega⟩).1 hh⟩
  · rintro ⟨s, hs, hh⟩
    obtain ⟨q1, q2, q3, q4⟩ := h.low s hs
    exact ⟨s, hs, (holds_span ⟨q1, q3, q4⟩ ⟨hT.1, by omega⟩).2 hh⟩
theorem getD_mem {R : List (Int × Int)} {k : Nat} (h : k < R.length) : R.getD k (0, 0) ∈ R := by
  rw [List.getD_eq_getElem?_getD, List.getElem?_eq_getElem h]; exact List.getElem_mem h
theorem rise_next {g : Int → Int} {F m W : Int} {R : List (Int × Int)} (h : StartsOk g F m W 0 R) {k : Nat} (hk : k + 1 < R.length) : (R.getD k (0, 0)).2 < (R.getD (k + 1) (0, 0)).1 := by
  have := List.pairwise_iff_getElem.1 h.rise k (k + 1) (by omega) hk (by omega)
  rw [getD_of hk, getD_of (show k < R.length by omega)]
  exact this
theorem cutI_in {s T : Int × Int} (h : (cutI s T).1 < (cutI s T).2) : clampI s.1 ≤ (cutI s T).1 ∧ clampI T.1 ≤ (cutI s T).1 ∧ (cutI s T).2 ≤ clampI s.2 ∧ (cutI s T).2 ≤ clampI T.2 ∧ ((cutI s T).2 = clampI s.2 ∨ (cutI s T).2 = clampI T.2) := by
  unfold cutI at *
  split at h
  · simp at h
  · rename_i hc
    rw [if_neg hc]
    unfold bothT bothF
    simp only
    omega
theorem mem_ins {T : Int × Int} : ∀ {R : List (Int × Int)} {s : Int × Int}, s ∈ insU T R → s ∈ R ∧ (cutI s T).1 < (cutI s T).2
  | [], s, h => by unfold insU at h; cases h
  | r :: R, s, h => by
    unfold insU at h
    rw [List.takeWhile_cons] at h
    split at h
    · rename_i hr
      rcases List.mem_cons.1 h with rfl | h
      · exact ⟨List.mem_cons_self, by simpa using hr⟩
      · obtain ⟨h1, h2⟩ := mem_ins (R := R) h
        exact ⟨List.mem_cons_of_mem _ h1, h2⟩
    · cases h
/-- what the law asks of the last time that is told -/
theorem last_spec {L : List (Int × Int)} (hr : RightU L) {g h m W : Int} (hm : 1 ≤ m) {o1 : Int} {o2 : Bool} (ho : accU (g, h) (insU (g, h) (startsU L (clampI g) m W)) = (o1, o2)) :
    (o2 = false → o1 = 0) ∧ (o2 = true → 0 ≤ o1 ∧ o1 < 1099511627776 ∧ holdsI (g, h) o1 = true ∧ GoodF (lvl 0 L) m W o1 ∧ (o1 + 1 < 1099511627776 → holdsI (g, h) (o1 + 1) = true → ¬ GoodF (lvl 0 L) m W (o1 + 1))) := by
  have hS := starts_ok hr (F := clampI g) (W := W) (clampI_le g).1 hm
  unfold accU at ho
  cases hl : (insU (g, h) (startsU L (clampI g) m W)).getLast? with
  | none =>
    rw [hl] at ho
    cases ho
    exact ⟨fun _ => rfl, fun e => by cases e⟩
  | some s =>
    rw [hl] at ho
    injection ho with e1 e2
    subst e2
    obtain ⟨hs, hc⟩ := mem_ins (List.mem_of_getLast? hl)
    obtain ⟨q1, q2, q3, q4⟩ := hS.low s hs
    have hb := cutI_le s (g, h)
    obtain ⟨i1, i2, i3, i4, i5⟩ := cutI_in hc
    have hg := clampI_le g
    have hh := clampI_le h
    rw [clampI_of q1 (by omega)] at i1
    rw [clampI_of (n := s.2) (by omega) q4] at i3 i5
    simp only at i2 i4 i5
    refine ⟨fun e => (by cases e), fun _ => ⟨by omega, by omega, ?_, ?_, fun h1 h2 h3 => ?_⟩⟩
    · unfold holdsI
      simp only
      rw [clampI_of (n := o1) (by omega) (by omega), decide_eq_true (by omega), decide_eq_true (by omega)]
      rfl
    · exact ((hS.iff o1 (by omega) (by omega)).1 ⟨s, hs, by omega, by omega⟩).2
    · unfold holdsI at h2
      simp only [Bool.and_eq_true, decide_eq_true_eq] at h2
      rw [clampI_of (n := o1 + 1) (by omega) (by omega)] at h2
      obtain ⟨s', hs', p1, p2⟩ := (hS.iff (o1 + 1) (by omega) h1).2 ⟨by omega, h3⟩
      have hsame : s.2 = o1 + 1 := by omega
      obtain ⟨i, hi, rfl⟩ := List.mem_iff_getElem.1 hs
      obtain ⟨j, hj, rfl⟩ := List.mem_iff_getElem.1 hs'
      obtain ⟨p3, p4, p5, p6⟩ := hS.low _ hs'
      rcases Nat.lt_trichotomy i j with hij | hij | hij
      · have := List.pairwise_iff_getElem.1 hS.rise i j hi hj hij; omega
      · subst hij; omega
      · have := List.pairwise_iff_getElem.1 hS.rise j i hj hi hij; omega
end Go.Proofs.Ythdljigcfhjikaa
namespace Go.Proofs.Ythdljigcfhjikaa
set_option linter.unusedVariables false
open Go.ChangeShapes Go.WideShapes Go.ChangeAt Go.RowKit
attribute [local go_sem ↓] Go.wp_at_zero Go.wp_at_succ comesTo_value_eq comesTo_skip_eq comesTo_enter_eq Rl.comesToR_value_eq Rl.comesToR_skip_eq Rl.comesToR_enter_eq

theorem listR_len (first : Int) (C : List ChgC) : (listR first C).length ≤ (timesU C).length := by
  unfold listR
  have key : ∀ (ts : List Int) (l : List (Int × Int)), (ts.foldl (fun l t => layU l t (ratU first C t)) l).length ≤ l.length + ts.length := by
    intro ts
    induction ts with
    | nil => intro l; simp
    | cons t r ih =>
      intro l
      rw [List.foldl_cons, List.length_cons]
      have h1 := ih (layU l t (ratU first C t))
      have h2 := layU_len l t (ratU first C t)
      omega
  have := key (timesU C) []
  simpa using this
theorem steps_few {first : Int} {L : List (Int × Int)} {C : List ChgC} (h : LikeU first L C) (hr : RightU L) (hc : C.length ≤ 24) : L.length ≤ 49 := by
  have h1 := listR_len first C
  rw [like_list h hr] at h1
  have h2 := timesU_len C
  omega
set_option maxRecDepth 100000 in
set_option maxHeartbeats 16000000 in
theorem spansL_any (lad : Option Addr) (ll lcap : Nat) (A : Nat → ActU) (f n W g h t0 : Int) (w : World) (hA : ActsU w lad ll A) :
    Calls Try.prog 11 #[.slice lad ll lcap, .agg #[.int .i64 f, .int .i64 n, .int .i64 W, .int .i64 g, .int .i64 h], .int .i64 t0] w fun e w' => e = .returned (.bool true) ∧ Below w.heap.size w w' := by
  have hmx : Try.prog.follows .mixedOrders = true := by kernel_rfl
  have K1 := Lib.hid (fun W => fit_one W)
  have hb0 := below_alloc (Below.refl _ w) (.cells #[.int .i64 f, .int .i64 n, .int .i64 W, .int .i64 g, .int .i64 h] 70)
  have n0 := World.alloc_heap_new w (.cells #[.int .i64 f, .int .i64 n, .int .i64 W, .int .i64 g, .int .i64 h] 70)
  have hA0 := actsU_below hA hb0
  have KP := Lib.hid (play_any lad ll lcap A 4 10 (by decide) _ hA0)
  clear hA hA0
  go_enter Try.func11, Try.ntmps11
  go_upto_region 1 with fail
  generalize w.alloc (.cells #[.int .i64 f, .int .i64 n, .int .i64 W, .int .i64 g, .int .i64 h] 70) = W0 at *
  go_wp2_with fail
  refine KP.out.mono ?_
  rintro e W1 ⟨S, v, L, C, rfl, hS, hu, hr, hl, hrow, hcl, hlk, hb1⟩
  obtain ⟨vad, vn, vcp, rfl⟩ : ∃ a n c, v = .slice a n c := by obtain ⟨a, c, e⟩ := hrow.form; exact ⟨_, _, _, e⟩
  have hfew := steps_few hlk hr hcl
  have hb2 := below_alloc (Below.refl _ W1) (.cells #[.int .i64 4, .slice vad vn vcp] 29)
  have hb12 := below_next hb1 hb2
  have n0 := (hb12.block _ (Array.getElem?_eq_some_iff.1 n0).1).trans n0
  have HU := Lib.hid (hu.below hb2)
  have HB := Lib.hid (below_next hb0 hb12)
  have HR := Lib.hid hr
  clear hu hr hrow hlk hcl hb0 hb1 hb2 hb12 KP
  go_upto_region 2 with fail
  generalize W1.alloc (.cells #[.int .i64 4, .slice vad vn vcp] 29) = W2 at *
  have c0 := cell_of_block (o := 0) n0 rfl
  have c1 := cell_of_block (o := 1) n0 rfl
  have c2 := cell_of_block (o := 2) n0 rfl
  have hw0 := (Array.getElem?_eq_some_iff.1 n0).1
  have N0 := Lib.hid n0
  have HB2 := Lib.hid (Below.refl W2.heap.size W2)
  clear n0
  have hk := mask_255 n
  obtain ⟨mm, hmm⟩ : ∃ mm, mm = 1 + n % 256 := ⟨_, rfl⟩
  have hm1 : 1 ≤ mm ∧ mm ≤ 256 := by omega
  have hw : IntKind.i64.wrap (1 + n % 256) = mm := by rw [IntKind.wrap_i64]; omega
  have hF := clampI_le f
  have hT := clampI_le t0
  have KC := Lib.hid (fun X => clamp_any f X)
  have KT := Lib.hid (fun X => clamp_any t0 X)
  obtain ⟨F, hFe⟩ : ∃ F, F = clampI f := ⟨_, rfl⟩
  obtain ⟨T, hTe⟩ : ∃ T, T = clampI t0 := ⟨_, rfl⟩
  rw [← hFe] at hF KC
  rw [← hTe] at hT KT
  clear hFe hTe
  have hFF : clampI F = F := clampI_of hF.1 hF.2
  have KS := Lib.hid (fun (X : World) (hx : Below W2.heap.size W2 X) => spans_any (HU.out.below hx) HR.out (by omega) F mm W)
  rw [hFF, many_of hm1.1 (by omega)] at KS
  clear hFF
  have hso := starts_ok HR.out (F := F) (m := mm) (W := W) hF.1 hm1.1
  have hRl := startsU_len L F mm W
  have KL := Lib.hid (fun (X : World) (hx : Below W2.heap.size W2 X) => latest_any (w := X) (v := .pointer (some ⟨S, 0, none⟩)) g h mm W HR.out HU.out.len (fun Y hy => levels_any ((HU.out.below hx).below hy)))
  rw [many_of hm1.1 (by omega)] at KL
  obtain ⟨o1, o2, hoe⟩ : ∃ a b, accU (g, h) (insU (g, h) (startsU L (clampI g) mm W)) = (a, b) := ⟨_, _, rfl⟩
  have hls := last_spec HR.out hm1.1 hoe
  rw [hoe] at KL
  simp only at KL
  clear hoe
  obtain ⟨R, hRe⟩ : ∃ R, R = startsU L F mm W := ⟨_, rfl⟩
  rw [← hRe] at hso hRl KS
  clear hRe
  have HSO := Lib.hid hso
  have HLS := Lib.hid hls
  clear hso hls
  have KF := Lib.hid (fun (X : World) (hx : Below W2.heap.size W2 X) a b => fits_any (HU.out.below hx) a b W)
  have KO := Lib.hid (fun (X : World) a => of_any a mm X)
  have KH := Lib.hid (fun (X : World) a b x => holds_any a b x X)
  have KR := Lib.hid (fun (X : World) a b => right_any a b X)
  have KEm := Lib.hid (fun (X : World) a b => empty_any a b X)
  go_wp2_with fail
  rw [← hmm]
  clear hmm hk hw
  refine (KT.out _).mono ?_
  rintro e w' ⟨rfl, rfl⟩
  go_wp2_with fail
  refine (KC.out _).mono ?_
  rintro e w' ⟨rfl, rfl⟩
  go_wp2_with fail
  refine (KS.out _ HB2.out).mono ?_
  rintro e W3 ⟨vx, rfl, hox, hb3⟩
  have HB3 := Lib.hid hb3
  obtain ⟨ad, cap, rfl, hcells⟩ : ∃ ad cap, vx = .slice ad R.length cap ∧ ∀ k, k < R.length → ∃ gr, ad = some ⟨gr, 0, none⟩ ∧ gr < W3.heap.size ∧ W3.cell? ⟨gr, k * 2, none⟩ = some (.int .i64 (R.getD k (0, 0)).1) ∧ W3.cell? ⟨gr, k * 2 + 1, none⟩ = some (.int .i64 (R.getD k (0, 0)).2) := by
    rcases hox.form with ⟨e1, e2⟩ | ⟨gr, cc, e1, e2, e3⟩
    · subst e1
      exact ⟨none, 0, e2, fun k hk => absurd hk (Nat.not_lt_zero _)⟩
    · exact ⟨_, cc, e1, fun k hk => ⟨gr, rfl, World.block_lt_of_cell? W3 _ (e3 k hk).1, e3 k hk⟩⟩
  have HCells := Lib.hid hcells
  clear hb3 c0 c1 c2 hox hcells
  go_wp2_with fail
  go_loopw [11, 13] (fun b i wr => ∃ k : Nat, k ≤ R.length ∧ b = .bool (anyH (R.take k) T) ∧ i = .int .i64 k ∧ Below W3.heap.size W3 wr) (fun _ i _ => R.length - (intOf i).toNat)
  case atStart => exact ⟨0, Nat.zero_le _, rfl, rfl, Below.refl _ _⟩
  case round =>
    obtain ⟨k, hk, rfl, rfl, hBr⟩ := hrel
    have HBr := Lib.hid (below_next HB3.out hBr)
    by_cases hlt : k < R.length
    case pos =>
      obtain ⟨gr, rfl, hgr, e0, e1⟩ := HCells.out k hlt
      have hlt' : (k : Int) < (R.length : Int) := by omega
      have x0 := (hBr.cell (p := ⟨gr, k * 2, none⟩) hgr).trans e0
      have x1 := (hBr.cell (p := ⟨gr, k * 2 + 1, none⟩) hgr).trans e1
      have hwk : IntKind.i64.wrap ((k : Int) + 1) = ((k + 1 : Nat) : Int) := by rw [IntKind.wrap_i64]; omega
      have hlow := HSO.out.low _ (getD_mem hlt)
      have hnx := anyH_next hlt T
      have hrt : rightI ((R.getD k (0, 0)).1, (R.getD k (0, 0)).2) = true := right_span ⟨hlow.1, hlow.2.2⟩
      have hem : decide (clampI (R.getD k (0, 0)).2 ≤ clampI (R.getD k (0, 0)).1) = false := decide_eq_false (by rw [clampI_of hlow.1 (by omega), clampI_of (n := (R.getD k (0, 0)).2) (by omega) hlow.2.2.2]; omega)
      have hpv : ∀ j, k = j + 1 → W3.cell? ⟨gr, j * 2 + 1, none⟩ = some (.int .i64 (R.getD j (0, 0)).2) ∧ (R.getD j (0, 0)).2 < (R.getD k (0, 0)).1 := fun j hj => by
        obtain ⟨gr', e, _, _, e3⟩ := HCells.out j (by omega)
        cases e
        subst hj
        exact ⟨e3, rise_next HSO.out hlt⟩
      have hhs : holdsI ((R.getD k (0, 0)).1, (R.getD k (0, 0)).2) T = holdsI (R.getD k (0, 0)) T := rfl
      obtain ⟨s1, hs1⟩ : ∃ s, s = (R.getD k (0, 0)).1 := ⟨_, rfl⟩
      obtain ⟨s2, hs2⟩ : ∃ s, s = (R.getD k (0, 0)).2 := ⟨_, rfl⟩
      obtain ⟨hv, hhv⟩ : ∃ b, b = holdsI (R.getD k (0, 0)) T := ⟨_, rfl⟩
      rw [← hs1, ← hs2, ← hhv] at hhs
      rw [← hhv] at hnx
      rw [← hs1] at x0
      rw [← hs2] at x1
      rw [← hs1, ← hs2] at hrt hem hlow
      rw [← hs1] at hpv
      obtain ⟨pb, hpb⟩ : ∃ b, b = anyH (R.take k) T := ⟨_, rfl⟩
      rw [← hpb] at hnx ⊢
      clear hs1 hs2 hhv hpb e0 e1
      have HPV := Lib.hid hpv
      have HNX := Lib.hid hnx
      have KH1 := Lib.hid (fun X => hhs ▸ KH.out X s1 s2 T)
      have KR1 := Lib.hid (fun X => hrt ▸ KR.out X s1 s2)
      have KE1 := Lib.hid (fun X => hem ▸ KEm.out X s1 s2)
      have hlo : decide (s1 < F) = false := decide_eq_false (by omega)
      clear hpv hnx hhs hrt hem
      go_upto_region 10 with fail
      go_cut [11] (fun s wx => s = .bool (pb || hv) ∧ Below wr.heap.size wr wx)
      case first =>
        cases pb with
        | true =>
          go_wp2_with fail
          go_meet
          exact ⟨rfl, Below.refl _ _⟩
        | false =>
          go_wp2_with fail
          refine (KH1.out _).mono ?_
          rintro e Wh ⟨rfl, hbh⟩
          go_wp2_with fail
          go_meet
          exact ⟨rfl, hbh⟩
      case rest =>
      obtain ⟨rfl, hbh⟩ := hcut
      have hBx := below_next hBr hbh
      have x0 := (hbh.cell (p := ⟨gr, k * 2, none⟩) (Nat.lt_of_lt_of_le hgr hBr.size)).trans x0
      have x1 := (hbh.cell (p := ⟨gr, k * 2 + 1, none⟩) (Nat.lt_of_lt_of_le hgr hBr.size)).trans x1
      have hz0 := World.block_lt_of_cell? _ _ x0
      go_upto_region 11 with fail
      go_cut [90] (fun s wx => s = .bool false ∧ Below wc.heap.size wc wx)
      case first =>
        by_cases hk0 : k = 0
        case pos =>
          subst hk0
          have hd0 : decide (((0 : Nat) : Int) > 0) = false := rfl
          refine Rl.wp_region_rel (fun a b => Below a.heap.size a b) wc (fun a b c h h' => below_next h h') (fun a => Below.refl _ _) hmx (by kernel_rfl) (Below.refl _ _).drew ?_
          iterate 4 (refine Rl.textR_run ?_ (fun ρ => ?_) (fun ρ W hS hd => ?_) ?_; rotate_left; (focus go_simp); (focus (obtain ⟨hc, hf⟩ := bcell hS; go_simp; first | exact ⟨rfl, Below.refl _ _⟩ | (refine ⟨?_, Below.refl _ _⟩; rfl))); (try go_simp))
          (refine Rl.textR_run ?_ (fun ρ => ?_) (fun ρ W hS hd => ?_) ?_; rotate_left; (focus go_simp); (focus (obtain ⟨hc, hf⟩ := bcell hS; go_simp; refine (KR1.out _).mono ?_; rintro e w1 ⟨rfl, hb⟩; refine ⟨_, rfl, ?_, hb⟩; rfl)); (try go_simp))
          iterate 6 (refine Rl.textR_run ?_ (fun ρ => ?_) (fun ρ W hS hd => ?_) ?_; rotate_left; (focus go_simp); (focus (obtain ⟨hc, hf⟩ := bcell hS; go_simp; first | exact ⟨rfl, Below.refl _ _⟩ | (refine ⟨?_, Below.refl _ _⟩; rfl))); (try go_simp))
          (refine Rl.textR_run ?_ (fun ρ => ?_) (fun ρ W hS hd => ?_) ?_; rotate_left; (focus go_simp); (focus (obtain ⟨hc, hf⟩ := bcell hS; go_simp; refine (KE1.out _).mono ?_; rintro e w1 ⟨rfl, hb⟩; refine ⟨_, rfl, ?_, hb⟩; rfl)); (try go_simp))
          iterate 5 (refine Rl.textR_run ?_ (fun ρ => ?_) (fun ρ W hS hd => ?_) ?_; rotate_left; (focus go_simp); (focus (obtain ⟨hc, hf⟩ := bcell hS; go_simp; first | exact ⟨rfl, Below.refl _ _⟩ | (refine ⟨?_, Below.refl _ _⟩; rfl))); (try go_simp))
          iterate 12 (refine Rl.textR_skip (fun ρ => ?_) ?_; (focus (first | rfl | (go_simp; done) | (go_simp; rfl))); (try go_simp))
          iterate 11 (refine Rl.textR_run ?_ (fun ρ => ?_) (fun ρ W hS hd => ?_) ?_; rotate_left; (focus go_simp); (focus (obtain ⟨hc, hf⟩ := bcell hS; go_simp; first | exact ⟨rfl, Below.refl _ _⟩ | (refine ⟨?_, Below.refl _ _⟩; rfl))); (try go_simp))
          refine Rl.textR_nil ?_
          intro ρ w1 hg hk1
          dsimp only
          go_wp2_with fail
          go_meet
          exact ⟨rfl, hg⟩
        case neg =>
          obtain ⟨j, rfl⟩ : ∃ j, k = j + 1 := ⟨k - 1, by omega⟩
          obtain ⟨hp0, hp1⟩ := HPV.out j rfl
          have y1 := (hBx.cell (p := ⟨gr, j * 2 + 1, none⟩) hgr).trans hp0
          obtain ⟨pv, hpv⟩ : ∃ s, s = (R.getD j (0, 0)).2 := ⟨_, rfl⟩
          rw [← hpv] at y1 hp1
          have hd0 : decide (((j + 1 : Nat) : Int) > 0) = true := decide_eq_true (by omega)
          have hdl : decide (s1 ≤ pv) = false := decide_eq_false (by omega)
          have hwj : IntKind.i64.wrap (((j + 1 : Nat) : Int) - 1) = (j : Int) := by rw [IntKind.wrap_i64]; omega
          have hjr : (j : Int) < (R.length : Int) := by omega
          have hlt2 : (j : Int) + 1 < (R.length : Int) := by omega
          have hwj2 : IntKind.i64.wrap (j : Int) = (j : Int) := by rw [IntKind.wrap_i64]; omega
          have hj0 : (0 : Int) ≤ (j : Int) := by omega
          have hlt3 : (0 : Int) ≤ (j : Int) + 1 := by omega
          have hd1 : decide ((j : Int) + 1 > 0) = true := decide_eq_true (by omega)
          have hwj1 : IntKind.i64.wrap ((j : Int) + 1 - 1) = (j : Int) := by rw [IntKind.wrap_i64]; omega
          clear hpv hp0 hp1
          refine Rl.wp_region_rel (fun a b => Below a.heap.size a b) wc (fun a b c h h' => below_next h h') (fun a => Below.refl _ _) hmx (by kernel_rfl) (Below.refl _ _).drew ?_
          iterate 4 (refine Rl.textR_run ?_ (fun ρ => ?_) (fun ρ W hS hd => ?_) ?_; rotate_left; (focus go_simp); (focus (obtain ⟨hc, hf⟩ := bcell hS; go_simp; first | exact ⟨rfl, Below.refl _ _⟩ | (refine ⟨?_, Below.refl _ _⟩; rfl))); (try go_simp))
          (refine Rl.textR_run ?_ (fun ρ => ?_) (fun ρ W hS hd => ?_) ?_; rotate_left; (focus go_simp); (focus (obtain ⟨hc, hf⟩ := bcell hS; go_simp; refine (KR1.out _).mono ?_; rintro e w1 ⟨rfl, hb⟩; refine ⟨_, rfl, ?_, hb⟩; rfl)); (try go_simp))
          iterate 6 (refine Rl.textR_run ?_ (fun ρ => ?_) (fun ρ W hS hd => ?_) ?_; rotate_left; (focus go_simp); (focus (obtain ⟨hc, hf⟩ := bcell hS; go_simp; first | exact ⟨rfl, Below.refl _ _⟩ | (refine ⟨?_, Below.refl _ _⟩; rfl))); (try go_simp))
          (refine Rl.textR_run ?_ (fun ρ => ?_) (fun ρ W hS hd => ?_) ?_; rotate_left; (focus go_simp); (focus (obtain ⟨hc, hf⟩ := bcell hS; go_simp; refine (KE1.out _).mono ?_; rintro e w1 ⟨rfl, hb⟩; refine ⟨_, rfl, ?_, hb⟩; rfl)); (try go_simp))
          iterate 28 (refine Rl.textR_run ?_ (fun ρ => ?_) (fun ρ W hS hd => ?_) ?_; rotate_left; (focus go_simp); (focus (obtain ⟨hc, hf⟩ := bcell hS; go_simp; first | exact ⟨rfl, Below.refl _ _⟩ | (refine ⟨?_, Below.refl _ _⟩; rfl))); (try go_simp))
          refine Rl.textR_nil ?_
          intro ρ w1 hg hk1
          dsimp only
          go_wp2_with fail
          go_meet
          exact ⟨rfl, hg⟩
      case rest =>
      obtain ⟨rfl, hby⟩ := hcut
      go_wp2_with fail
      go_roundw
      case rel => exact ⟨k + 1, by omega, by rw [HNX.out], by go_num, below_next hBx hby⟩
      case measure => simp [intOf]; omega
    case neg =>
      obtain rfl : k = R.length := by omega
      rw [List.take_length]
      have c2 := cell_of_block (o := 2) ((HBr.out.block _ hw0).trans N0.out) rfl
      have hz2 := World.block_lt_of_cell? _ _ c2
      have hag := fun (hT2 : T < 1099511627776) => anyH_good HSO.out ⟨hT.1, hT2⟩
      obtain ⟨ba, hba⟩ : ∃ b, b = anyH R T := ⟨_, rfl⟩
      rw [← hba] at hag ⊢
      clear hba
      have HAG := Lib.hid hag
      clear hag
      go_upto_region 13 with fail
      go_cut [108] (fun s wx => s = .bool false ∧ Below wr.heap.size wr wx)
      case first =>
        by_cases h1 : T < 1099511627776
        case pos =>
          have hd1 : decide (T < 1099511627776) = true := decide_eq_true h1
          have hag := HAG.out h1
          by_cases h2 : T ≥ F
          case pos =>
            have hd2 : decide (T ≥ F) = true := decide_eq_true h2
            have hfit : fitsU L (clampI T) (addI T mm) W = ba := by
              have := fits_good HR.out (W := W) hT.1 h1 hm1.1 (by omega : mm ≤ 1099511627776)
              cases ba with
              | true => exact this.2 (hag.1 rfl).2
              | false =>
                cases hc : fitsU L (clampI T) (addI T mm) W with
                | false => rfl
                | true => exact absurd (hag.2 ⟨h2, this.1 hc⟩) (by decide)
            have KF1 := Lib.hid (fun (X : World) (hx : Below wr.heap.size wr X) => hfit ▸ KF.out X (below_next HBr.out hx) (clampI T) (addI T mm))
            clear hfit hag
            refine Rl.wp_region_rel (fun a b => Below a.heap.size a b) wr (fun a b c h h' => below_next h h') (fun a => Below.refl _ _) hmx (by kernel_rfl) (Below.refl _ _).drew ?_
            iterate 11 (refine Rl.textR_run ?_ (fun ρ => ?_) (fun ρ W hS hd => ?_) ?_; rotate_left; (focus go_simp); (focus (obtain ⟨hc, hf⟩ := bcell hS; go_simp; first | exact ⟨rfl, Below.refl _ _⟩ | (refine ⟨?_, Below.refl _ _⟩; rfl))); (try go_simp))
            (refine Rl.textR_run ?_ (fun ρ => ?_) (fun ρ W hS hd => ?_) ?_; rotate_left; (focus go_simp); (focus (obtain ⟨hc, hf⟩ := bcell hS; go_simp; refine (KO.out _ _).mono ?_; rintro e w1 ⟨rfl, hb⟩; refine ⟨_, rfl, ?_, hb⟩; rfl)); (try go_simp))
            iterate 2 (refine Rl.textR_run ?_ (fun ρ => ?_) (fun ρ W hS hd => ?_) ?_; rotate_left; (focus go_simp); (focus (obtain ⟨hc, hf⟩ := bcell hS; go_simp; first | exact ⟨rfl, Below.refl _ _⟩ | (refine ⟨?_, Below.refl _ _⟩; rfl))); (try go_simp))
            (refine Rl.textR_run ?_ (fun ρ => ?_) (fun ρ W hS hd => ?_) ?_; rotate_left; (focus go_simp); (focus (obtain ⟨hc, hf⟩ := bcell hS; go_simp; refine (KF1.out _ hS).mono ?_; rintro e w1 ⟨rfl, hb⟩; refine ⟨_, rfl, ?_, hb⟩; rfl)); (try go_simp))
            iterate 3 (refine Rl.textR_run ?_ (fun ρ => ?_) (fun ρ W hS hd => ?_) ?_; rotate_left; (focus go_simp); (focus (obtain ⟨hc, hf⟩ := bcell hS; go_simp; first | exact ⟨rfl, Below.refl _ _⟩ | (refine ⟨?_, Below.refl _ _⟩; rfl))); (try go_simp))
            refine Rl.textR_nil ?_
            intro ρ w1 hg hk1
            dsimp only
            go_wp2_with fail
            go_meet
            exact ⟨rfl, hg⟩
          case neg =>
            have hd2 : decide (T ≥ F) = false := decide_eq_false h2
            have hbf : ba = false := by
              cases ba with
              | false => rfl
              | true => exact absurd (hag.1 rfl).1 h2
            subst hbf
            clear hag
            refine Rl.wp_region_rel (fun a b => Below a.heap.size a b) wr (fun a b c h h' => below_next h h') (fun a => Below.refl _ _) hmx (by kernel_rfl) (Below.refl _ _).drew ?_
            iterate 8 (refine Rl.textR_run ?_ (fun ρ => ?_) (fun ρ W hS hd => ?_) ?_; rotate_left; (focus go_simp); (focus (obtain ⟨hc, hf⟩ := bcell hS; go_simp; first | exact ⟨rfl, Below.refl _ _⟩ | (refine ⟨?_, Below.refl _ _⟩; rfl))); (try go_simp))
            iterate 7 (refine Rl.textR_skip (fun ρ => ?_) ?_; (focus (first | rfl | (go_simp; done) | (go_simp; rfl))); (try go_simp))
            iterate 3 (refine Rl.textR_run ?_ (fun ρ => ?_) (fun ρ W hS hd => ?_) ?_; rotate_left; (focus go_simp); (focus (obtain ⟨hc, hf⟩ := bcell hS; go_simp; first | exact ⟨rfl, Below.refl _ _⟩ | (refine ⟨?_, Below.refl _ _⟩; rfl))); (try go_simp))
            refine Rl.textR_nil ?_
            intro ρ w1 hg hk1
            dsimp only
            go_wp2_with fail
            go_meet
            exact ⟨rfl, hg⟩
        case neg =>
          have hd1 : decide (T < 1099511627776) = false := decide_eq_false h1
          refine Rl.wp_region_rel (fun a b => Below a.heap.size a b) wr (fun a b c h h' => below_next h h') (fun a => Below.refl _ _) hmx (by kernel_rfl) (Below.refl _ _).drew ?_
          iterate 3 (refine Rl.textR_run ?_ (fun ρ => ?_) (fun ρ W hS hd => ?_) ?_; rotate_left; (focus go_simp); (focus (obtain ⟨hc, hf⟩ := bcell hS; go_simp; first | exact ⟨rfl, Below.refl _ _⟩ | (refine ⟨?_, Below.refl _ _⟩; rfl))); (try go_simp))
          iterate 14 (refine Rl.textR_skip (fun ρ => ?_) ?_; (focus (first | rfl | (go_simp; done) | (go_simp; rfl))); (try go_simp))
          iterate 1 (refine Rl.textR_run ?_ (fun ρ => ?_) (fun ρ W hS hd => ?_) ?_; rotate_left; (focus go_simp); (focus (obtain ⟨hc, hf⟩ := bcell hS; go_simp; first | exact ⟨rfl, Below.refl _ _⟩ | (refine ⟨?_, Below.refl _ _⟩; rfl))); (try go_simp))
          refine Rl.textR_nil ?_
          intro ρ w1 hg hk1
          dsimp only
          go_wp2_with fail
          go_meet
          exact ⟨rfl, hg⟩
      case rest =>
      obtain ⟨rfl, hby⟩ := hcut
      have HB5 := Lib.hid (below_next HBr.out hby)
      clear hby c2 hBr
      have c2 := cell_of_block (o := 2) ((HB5.out.block _ hw0).trans N0.out) rfl
      have hz2 := World.block_lt_of_cell? _ _ c2
      have c3 := cell_of_block (o := 3) ((HB5.out.block _ hw0).trans N0.out) rfl
      have c4 := cell_of_block (o := 4) ((HB5.out.block _ hw0).trans N0.out) rfl
      go_wp2_with fail
      refine (KL.out _ HB5.out).mono ?_
      rintro e W6 ⟨rfl, hb6⟩
      have HB6 := Lib.hid (below_next HB5.out hb6)
      clear hb6 c2 c3 c4
      have c2 := cell_of_block (o := 2) ((HB6.out.block _ hw0).trans N0.out) rfl
      have hz2 := World.block_lt_of_cell? _ _ c2
      have c3 := cell_of_block (o := 3) ((HB6.out.block _ hw0).trans N0.out) rfl
      have c4 := cell_of_block (o := 4) ((HB6.out.block _ hw0).trans N0.out) rfl
      cases o2 with
      | false =>
        have ho1 := HLS.out.1 rfl
        subst ho1
        go_upto_region 16 with fail
        go_cut [136] (fun s wx => s = .bool false ∧ Below W6.heap.size W6 wx)
        case first =>
          refine Rl.wp_region_rel (fun a b => Below a.heap.size a b) W6 (fun a b c h h' => below_next h h') (fun a => Below.refl _ _) hmx (by kernel_rfl) (Below.refl _ _).drew ?_
          iterate 2 (refine Rl.textR_run ?_ (fun ρ => ?_) (fun ρ W hS hd => ?_) ?_; rotate_left; (focus go_simp); (focus (obtain ⟨hc, hf⟩ := bcell hS; go_simp; first | exact ⟨rfl, Below.refl _ _⟩ | (refine ⟨?_, Below.refl _ _⟩; rfl))); (try go_simp))
          iterate 15 (refine Rl.textR_skip (fun ρ => ?_) ?_; (focus (first | rfl | (go_simp; done) | (go_simp; rfl))); (try go_simp))
          iterate 1 (refine Rl.textR_run ?_ (fun ρ => ?_) (fun ρ W hS hd => ?_) ?_; rotate_left; (focus go_simp); (focus (obtain ⟨hc, hf⟩ := bcell hS; go_simp; first | exact ⟨rfl, Below.refl _ _⟩ | (refine ⟨?_, Below.refl _ _⟩; rfl))); (try go_simp))
          refine Rl.textR_nil ?_
          intro ρ w1 hg hk1
          dsimp only
          go_wp2_with fail
          go_meet
          exact ⟨rfl, hg⟩
        case rest =>
        obtain ⟨rfl, hb7⟩ := hcut
        have HB7 := Lib.hid (below_next HB6.out hb7)
        clear hb7 c2 c3 c4
        go_upto_region 18 with fail
        go_cut [159] (fun s wx => s = .bool false ∧ Below wc.heap.size wc wx)
        case first =>
          refine Rl.wp_region_rel (fun a b => Below a.heap.size a b) wc (fun a b c h h' => below_next h h') (fun a => Below.refl _ _) hmx (by kernel_rfl) (Below.refl _ _).drew ?_
          iterate 2 (refine Rl.textR_run ?_ (fun ρ => ?_) (fun ρ W hS hd => ?_) ?_; rotate_left; (focus go_simp); (focus (obtain ⟨hc, hf⟩ := bcell hS; go_simp; first | exact ⟨rfl, Below.refl _ _⟩ | (refine ⟨?_, Below.refl _ _⟩; rfl))); (try go_simp))
          iterate 3 (refine Rl.textR_skip (fun ρ => ?_) ?_; (focus (first | rfl | (go_simp; done) | (go_simp; rfl))); (try go_simp))
          iterate 2 (refine Rl.textR_run ?_ (fun ρ => ?_) (fun ρ W hS hd => ?_) ?_; rotate_left; (focus go_simp); (focus (obtain ⟨hc, hf⟩ := bcell hS; go_simp; first | exact ⟨rfl, Below.refl _ _⟩ | (refine ⟨?_, Below.refl _ _⟩; rfl))); (try go_simp))
          iterate 5 (refine Rl.textR_skip (fun ρ => ?_) ?_; (focus (first | rfl | (go_simp; done) | (go_simp; rfl))); (try go_simp))
          iterate 2 (refine Rl.textR_run ?_ (fun ρ => ?_) (fun ρ W hS hd => ?_) ?_; rotate_left; (focus go_simp); (focus (obtain ⟨hc, hf⟩ := bcell hS; go_simp; first | exact ⟨rfl, Below.refl _ _⟩ | (refine ⟨?_, Below.refl _ _⟩; rfl))); (try go_simp))
          iterate 8 (refine Rl.textR_skip (fun ρ => ?_) ?_; (focus (first | rfl | (go_simp; done) | (go_simp; rfl))); (try go_simp))
          iterate 1 (refine Rl.textR_run ?_ (fun ρ => ?_) (fun ρ W hS hd => ?_) ?_; rotate_left; (focus go_simp); (focus (obtain ⟨hc, hf⟩ := bcell hS; go_simp; first | exact ⟨rfl, Below.refl _ _⟩ | (refine ⟨?_, Below.refl _ _⟩; rfl))); (try go_simp))
          refine Rl.textR_nil ?_
          intro ρ w1 hg hk1
          dsimp only
          go_wp2_with fail
          go_meet
          exact ⟨rfl, hg⟩
        case rest =>
        obtain ⟨rfl, hb8⟩ := hcut
        have HB8 := Lib.hid (below_next HB7.out hb8)
        clear hb8
        go_wp2_with fail
        refine (K1.out _).mono ?_
        rintro e Wg ⟨rfl, hb⟩
        have HBg := Lib.hid (below_next HB8.out hb)
        clear hb
        go_wp2_with fail
        go_ret
        exact ⟨rfl, HB.out.trans (HBg.out.mono HB.out.size)⟩
      | true =>
        obtain ⟨p1, p2, p3, p4, p5⟩ := HLS.out.2 rfl
        have hfit := (fits_good HR.out (W := W) p1 p2 hm1.1 (by omega : mm ≤ 1099511627776)).2 p4
        have KF1 := Lib.hid (fun (X : World) (hx : Below W6.heap.size W6 X) => hfit ▸ KF.out X (below_next HB6.out hx) (clampI o1) (addI o1 mm))
        have KH1 := Lib.hid (fun (X : World) => p3 ▸ KH.out X g h o1)
        have HP5 := Lib.hid p5
        clear hfit p3 p4 p5
        go_upto_region 16 with fail
        go_cut [136] (fun s wx => s = .bool false ∧ Below W6.heap.size W6 wx)
        case first =>
          refine Rl.wp_region_rel (fun a b => Below a.heap.size a b) W6 (fun a b c h h' => below_next h h') (fun a => Below.refl _ _) hmx (by kernel_rfl) (Below.refl _ _).drew ?_
          iterate 5 (refine Rl.textR_run ?_ (fun ρ => ?_) (fun ρ W hS hd => ?_) ?_; rotate_left; (focus go_simp); (focus (obtain ⟨hc, hf⟩ := bcell hS; go_simp; first | exact ⟨rfl, Below.refl _ _⟩ | (refine ⟨?_, Below.refl _ _⟩; rfl))); (try go_simp))
          (refine Rl.textR_run ?_ (fun ρ => ?_) (fun ρ W hS hd => ?_) ?_; rotate_left; (focus go_simp); (focus (obtain ⟨hc, hf⟩ := bcell hS; go_simp; refine (KH1.out _).mono ?_; rintro e w1 ⟨rfl, hb⟩; refine ⟨_, rfl, ?_, hb⟩; rfl)); (try go_simp))
          iterate 5 (refine Rl.textR_run ?_ (fun ρ => ?_) (fun ρ W hS hd => ?_) ?_; rotate_left; (focus go_simp); (focus (obtain ⟨hc, hf⟩ := bcell hS; go_simp; first | exact ⟨rfl, Below.refl _ _⟩ | (refine ⟨?_, Below.refl _ _⟩; rfl))); (try go_simp))
          (refine Rl.textR_run ?_ (fun ρ => ?_) (fun ρ W hS hd => ?_) ?_; rotate_left; (focus go_simp); (focus (obtain ⟨hc, hf⟩ := bcell hS; go_simp; refine (KO.out _ _).mono ?_; rintro e w1 ⟨rfl, hb⟩; refine ⟨_, rfl, ?_, hb⟩; rfl)); (try go_simp))
          iterate 2 (refine Rl.textR_run ?_ (fun ρ => ?_) (fun ρ W hS hd => ?_) ?_; rotate_left; (focus go_simp); (focus (obtain ⟨hc, hf⟩ := bcell hS; go_simp; first | exact ⟨rfl, Below.refl _ _⟩ | (refine ⟨?_, Below.refl _ _⟩; rfl))); (try go_simp))
          (refine Rl.textR_run ?_ (fun ρ => ?_) (fun ρ W hS hd => ?_) ?_; rotate_left; (focus go_simp); (focus (obtain ⟨hc, hf⟩ := bcell hS; go_simp; refine (KF1.out _ hS).mono ?_; rintro e w1 ⟨rfl, hb⟩; refine ⟨_, rfl, ?_, hb⟩; rfl)); (try go_simp))
          iterate 3 (refine Rl.textR_run ?_ (fun ρ => ?_) (fun ρ W hS hd => ?_) ?_; rotate_left; (focus go_simp); (focus (obtain ⟨hc, hf⟩ := bcell hS; go_simp; first | exact ⟨rfl, Below.refl _ _⟩ | (refine ⟨?_, Below.refl _ _⟩; rfl))); (try go_simp))
          refine Rl.textR_nil ?_
          intro ρ w1 hg hk1
          dsimp only
          go_wp2_with fail
          go_meet
          exact ⟨rfl, hg⟩
        case rest =>
        obtain ⟨rfl, hb7⟩ := hcut
        have HB7 := Lib.hid (below_next HB6.out hb7)
        clear hb7 c2 c3 c4
        have c2 := cell_of_block (o := 2) ((HB7.out.block _ hw0).trans N0.out) rfl
        have hz2 := World.block_lt_of_cell? _ _ c2
        have c3 := cell_of_block (o := 3) ((HB7.out.block _ hw0).trans N0.out) rfl
        have c4 := cell_of_block (o := 4) ((HB7.out.block _ hw0).trans N0.out) rfl
        have hwo : IntKind.i64.wrap (o1 + 1) = o1 + 1 := by rw [IntKind.wrap_i64]; omega
        go_upto_region 18 with fail
        go_cut [159] (fun s wx => s = .bool false ∧ Below wc.heap.size wc wx)
        case first =>
          by_cases h1 : o1 + 1 < 1099511627776
          case pos =>
            have hd1 : decide (o1 + 1 < 1099511627776) = true := decide_eq_true h1
            cases hh : holdsI (g, h) (o1 + 1) with
            | false =>
              have KH2 := Lib.hid (fun (X : World) => hh ▸ KH.out X g h (o1 + 1))
              clear hh
              refine Rl.wp_region_rel (fun a b => Below a.heap.size a b) wc (fun a b c h h' => below_next h h') (fun a => Below.refl _ _) hmx (by kernel_rfl) (Below.refl _ _).drew ?_
              iterate 11 (refine Rl.textR_run ?_ (fun ρ => ?_) (fun ρ W hS hd => ?_) ?_; rotate_left; (focus go_simp); (focus (obtain ⟨hc, hf⟩ := bcell hS; go_simp; first | exact ⟨rfl, Below.refl _ _⟩ | (refine ⟨?_, Below.refl _ _⟩; rfl))); (try go_simp))
              (refine Rl.textR_run ?_ (fun ρ => ?_) (fun ρ W hS hd => ?_) ?_; rotate_left; (focus go_simp); (focus (obtain ⟨hc, hf⟩ := bcell hS; go_simp; refine (KH2.out _).mono ?_; rintro e w1 ⟨rfl, hb⟩; refine ⟨_, rfl, ?_, hb⟩; rfl)); (try go_simp))
              iterate 2 (refine Rl.textR_run ?_ (fun ρ => ?_) (fun ρ W hS hd => ?_) ?_; rotate_left; (focus go_simp); (focus (obtain ⟨hc, hf⟩ := bcell hS; go_simp; first | exact ⟨rfl, Below.refl _ _⟩ | (refine ⟨?_, Below.refl _ _⟩; rfl))); (try go_simp))
              iterate 8 (refine Rl.textR_skip (fun ρ => ?_) ?_; (focus (first | rfl | (go_simp; done) | (go_simp; rfl))); (try go_simp))
              iterate 1 (refine Rl.textR_run ?_ (fun ρ => ?_) (fun ρ W hS hd => ?_) ?_; rotate_left; (focus go_simp); (focus (obtain ⟨hc, hf⟩ := bcell hS; go_simp; first | exact ⟨rfl, Below.refl _ _⟩ | (refine ⟨?_, Below.refl _ _⟩; rfl))); (try go_simp))
              refine Rl.textR_nil ?_
              intro ρ w1 hg hk1
              dsimp only
              go_wp2_with fail
              go_meet
              exact ⟨rfl, hg⟩
            | true =>
              have hbad := HP5.out h1 hh
              have hfit : fitsU L (clampI (o1 + 1)) (addI (o1 + 1) mm) W = false := by
                cases hc : fitsU L (clampI (o1 + 1)) (addI (o1 + 1) mm) W with
                | false => rfl
                | true => exact absurd ((fits_good HR.out (W := W) (by omega) h1 hm1.1 (by omega : mm ≤ 1099511627776)).1 hc) hbad
              have KH2 := Lib.hid (fun (X : World) => hh ▸ KH.out X g h (o1 + 1))
              have KF2 := Lib.hid (fun (X : World) (hx : Below wc.heap.size wc X) => hfit ▸ KF.out X (below_next HB7.out hx) (clampI (o1 + 1)) (addI (o1 + 1) mm))
              clear hh hfit hbad
              refine Rl.wp_region_rel (fun a b => Below a.heap.size a b) wc (fun a b c h h' => below_next h h') (fun a => Below.refl _ _) hmx (by kernel_rfl) (Below.refl _ _).drew ?_
              iterate 11 (refine Rl.textR_run ?_ (fun ρ => ?_) (fun ρ W hS hd => ?_) ?_; rotate_left; (focus go_simp); (focus (obtain ⟨hc, hf⟩ := bcell hS; go_simp; first | exact ⟨rfl, Below.refl _ _⟩ | (refine ⟨?_, Below.refl _ _⟩; rfl))); (try go_simp))
              (refine Rl.textR_run ?_ (fun ρ => ?_) (fun ρ W hS hd => ?_) ?_; rotate_left; (focus go_simp); (focus (obtain ⟨hc, hf⟩ := bcell hS; go_simp; refine (KH2.out _).mono ?_; rintro e w1 ⟨rfl, hb⟩; refine ⟨_, rfl, ?_, hb⟩; rfl)); (try go_simp))
              iterate 6 (refine Rl.textR_run ?_ (fun ρ => ?_) (fun ρ W hS hd => ?_) ?_; rotate_left; (focus go_simp); (focus (obtain ⟨hc, hf⟩ := bcell hS; go_simp; first | exact ⟨rfl, Below.refl _ _⟩ | (refine ⟨?_, Below.refl _ _⟩; rfl))); (try go_simp))
              (refine Rl.textR_run ?_ (fun ρ => ?_) (fun ρ W hS hd => ?_) ?_; rotate_left; (focus go_simp); (focus (obtain ⟨hc, hf⟩ := bcell hS; go_simp; refine (KO.out _ _).mono ?_; rintro e w1 ⟨rfl, hb⟩; refine ⟨_, rfl, ?_, hb⟩; rfl)); (try go_simp))
              iterate 2 (refine Rl.textR_run ?_ (fun ρ => ?_) (fun ρ W hS hd => ?_) ?_; rotate_left; (focus go_simp); (focus (obtain ⟨hc, hf⟩ := bcell hS; go_simp; first | exact ⟨rfl, Below.refl _ _⟩ | (refine ⟨?_, Below.refl _ _⟩; rfl))); (try go_simp))
              (refine Rl.textR_run ?_ (fun ρ => ?_) (fun ρ W hS hd => ?_) ?_; rotate_left; (focus go_simp); (focus (obtain ⟨hc, hf⟩ := bcell hS; go_simp; refine (KF2.out _ hS).mono ?_; rintro e w1 ⟨rfl, hb⟩; refine ⟨_, rfl, ?_, hb⟩; rfl)); (try go_simp))
              iterate 1 (refine Rl.textR_run ?_ (fun ρ => ?_) (fun ρ W hS hd => ?_) ?_; rotate_left; (focus go_simp); (focus (obtain ⟨hc, hf⟩ := bcell hS; go_simp; first | exact ⟨rfl, Below.refl _ _⟩ | (refine ⟨?_, Below.refl _ _⟩; rfl))); (try go_simp))
              refine Rl.textR_nil ?_
              intro ρ w1 hg hk1
              dsimp only
              go_wp2_with fail
              go_meet
              exact ⟨rfl, hg⟩
          case neg =>
            have hd1 : decide (o1 + 1 < 1099511627776) = false := decide_eq_false h1
            refine Rl.wp_region_rel (fun a b => Below a.heap.size a b) wc (fun a b c h h' => below_next h h') (fun a => Below.refl _ _) hmx (by kernel_rfl) (Below.refl _ _).drew ?_
            iterate 7 (refine Rl.textR_run ?_ (fun ρ => ?_) (fun ρ W hS hd => ?_) ?_; rotate_left; (focus go_simp); (focus (obtain ⟨hc, hf⟩ := bcell hS; go_simp; first | exact ⟨rfl, Below.refl _ _⟩ | (refine ⟨?_, Below.refl _ _⟩; rfl))); (try go_simp))
            iterate 5 (refine Rl.textR_skip (fun ρ => ?_) ?_; (focus (first | rfl | (go_simp; done) | (go_simp; rfl))); (try go_simp))
            iterate 2 (refine Rl.textR_run ?_ (fun ρ => ?_) (fun ρ W hS hd => ?_) ?_; rotate_left; (focus go_simp); (focus (obtain ⟨hc, hf⟩ := bcell hS; go_simp; first | exact ⟨rfl, Below.refl _ _⟩ | (refine ⟨?_, Below.refl _ _⟩; rfl))); (try go_simp))
            iterate 8 (refine Rl.textR_skip (fun ρ => ?_) ?_; (focus (first | rfl | (go_simp; done) | (go_simp; rfl))); (try go_simp))
            iterate 1 (refine Rl.textR_run ?_ (fun ρ => ?_) (fun ρ W hS hd => ?_) ?_; rotate_left; (focus go_simp); (focus (obtain ⟨hc, hf⟩ := bcell hS; go_simp; first | exact ⟨rfl, Below.refl _ _⟩ | (refine ⟨?_, Below.refl _ _⟩; rfl))); (try go_simp))
            refine Rl.textR_nil ?_
            intro ρ w1 hg hk1
            dsimp only
            go_wp2_with fail
            go_meet
            exact ⟨rfl, hg⟩
        case rest =>
        obtain ⟨rfl, hb8⟩ := hcut
        have HB8 := Lib.hid (below_next HB7.out hb8)
        clear hb8 c2 c3 c4
        go_wp2_with fail
        refine (K1.out _).mono ?_
        rintro e Wg ⟨rfl, hb⟩
        have HBg := Lib.hid (below_next HB8.out hb)
        clear hb
        go_wp2_with fail
        go_ret
        exact ⟨rfl, HB.out.trans (HBg.out.mono HB.out.size)⟩
end Go.Proofs.Ythdljigcfhjikaa
