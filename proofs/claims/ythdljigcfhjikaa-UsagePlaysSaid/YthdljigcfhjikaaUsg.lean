/- Levels (layer 10): what change does to each run (its literal). Condition: at most 2^42 steps. -/
import Derived.Test.YthdljigcfhjikaaUsf
import Derived.Deep.DeepCutAuto
namespace Go.Proofs.Ythdljigcfhjikaa
set_option linter.unusedVariables false
open Go.ChangeShapes Go.WideShapes Go.ChangeAt Go.RowKit
attribute [local go_sem ↓] Go.wp_at_zero Go.wp_at_succ comesTo_value_eq comesTo_skip_eq comesTo_enter_eq

def step1 (t : Int × Int) (l : List (Int × Int)) (r : Int × Int × Int) : List (Int × Int) := if r.1 < t.1 then layU l r.1 r.2.2 else l
def step2 (t : Int × Int) (fn : Int → Int) (l : List (Int × Int)) (r : Int × Int × Int) : List (Int × Int) :=
  if clampI (cutI (r.1, r.2.1) t).2 ≤ clampI (cutI (r.1, r.2.1) t).1 then l else layU l (cutI (r.1, r.2.1) t).1 (fn r.2.2)
def step3 (t : Int × Int) (l : List (Int × Int)) (r : Int × Int × Int) : List (Int × Int) := if t.2 < r.2.1 then layU l (maxU r.1 t.2) r.2.2 else l
/-- one span of one level taken into the new steps -/
def stepU (t : Int × Int) (fn : Int → Int) (l : List (Int × Int)) (r : Int × Int × Int) : List (Int × Int) := step3 t (step2 t fn (step1 t l r) r) r
theorem step1_len (t : Int × Int) (l : List (Int × Int)) (r : Int × Int × Int) : (step1 t l r).length ≤ l.length + 1 := by unfold step1; split; exact layU_len _ _ _; omega
theorem step2_len (t : Int × Int) (fn : Int → Int) (l : List (Int × Int)) (r : Int × Int × Int) : (step2 t fn l r).length ≤ l.length + 1 := by unfold step2; split; omega; exact layU_len _ _ _
theorem step3_len (t : Int × Int) (l : List (Int × Int)) (r : Int × Int × Int) : (step3 t l r).length ≤ l.length + 1 := by unfold step3; split; exact layU_len _ _ _; omega
theorem stepU_len (t : Int × Int) (fn : Int → Int) (l : List (Int × Int)) (r : Int × Int × Int) : (stepU t fn l r).length ≤ l.length + 3 := by
  unfold stepU
  have h1 := step1_len t l r
  have h2 := step2_len t fn (step1 t l r) r
  have h3 := step3_len t (step2 t fn (step1 t l r) r) r
  omega
/-- a change under way that keeps a box beside it -/
structure ChgK (w W : World) (z : Nat) (f t : Int) (bf : FuncId) (bc : Array Value) (l : List (Int × Int)) (q : Nat) (o : Obj) : Prop where
  chg : ChgU w W z f t bf bc l
  box : W.heap[q]? = some o
  notRow : NotRow z W q
theorem NotRow.below {z : Nat} {W W' : World} {q : Nat} (h : NotRow z W q) (hl : z + 1 < W.heap.size) (hb : Below W.heap.size W W') : NotRow z W' q := fun v hv => h v (by rw [← hb.block _ hl]; exact hv)
theorem ChgK.below {w W W' : World} {z : Nat} {f t : Int} {bf : FuncId} {bc : Array Value} {l : List (Int × Int)} {q : Nat} {o : Obj} (h : ChgK w W z f t bf bc l q o) (hb : Below W.heap.size W W') : ChgK w W' z f t bf bc l q o :=
  ⟨h.chg.below hb, (hb.block _ (Array.getElem?_eq_some_iff.1 h.box).1).trans h.box, h.notRow.below (by have := h.chg.big; omega) hb⟩
theorem notRow_new {w W : World} {z : Nat} {f t : Int} {bf : FuncId} {bc : Array Value} {l : List (Int × Int)} (h : ChgU w W z f t bf bc l) {q : Nat} (hq : W.heap.size ≤ q) : NotRow z W q := fun v hv e => by
  obtain ⟨v', hv', ho, _⟩ := h.row
  rw [hv] at hv'
  have : v = v' := by injection hv' with hv'; injection hv' with hv'; simpa using hv'
  rw [this] at e
  have := (ho.lt e).2
  omega
theorem lay_keeps {w W : World} {z : Nat} {f t : Int} {bf : FuncId} {bc : Array Value} {l : List (Int × Int)} {q : Nat} {o : Obj} (h : ChgK w W z f t bf bc l q o) (hq : z + 3 ≤ q) (hl : l.length + 1 ≤ 4398046511104) (a lv : Int) :
    Calls Try.prog 83 #[.int .i64 a, .int .i64 lv, .pointer (some ⟨z + 1, 0, none⟩)] W fun e w' => (∃ v, e = .returned v) ∧ ChgK w w' z f t bf bc (layU l a lv) q o := by
  refine (lay_any h.chg hl a lv).mono ?_
  rintro e w' ⟨hv, hc, hk⟩
  have := hk q hq (Array.getElem?_eq_some_iff.1 h.box).1 h.notRow
  exact ⟨hv, hc, this.1.trans h.box, this.2⟩
set_option maxRecDepth 100000 in
set_option maxHeartbeats 8000000 in
theorem visit_any {w W : World} {z : Nat} {f t : Int} {bf : FuncId} {bc : Array Value} {l : List (Int × Int)} (h : ChgU w W z f t bf bc l) (hl : l.length + 3 ≤ 4398046511104) (fn : Int → Int) (hE : Go.Proofs.Enters Try.prog bf)
    (hF : ∀ a W', Below w.heap.size w W' → Calls Try.prog bf (#[.int .i64 a] ++ bc) W' fun e w' => e = .returned (.int .i64 (fn a)) ∧ W' = w') (rf rt lv : Int) :
    Calls Try.prog 84 #[.agg #[.int .i64 rf, .int .i64 rt], .int .i64 lv, .pointer (some ⟨w.heap.size, 0, none⟩), .pointer (some ⟨z + 2, 0, none⟩), .pointer (some ⟨w.heap.size + 1, 0, none⟩)] W
      fun e w' => e = .returned (.bool true) ∧ ChgU w w' z f t bf bc (stepU (f, t) fn l (rf, rt, lv)) := by
  have hmx : Try.prog.follows .mixedOrders = true := by kernel_rfl
  unfold Go.Proofs.Enters at hE
  have HF := Lib.hid hF
  obtain ⟨l1, hl1⟩ : ∃ x, x = step1 (f, t) l (rf, rt, lv) := ⟨_, rfl⟩
  obtain ⟨l2, hl2⟩ : ∃ x, x = step2 (f, t) fn l1 (rf, rt, lv) := ⟨_, rfl⟩
  obtain ⟨l3, hl3⟩ : ∃ x, x = step3 (f, t) l2 (rf, rt, lv) := ⟨_, rfl⟩
  have hst : stepU (f, t) fn l (rf, rt, lv) = l3 := by rw [hl3, hl2, hl1]; rfl
  rw [hst]
  have n1 : l1.length ≤ l.length + 1 := by rw [hl1]; exact step1_len _ _ _
  have n2 : l2.length ≤ l1.length + 1 := by rw [hl2]; exact step2_len _ _ _ _
  have L1 := Lib.hid hl1
  have L2 := Lib.hid hl2
  have L3 := Lib.hid hl3
  clear hF hst hl1 hl2 hl3
  have hA := below_alloc (Below.refl _ W) (.cells #[.int .i64 rf, .int .i64 rt] 25)
  have hN := World.alloc_heap_new W (.cells #[.int .i64 rf, .int .i64 rt] 25)
  have hbig := h.big
  have hnr := (notRow_new h (Nat.le_refl W.heap.size)).below (by omega) hA
  have H1 := Lib.hid (show ChgK w _ z f t bf bc l W.heap.size _ from ⟨h.below hA, hN, hnr⟩)
  have hqb : z + 3 ≤ W.heap.size := hbig
  clear h hA hN hnr hbig
  go_enter Try.func84, Try.ntmps84
  go_upto_region 1 with fail
  generalize W.alloc (.cells #[.int .i64 rf, .int .i64 rt] 25) = W1 at *
  generalize W.heap.size = q at *
  have s0 := cell_of_block (o := 0) H1.out.chg.span rfl
  have r0 := cell_of_block (o := 0) H1.out.box rfl
  go_upto_if 13 with fail
  go_cut [] (fun wx => ChgK w wx z f t bf bc l1 q (.cells #[.int .i64 rf, .int .i64 rt] 25 (0, 0)))
  case first =>
    cases hc : decide (rf < f) with
    | true =>
      have E := Lib.hid (show l1 = layU l rf lv by rw [L1.out]; exact if_pos (of_decide_eq_true hc))
      have y0 := cell_of_block (o := 0) H1.out.chg.lay rfl
      go_wp2_with fail
      refine (lay_keeps H1.out hqb (by omega) rf lv).mono ?_
      rintro e W2 ⟨⟨_, rfl⟩, hk⟩
      have HK := Lib.hid hk
      clear hk
      go_wp2_with fail
      go_meet
      rw [E.out]; exact HK.out
    | false =>
      have E := Lib.hid (show l1 = l by rw [L1.out]; exact if_neg (of_decide_eq_false hc))
      go_wp2_with fail
      go_meet
      rw [E.out]; exact H1.out
  case rest =>
  have H2 := Lib.hid hcut
  clear hcut H1 s0 r0
  have s0 := cell_of_block (o := 0) H2.out.chg.span rfl
  have s1 := cell_of_block (o := 1) H2.out.chg.span rfl
  have r0 := cell_of_block (o := 0) H2.out.box rfl
  have r1 := cell_of_block (o := 1) H2.out.box rfl
  have L2b := Lib.hid (show l2 = if clampI (cutI (rf, rt) (f, t)).2 ≤ clampI (cutI (rf, rt) (f, t)).1 then l1 else layU l1 (cutI (rf, rt) (f, t)).1 (fn lv) from L2.out)
  have KC := Lib.hid (fun W => cut_any rf rt f t W)
  clear L2
  generalize cutI (rf, rt) (f, t) = ci at *
  obtain ⟨c1, c2⟩ := ci
  simp only at KC L2b
  have KE := Lib.hid (fun W => empty_any c1 c2 W)
  go_upto_region 3 with fail
  go_wp2_with fail
  refine (KC.out _).mono ?_
  rintro e W3 ⟨rfl, hb3⟩
  have H3 := Lib.hid (H2.out.below hb3)
  clear hb3 H2 s0 s1 r0 r1
  have hnp3 := notRow_new H3.out.chg (Nat.le_refl W3.heap.size)
  have hp5 := H3.out.chg.big
  have hA := below_alloc (Below.refl _ W3) (.cells #[.int .i64 c1, .int .i64 c2] 25)
  have hnp4 := hnp3.below (by omega) hA
  clear hnp3
  have hN := World.alloc_heap_new W3 (.cells #[.int .i64 c1, .int .i64 c2] 25)
  have H4 := Lib.hid (H3.out.below hA)
  clear hA
  go_upto_region 4 with fail
  generalize W3.alloc (.cells #[.int .i64 c1, .int .i64 c2] 25) = W4 at *
  obtain ⟨p, hp⟩ : ∃ p, p = W3.heap.size := ⟨_, rfl⟩
  rw [← hp] at hN hnp4 hp5 ⊢
  clear hp H3
  have i0 := cell_of_block (o := 0) hN rfl
  have i1 := cell_of_block (o := 1) hN rfl
  go_wp2_with fail
  refine (KE.out _).mono ?_
  rintro e W5 ⟨rfl, hb5⟩
  have H5 := Lib.hid (H4.out.below hb5)
  have HI := Lib.hid ((hb5.block _ (Array.getElem?_eq_some_iff.1 hN).1).trans hN)
  have HNP := Lib.hid (hnp4.below (by have := H4.out.chg.big; omega) hb5)
  clear hb5 hN H4 i0 i1 hnp4
  go_upto_if 24 with fail
  go_cut [] (fun wx => ChgK w wx z f t bf bc l2 q (.cells #[.int .i64 rf, .int .i64 rt] 25 (0, 0)))
  case first =>
    cases hc : decide (clampI c2 ≤ clampI c1) with
    | true =>
      have E := Lib.hid (show l2 = l1 by rw [L2b.out]; exact if_pos (of_decide_eq_true hc))
      go_wp2_with fail
      go_meet
      rw [E.out]; exact H5.out
    | false =>
      have E := Lib.hid (show l2 = layU l1 c1 (fn lv) by rw [L2b.out]; exact if_neg (of_decide_eq_false hc))
      clear hc
      go_upto_region 5 with fail
      have H6 := Lib.hid (H5.out.below (show Below W5.heap.size W5 W5.drew from (Below.refl _ _).drew))
      have HNP6 := Lib.hid (HNP.out.below (by have := H5.out.chg.big; omega) (show Below W5.heap.size W5 W5.drew from (Below.refl _ _).drew))
      have HI6 := Lib.hid (show W5.drew.heap[p]? = _ from HI.out)
      have y0 := cell_of_block (o := 0) H6.out.chg.lay rfl
      have b0 := cell_of_block (o := 0) H6.out.chg.func rfl
      have i0 : W5.drew.cell? ⟨p, 0, none⟩ = some (.int .i64 c1) := cell_of_block (o := 0) HI.out rfl
      refine wp_region_held (S := fun X => X.cell? ⟨z + 2, 0, none⟩ = some (.func (.func 83) #[] #[.pointer (some ⟨z + 1, 0, none⟩)]) ∧ X.cell? ⟨w.heap.size + 1, 0, none⟩ = some (.func (.func bf) #[] bc) ∧ X.cell? ⟨p, 0, none⟩ = some (.int .i64 c1)) hmx ?_
      change wpAnyH _ _ _ _ _ 7 _ _ W5.drew
      generalize W5.drew = W6 at *
      have hSS : W6.cell? ⟨z + 2, 0, none⟩ = some (.func (.func 83) #[] #[.pointer (some ⟨z + 1, 0, none⟩)]) ∧ W6.cell? ⟨w.heap.size + 1, 0, none⟩ = some (.func (.func bf) #[] bc) ∧ W6.cell? ⟨p, 0, none⟩ = some (.int .i64 c1) := ⟨y0, b0, i0⟩
      clear y0 b0 i0
      refine wpAnyH_take (i := 0) (v := .func (.func 83) #[] #[.pointer (some ⟨z + 1, 0, none⟩)]) rfl (by decide +kernel) (by decide +kernel) (by decide +kernel) (fun _ _ _ h => h) (.inl ⟨by first | rfl | (go_simp; done), fun X hX => by have hx1 := hX.1; have hx2 := hX.2.1; have hx3 := hX.2.2; clear hX; first | (go_simp; done) | (go_simp; rfl)⟩) hSS ?_
      refine wpAnyH_take (i := 1) (v := .pointer (some ⟨p, 0, none⟩)) rfl (by decide +kernel) (by decide +kernel) (by decide +kernel) (fun _ _ _ h => h) (.inl ⟨by first | rfl | (go_simp; done), fun X hX => by have hx1 := hX.1; have hx2 := hX.2.1; have hx3 := hX.2.2; clear hX; first | (go_simp; done) | (go_simp; rfl)⟩) hSS ?_
      refine wpAnyH_take (i := 2) (v := .int .i64 c1) rfl (by decide +kernel) (by decide +kernel) (by decide +kernel) (fun _ _ _ h => h) (.inl ⟨by first | rfl | (go_simp; done), fun X hX => by have hx1 := hX.1; have hx2 := hX.2.1; have hx3 := hX.2.2; clear hX; first | (go_simp; done) | (go_simp; rfl)⟩) hSS ?_
      refine wpAnyH_take (i := 3) (v := .func (.func bf) #[] bc) rfl (by decide +kernel) (by decide +kernel) (by decide +kernel) (fun _ _ _ h => h) (.inl ⟨by first | rfl | (go_simp; done), fun X hX => by have hx1 := hX.1; have hx2 := hX.2.1; have hx3 := hX.2.2; clear hX; first | (go_simp; done) | (go_simp; rfl)⟩) hSS ?_
      refine wpAnyH_take (i := 4) (v := .int .i64 lv) rfl (by decide +kernel) (by decide +kernel) (by decide +kernel) (fun _ _ _ h => h) (.inl ⟨by first | rfl | (go_simp; done), fun X hX => by have hx1 := hX.1; have hx2 := hX.2.1; have hx3 := hX.2.2; clear hX; first | (go_simp; done) | (go_simp; rfl)⟩) hSS ?_
      refine anyH_call (i := 5) (by decide +kernel) rfl (by first | rfl | (go_simp; done)) (by go_simp) (HF.out lv _ H6.out.chg.bel) ?_
      rintro e W7 ⟨rfl, rfl⟩
      refine ⟨_, rfl, hSS, ?_⟩
      refine anyH_call (i := 6) (by decide +kernel) rfl (by first | rfl | (go_simp; done)) (by go_simp) (lay_any H6.out.chg (by omega) c1 (fn lv)) ?_
      rintro e W8 ⟨⟨v8, rfl⟩, hc8, hk8⟩
      have hq8 := hk8 q hqb (Array.getElem?_eq_some_iff.1 H6.out.box).1 H6.out.notRow
      have hp8 := hk8 p (by omega) (Array.getElem?_eq_some_iff.1 HI6.out).1 HNP6.out
      have HC8 := Lib.hid (show ChgK w W8 z f t bf bc (layU l1 c1 (fn lv)) q _ from ⟨hc8, hq8.1.trans H6.out.box, hq8.2⟩)
      refine ⟨_, rfl, ⟨cell_of_block (o := 0) hc8.lay rfl, cell_of_block (o := 0) hc8.func rfl, cell_of_block (o := 0) (hp8.1.trans HI6.out) rfl⟩, ?_⟩
      clear hc8 hk8 hq8 hp8 hSS
      refine wpAnyH_done (by decide +kernel) ?_ _
      go_wp2_with fail
      go_meet
      rw [E.out]; exact HC8.out
  case rest =>
  have H7 := Lib.hid hcut
  clear hcut
  have s1 := cell_of_block (o := 1) H7.out.chg.span rfl
  have r0 := cell_of_block (o := 0) H7.out.box rfl
  have r1 := cell_of_block (o := 1) H7.out.box rfl
  have L3b := Lib.hid (show l3 = if t < rt then layU l2 (maxU rf t) lv else l2 from L3.out)
  clear L3
  have y0 := cell_of_block (o := 0) H7.out.chg.lay rfl
  cases hc : decide (t < rt) with
  | false =>
    have hc' : decide (rt > t) = false := hc
    have E := Lib.hid (show l3 = l2 by rw [L3b.out]; exact if_neg (of_decide_eq_false hc))
    go_wp2_with fail
    go_ret
    exact ⟨rfl, by rw [E.out]; exact H7.out.chg⟩
  | true =>
    have hc' : decide (rt > t) = true := hc
    have E := Lib.hid (show l3 = layU l2 (maxU rf t) lv by rw [L3b.out]; exact if_pos (of_decide_eq_true hc))
    have hm : (rf < t ∧ maxU rf t = t) ∨ (t ≤ rf ∧ maxU rf t = rf) := by
      by_cases h : rf < t
      · exact .inl ⟨h, if_pos h⟩
      · exact .inr ⟨by omega, if_neg h⟩
    have s1b := s1
    generalize maxU rf t = mx at *
    rcases hm with ⟨h1, rfl⟩ | ⟨h1, rfl⟩
    all_goals (
      go_upto_region 7 with fail
      go_wp2_with fail
      all_goals (
        refine (lay_keeps H7.out hqb (by omega) _ lv).mono ?_
        rintro e W9 ⟨⟨_, rfl⟩, hk⟩
        have HK := Lib.hid hk
        clear hk
        go_wp2_with fail
        go_ret
        exact ⟨rfl, by rw [E.out]; first | exact HK.out.chg | (have h9 := HK.out.chg; simpa using h9)⟩))
end Go.Proofs.Ythdljigcfhjikaa
