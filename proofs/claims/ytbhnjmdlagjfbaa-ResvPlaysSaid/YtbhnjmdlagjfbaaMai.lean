/- Laws that belong together: Levels (layer 10), plainly: the area of a span is the sum of its times' levels, of those above 0. No condition but that the steps are right.; Levels (layer 10): the law's own play; UsageNobody walked. No condition.; Levels (layer 10): an act that comes in as an argument. No condition.; Levels (layer 10): a row of acts that comes in as an argument. No condition.; Levels (layer 10): Play of no acts; UsageBack walked (under way).; Levels (layer 10), plainly: what adding to a span's levels leaves (for UsageBack). No condition but that the steps are right and the levels small.; Levels (layer 10), plainly: areas of small levels (for UsageAreas). No condition but that the steps are right and the levels small.; Room (layer 11), plainly: the spans of all times from one on from which a width is free for so many times. No condition but that the steps are right.; Room (layer 11): Fits, Widest, levels. Conditions: the lengths' bounds.; Reservations (layer 18): Add, at any list, over any levels. Conditions: the lengths' bounds.; Room (layer 11): Starts: the iterator that it makes. Conditions: the lengths' bounds.; Levels (layer 10), the document's: what was done to levels in memory; At, Add, Set, Forget. Condition: at most 2^32 changes.; Levels (layer 10): those that steps lead to have the document's level at each time, plainly. Conditions: the steps are right. -/
import Derived.Test.YtbhnjmdlagjfbaaMag
import Derived.Deep.Slices
import Derived.WideShapes
import Derived.ChangeArms
import Derived.Test.YtbhnjmdlagjfbaaMah
namespace Go.Proofs.Ytbhnjmdlagjfbaa
set_option linter.unusedVariables false
open Go.ChangeShapes Go.WideShapes Go.ChangeAt Go.RowKit
theorem w64_in (n : Int) (h : -9223372036854775808 ≤ n ∧ n ≤ 9223372036854775807) : wrap64 n = n := by unfold wrap64; omega

/-- the sum of g over n times from f on -/
def sumS (g : Int → Int) (f : Int) : Nat → Int
  | 0 => 0
  | n + 1 => sumS g f n + g (f + n)
theorem sumS_add (g : Int → Int) (f : Int) (a : Nat) : ∀ b : Nat, sumS g f (a + b) = sumS g f a + sumS g (f + a) b
  | 0 => by simp [sumS]
  | b + 1 => by
    have h := sumS_add g f a b
    show sumS g f (a + b) + g (f + ((a + b : Nat) : Int)) = sumS g f a + (sumS g (f + a) b + g (f + a + b))
    rw [h, show f + ((a + b : Nat) : Int) = f + a + b by omega]
    omega
theorem sumS_congr {g k : Int → Int} {f : Int} : ∀ {n : Nat}, (∀ x, f ≤ x → x < f + n → g x = k x) → sumS g f n = sumS k f n
  | 0, _ => rfl
  | n + 1, h => by
    show sumS g f n + g (f + n) = sumS k f n + k (f + n)
    rw [sumS_congr (n := n) fun x h0 h1 => h x h0 (by omega), h (f + n) (by omega) (by omega)]
theorem sumS_const {g : Int → Int} {f v : Int} : ∀ {n : Nat}, (∀ x, f ≤ x → x < f + n → g x = v) → sumS g f n = n * v
  | 0, _ => by simp [sumS]
  | n + 1, h => by
    show sumS g f n + g (f + n) = ((n + 1 : Nat) : Int) * v
    rw [sumS_const (n := n) (v := v) fun x h0 h1 => h x h0 (by omega), h (f + n) (by omega) (by omega), Int.natCast_add, Int.add_mul]
    simp
theorem sumS_bd {g : Int → Int} {f B : Int} : ∀ {n : Nat}, (∀ x, f ≤ x → x < f + n → 0 ≤ g x ∧ g x ≤ B) → 0 ≤ sumS g f n ∧ sumS g f n ≤ n * B
  | 0, _ => by simp [sumS]
  | n + 1, h => by
    have h1 := sumS_bd (n := n) (B := B) fun x h0 h1 => h x h0 (by omega)
    have h2 := h (f + n) (by omega) (by omega)
    show 0 ≤ sumS g f n + g (f + n) ∧ sumS g f n + g (f + n) ≤ ((n + 1 : Nat) : Int) * B
    rw [Int.natCast_add, Int.add_mul]
    simp only [Int.natCast_one, Int.one_mul]
    omega
theorem sumS_more {g k : Int → Int} {f d : Int} : ∀ {n : Nat}, (∀ x, f ≤ x → x < f + n → k x = g x + d) → sumS k f n = sumS g f n + n * d
  | 0, _ => by simp [sumS]
  | n + 1, h => by
    show sumS k f n + k (f + n) = sumS g f n + g (f + n) + ((n + 1 : Nat) : Int) * d
    rw [sumS_more (n := n) (d := d) (g := g) fun x h0 h1 => h x h0 (by omega), h (f + n) (by omega) (by omega), Int.natCast_add, Int.add_mul]
    simp only [Int.natCast_one, Int.one_mul]
    omega
/-- the sum over the times from a to b -/
def areaS (g : Int → Int) (a b : Int) : Int := sumS g a (b - a).toNat
theorem areaS_split (g : Int → Int) {a b c : Int} (h1 : a ≤ b) (h2 : b ≤ c) : areaS g a c = areaS g a b + areaS g b c := by
  unfold areaS
  rw [show (c - a).toNat = (b - a).toNat + (c - b).toNat by omega, sumS_add, show a + ((b - a).toNat : Int) = b by omega]
theorem areaS_none (g : Int → Int) {a b : Int} (h : b ≤ a) : areaS g a b = 0 := by
  unfold areaS
  rw [show (b - a).toNat = 0 by omega]
  rfl
/-- the level, if it is above 0 -/
def posL (L : List (Int × Int)) (x : Int) : Int := maxU (lvl 0 L x) 0
theorem area_sum {L : List (Int × Int)} (h : RightU L) (f t : Int) : (runsU L).foldl (areaStep (f, t)) 0 = areaS (posL L) (clampI f) (clampI t) := by
  have hF := clampI_bounds f
  have hT := clampI_bounds t
  have key : ∀ (m k : Nat) (s T0 : Int), k + m = L.length → (k < L.length → T0 = (L.getD k (0, 0)).1) → (k = L.length → T0 = 1099511627776) → 0 ≤ T0 → T0 ≤ 1099511627776 → s = areaS (posL L) (clampI f) (min (clampI t) T0) → 0 ≤ s ∧ s ≤ 1000000 * T0 → ((runsU L).drop k).foldl (areaStep (f, t)) s = areaS (posL L) (clampI f) (clampI t) := by
    intro m
    induction m with
    | zero =>
      intro k s T0 hk _ h2 _ _ hs _
      have : (runsU L).drop k = [] := by apply List.drop_eq_nil_of_le; unfold runsU; simp; omega
      rw [this, List.foldl_nil, hs, h2 (by omega), show min (clampI t) 1099511627776 = clampI t by omega]
    | succ m ih =>
      intro k s T0 hk h1 _ hT0 _ hs hsb
      have hkl : k < L.length := by omega
      rw [runsU_drop' hkl, List.foldl_cons]
      obtain ⟨b0, b1, b2⟩ := toU_le h hkl
      have hl : ∀ x, (L.getD k (0, 0)).1 ≤ x → x < toU L k → lvl 0 L x = (L.getD k (0, 0)).2 := fun x hx hx' => lvl_at h.sorted 0 k x hkl hx fun hk1 => by unfold toU at hx'; rw [if_pos hk1] at hx'; exact hx'
      have hget : L.getD k (0, 0) ∈ L := by rw [List.getD_eq_getElem?_getD, List.getElem?_eq_getElem hkl]; exact List.getElem_mem hkl
      have hbd := h.bd _ hget
      have e0 := h1 hkl
      generalize hA : (L.getD k (0, 0)).1 = A at *
      generalize hV : (L.getD k (0, 0)).2 = V at *
      subst e0
      have hm0 : 0 ≤ maxU V 0 ∧ maxU V 0 ≤ 1000000 := by unfold maxU; split <;> omega
      have hposl : ∀ x, T0 ≤ x → x < toU L k → posL L x = maxU V 0 := fun x hx hx' => by unfold posL; rw [hl x hx hx']
      generalize maxU V 0 = U at *
      have hstep : areaStep (f, t) s (T0, toU L k, V) = areaS (posL L) (clampI f) (min (clampI t) (toU L k)) ∧ 0 ≤ areaStep (f, t) s (T0, toU L k, V) ∧ areaStep (f, t) s (T0, toU L k, V) ≤ 1000000 * toU L k := by
        have hU : maxU V 0 = U := by have := hposl T0 (by omega) (by omega); unfold posL at this; rw [hl T0 (by omega) (by omega)] at this; exact this
        unfold areaStep
        simp only
        rw [hU]
        have hcut : (cutI (T0, toU L k) (f, t)).2 - (cutI (T0, toU L k) (f, t)).1 = if min (toU L k) (clampI t) ≤ max T0 (clampI f) then 0 else min (toU L k) (clampI t) - max T0 (clampI f) := by
          unfold cutI bothT bothF
          simp only
          rw [clampI_of b0 (by omega), clampI_of (show 0 ≤ toU L k by omega) b2]
          split <;> simp
        rw [hcut]
        by_cases hmm : min (toU L k) (clampI t) ≤ max T0 (clampI f)
        · rw [if_pos hmm]
          have e1 : wrap64 (s + wrap64 (wrap64 0 * U)) = s := by
            rw [show wrap64 0 = 0 by decide +kernel, Int.zero_mul, show wrap64 0 = 0 by decide +kernel, Int.add_zero]
            exact w64_in _ ⟨by omega, by omega⟩
          rw [e1]
          refine ⟨?_, by omega, by omega⟩
          rw [hs]
          by_cases hle : clampI t ≤ T0
          · rw [show min (clampI t) T0 = clampI t by omega, show min (clampI t) (toU L k) = clampI t by omega]
          · rw [areaS_none _ (by omega), areaS_none _ (by omega)]
        · rw [if_neg hmm]
          generalize hd : min (toU L k) (clampI t) - max T0 (clampI f) = D
          have hD : 0 < D ∧ D ≤ toU L k - T0 := by omega
          have hDU : 0 ≤ D * U ∧ D * U ≤ D * 1000000 := ⟨Int.mul_nonneg (by omega) hm0.1, Int.mul_le_mul_of_nonneg_left hm0.2 (by omega)⟩
          have e1 : wrap64 (s + wrap64 (wrap64 D * U)) = s + D * U := by
            rw [w64_in D ⟨by omega, by omega⟩, w64_in (D * U) ⟨by omega, by omega⟩]
            exact w64_in _ ⟨by omega, by omega⟩
          rw [e1]
          refine ⟨?_, by omega, by omega⟩
          have hc : areaS (posL L) (max T0 (clampI f)) (min (clampI t) (toU L k)) = D * U := by
            unfold areaS
            rw [show (min (clampI t) (toU L k) - max T0 (clampI f)).toNat = D.toNat by omega]
            rw [sumS_const (v := U) fun x h0 h1 => hposl x (by omega) (by omega)]
            rw [show ((D.toNat : Nat) : Int) = D by omega]
          by_cases hle : clampI f ≤ T0
          · rw [areaS_split (posL L) hle (show T0 ≤ min (clampI t) (toU L k) by omega), hs, show min (clampI t) T0 = T0 by omega]
            rw [show max T0 (clampI f) = T0 by omega] at hc
            rw [hc]
          · rw [show max T0 (clampI f) = clampI f by omega] at hc
            rw [hc, hs, areaS_none _ (by omega), Int.zero_add]
      refine ih (k + 1) _ (toU L k) (by omega) (fun hk1 => by unfold toU; rw [if_pos hk1]) (fun hk1 => by unfold toU; rw [if_neg (by omega)]) (by omega) b2 hstep.1 hstep.2
  have h0 := key L.length 0 0 0 (by omega) (fun h0 => by obtain ⟨v, r, e⟩ := h.head; rw [e]; rfl) (fun h0 => by obtain ⟨v, r, e⟩ := h.head; rw [e] at h0; simp at h0) (by omega) (by omega) (by rw [areaS_none _ (by omega)]) (by omega)
  rw [List.drop_zero] at h0
  exact h0
theorem area_eq {L : List (Int × Int)} (h : RightU L) (f t : Int) : areaU L (f, t) = minU (areaS (posL L) (clampI f) (clampI t)) 1099511627776 := by
  unfold areaU
  rw [area_sum h]
end Go.Proofs.Ytbhnjmdlagjfbaa
namespace Go.Proofs.Ytbhnjmdlagjfbaa
set_option linter.unusedVariables false
open Go.ChangeShapes Go.WideShapes Go.ChangeAt Go.RowKit
attribute [local go_sem ↓] Go.wp_at_zero Go.wp_at_succ comesTo_value_eq comesTo_skip_eq comesTo_enter_eq

def oneL : List (Int × Int) := [(0, 0), (3, 2), (7, 0)]
theorem one_change : changeU (addF (byU 2)) [(0, boundU 0)] (3, 7) = oneL := by decide +kernel
theorem one_at3 : atU oneL 3 = 2 := by decide +kernel
theorem one_at7 : atU oneL 7 = 0 := by decide +kernel
theorem one_most : chooseU maxU oneL (0, 9) = 2 := by decide +kernel
theorem one_area : areaU oneL (0, 9) = 8 := by decide +kernel
set_option maxHeartbeats 1000000 in
theorem add_no {w : World} {v : Value} (h : NoU w v) (f t n : Int) : Calls Try.prog 44 #[v, .agg #[.int .i64 f, .int .i64 t], .int .i64 n] w fun e w' => e = .returned (.int .i64 1) ∧ Below w.heap.size w w' := by
  have HB := below_alloc (below_alloc (Below.refl _ w) (.cells #[.int .i64 f, .int .i64 t] 39)) (.cells #[.int .i64 n] 3)
  have n2 := World.alloc_heap_new (w.alloc (.cells #[.int .i64 f, .int .i64 t] 39)) (.cells #[.int .i64 n] 3)
  rw [show (w.alloc (.cells #[.int .i64 f, .int .i64 t] 39)).heap.size = w.heap.size + 1 by simp] at n2
  have n1 := ((below_alloc (Below.refl _ (w.alloc (.cells #[.int .i64 f, .int .i64 t] 39))) (.cells #[.int .i64 n] 3)).block w.heap.size (by simp)).trans (World.alloc_heap_new w (.cells #[.int .i64 f, .int .i64 t] 39))
  have hm : (n < -2000000 ∧ byU n = -2000000) ∨ (-2000000 ≤ n ∧ 2000000 < n ∧ byU n = 2000000) ∨ (-2000000 ≤ n ∧ n ≤ 2000000 ∧ byU n = n) := by
    unfold byU
    by_cases h1 : n < -2000000
    · exact .inl ⟨h1, if_pos h1⟩
    · by_cases h2 : 2000000 < n
      · exact .inr (.inl ⟨by omega, h2, by rw [if_neg h1, if_pos h2]⟩)
      · exact .inr (.inr ⟨by omega, by omega, by rw [if_neg h1, if_neg h2]⟩)
  obtain ⟨m, hmm⟩ : ∃ m, m = byU n := ⟨_, rfl⟩
  rw [← hmm] at hm
  clear hmm
  have H0 := Lib.hid h
  clear h
  go_enter Try.func44, Try.ntmps44
  go_upto_region 1 with fail
  generalize (w.alloc (.cells #[.int .i64 f, .int .i64 t] 39)).alloc (.cells #[.int .i64 n] 3) = W at *
  have hw := (wrote_refl n2).set 0 (.int .i64 m)
  have hbel := hw.below HB (by omega)
  have b0 := cell_of_block (o := 0) n2 rfl
  have z0 := free_of_block 0 n2
  have m1 := (hw.rest w.heap.size (by omega)).trans n1
  have KC := Lib.hid (fun fn caps => change_none (H0.out.below hbel) f t fn caps)
  clear n1 n2 hw
  rcases hm with ⟨h1, rfl⟩ | ⟨h1, h2, rfl⟩ | ⟨h1, h2, rfl⟩
  all_goals (
    go_upto_region 2 with fail
    clear b0 z0
    generalize W.setCell ⟨w.heap.size + 1, 0, none⟩ (.int .i64 _) = W9 at *
    have s0 := cell_of_block (o := 0) m1 rfl
    have s1 := cell_of_block (o := 1) m1 rfl
    clear m1
    go_wp2_with fail
    refine (KC.out _ _).mono ?_
    rintro e w' ⟨rfl, hb⟩
    go_wp2_with fail
    go_ret
    exact ⟨rfl, below_next hbel hb⟩)
end Go.Proofs.Ytbhnjmdlagjfbaa
namespace Go.Proofs.Ytbhnjmdlagjfbaa
set_option linter.unusedVariables false
open Go.ChangeShapes Go.WideShapes Go.RowKit Go.Deep

theorem fields_at {P : Program} {fs : Array Field} {l : List (Nat × Nat × TypeId)} (h : fs.toList.map (fun f => (f.offset, P.cellsOf f.type, f.type)) = l) {i o c : Nat} {t : TypeId} (hi : l[i]? = some (o, c, t)) : ∃ f, fs[i]? = some f ∧ f.offset = o ∧ P.cellsOf f.type = c ∧ f.type = t := by
  rw [← h, List.getElem?_map] at hi
  cases hf : fs.toList[i]? with
  | none => rw [hf] at hi; cases hi
  | some f =>
    rw [hf] at hi
    injection hi with hi
    injection hi with h1 h2
    injection h2 with h2 h3
    exact ⟨f, by simpa using hf, h1, h2, h3⟩
/-- the part of a struct that a field is, as the reading of the struct tells it -/
theorem trod_field {H : Type} {enc : TypeId × Value → H} {P : Program} {w : World} {base : Nat} {spare : Nat → Bool} {held : Bool} {fuel : Nat} {t : TypeId} {cs : List Value} {x : DataW H × List MemPlace} {fs : Array Field} (hs : P.underlying t = some (.struct fs)) (h : DataW.trod enc P w base spare held fuel t cs = some x)
    {l : List (Nat × Nat × TypeId)} (hl : fs.toList.map (fun f => (f.offset, P.cellsOf f.type, f.type)) = l) {i o c : Nat} {u : TypeId} (hi : l[i]? = some (o, c, u)) : ∃ n y, DataW.trod enc P w base spare held n u ((cs.drop o).take c) = some y := by
  obtain ⟨xs, n, _, _, _, hlen, hfs⟩ := DataW.trod_struct hs h
  obtain ⟨f, hf, rfl, rfl, rfl⟩ := fields_at hl hi
  have hlt : i < xs.length := by rw [hlen]; exact (Array.getElem?_eq_some_iff.1 hf).1
  exact ⟨n, xs[i], (hfs i f hf).trans (List.getElem?_eq_getElem hlt)⟩
theorem sAct : Try.prog.underlying 105 = some (.struct (Try.prog.fieldsOf 105)) := by kernel_rfl
theorem fAct : (Try.prog.fieldsOf 105).toList.map (fun f => (f.offset, Try.prog.cellsOf f.type, f.type)) = [(0, 1, 3), (1, 2, 39), (3, 1, 3)] := by kernel_rfl
theorem sSpan : Try.prog.underlying 39 = some (.struct (Try.prog.fieldsOf 39)) := by kernel_rfl
theorem fSpan : (Try.prog.fieldsOf 39).toList.map (fun f => (f.offset, Try.prog.cellsOf f.type, f.type)) = [(0, 1, 37), (1, 1, 37)] := by kernel_rfl
theorem cellsAct10 : Try.prog.cellsOf 105 = 4 := by kernel_rfl
set_option maxRecDepth 10000 in
theorem act10_open {H : Type} {enc : TypeId × Value → H} {W : World} {base b0 : Nat} {spare : Nat → Bool} {held : Bool} {r : Reach} {v : Value} {d : DataW H} {p : List MemPlace}
    (hv : Value.okWide Try.prog W r b0 105 v) (h : DataW.Trod enc Try.prog W base spare held 105 v d p) :
    ∃ k f t n : Int, v = .agg #[.int .i64 k, .int .i64 f, .int .i64 t, .int .i64 n] := by
  obtain ⟨cs, rfl, hsz⟩ := okWide_struct sAct hv
  rw [cellsAct10] at hsz
  obtain ⟨fuel, hf⟩ := h
  have hcs : (Value.agg cs).cells.toList = cs.toList := rfl
  rw [hcs] at hf
  obtain ⟨l, rfl⟩ : ∃ l : List Value, cs = l.toArray := ⟨cs.toList, by simp⟩
  match l, hsz with
  | [c0, c1, c2, c3], _ =>
    obtain ⟨n0, y0, h0⟩ := trod_field sAct hf fAct (i := 0) rfl
    obtain ⟨n1, y1, h1⟩ := trod_field sAct hf fAct (i := 1) rfl
    obtain ⟨n2, y2, h2⟩ := trod_field sAct hf fAct (i := 2) rfl
    obtain ⟨n3, y3, h3⟩ := trod_field sSpan h1 fSpan (i := 0) rfl
    obtain ⟨n4, y4, h4⟩ := trod_field sSpan h1 fSpan (i := 1) rfl
    obtain ⟨a0, e0, _, _⟩ := DataW.trod_int Try.underlying3 h0
    obtain ⟨a2, e2, _, _⟩ := DataW.trod_int Try.underlying3 h2
    obtain ⟨a3, e3, _, _⟩ := DataW.trod_int Try.underlying37 h3
    obtain ⟨a4, e4, _, _⟩ := DataW.trod_int Try.underlying37 h4
    have f0 : c0 = .int .i64 a0 := by simpa using e0
    have f2 : c3 = .int .i64 a2 := by simpa using e2
    have f3 : c1 = .int .i64 a3 := by simpa using e3
    have f4 : c2 = .int .i64 a4 := by simpa using e4
    subst f0 f2 f3 f4
    exact ⟨_, _, _, _, rfl⟩
end Go.Proofs.Ytbhnjmdlagjfbaa
namespace Go.Proofs.Ytbhnjmdlagjfbaa
set_option linter.unusedVariables false
open Go.ChangeShapes Go.WideShapes Go.RowKit Go.Deep

/-- an act: what it is, the span, how much -/
structure ActU where
  kind : Int
  fr : Int
  to_ : Int
  n : Int
structure ActU.Cells (w : World) (b o : Nat) (a : ActU) : Prop where
  c0 : w.cell? ⟨b, o, none⟩ = some (.int .i64 a.kind)
  c1 : w.cell? ⟨b, o + 1, none⟩ = some (.int .i64 a.fr)
  c2 : w.cell? ⟨b, o + 2, none⟩ = some (.int .i64 a.to_)
  c3 : w.cell? ⟨b, o + 3, none⟩ = some (.int .i64 a.n)
  n64 : -9223372036854775808 ≤ a.n ∧ a.n ≤ 9223372036854775807
  f64 : -9223372036854775808 ≤ a.fr ∧ a.fr ≤ 9223372036854775807
  t64 : -9223372036854775808 ≤ a.to_ ∧ a.to_ ≤ 9223372036854775807
def ActsU (w : World) (ad : Option Addr) (len : Nat) (A : Nat → ActU) : Prop := len ≤ 9223372036854775807 ∧ (0 < len → ∃ b off, ad = some ⟨b, off, none⟩ ∧ ∀ k, k < len → ActU.Cells w b (off + k * 4) (A k))
instance : Inhabited ActU := ⟨⟨0, 0, 0, 0⟩⟩
set_option maxRecDepth 10000 in
theorem actsU_open {H : Type} {enc : TypeId × Value → H} {W : World} {a : Option Addr} {len cap : Nat} {d : DataW H} {p : List MemPlace}
    (h : DataW.Trod enc Try.prog W 0 (fun _ => true) true 22 (.slice a len cap) d p) : ∃ A : Nat → ActU, ActsU W a len A ∧ len ≤ cap := by
  obtain ⟨fuel, hf⟩ := h
  rcases Go.Deep.open_slice Try.underlying22 hf with ⟨hcs, _⟩ | ⟨x, l, c, m, n, D, Pl, hcs, _, hl, hm, hmm, hd, hcell⟩
  · simp [Value.cells] at hcs
    obtain ⟨rfl, rfl, rfl⟩ := hcs
    exact ⟨fun _ => ⟨0, 0, 0, 0⟩, ⟨by omega, fun h => absurd h (by omega)⟩, Nat.le_refl _⟩
  · simp [Value.cells] at hcs
    obtain ⟨rfl, rfl, rfl⟩ := hcs
    have hlm : len ≤ m := by rw [hmm]; split <;> omega
    rw [cellsAct10] at hcell
    by_cases h0 : len = 0
    · exact ⟨fun _ => ⟨0, 0, 0, 0⟩, ⟨by omega, fun h => absurd h (by omega)⟩, hl⟩
    obtain ⟨b, off, spot⟩ := x
    have hspot : spot = none := by
      obtain ⟨cs', h1, _⟩ := hcell 0 (by omega)
      obtain ⟨_, hlen, hc⟩ := World.cells?_some h1
      have := hc 0 (by omega)
      have hs : cs'[0]? = some cs'[0] := List.getElem?_eq_getElem (by omega)
      rw [hs] at this
      simpa [Addr.add] using World.cell?_spot this
    subst hspot
    have hplain : ∀ k, (⟨b, off, none⟩ : Addr).add k = ⟨b, off + k, none⟩ := fun k => by unfold Addr.add; split <;> simp_all
    have hplain2 : ∀ k j, ((⟨b, off, none⟩ : Addr).add k).add j = ⟨b, off + k + j, none⟩ := fun k j => by rw [Go.Deep.add_add, hplain, Nat.add_assoc]
    have each : ∀ i, i < len → ∃ q : ActU, ActU.Cells W b (off + i * 4) q := by
      intro i hi
      obtain ⟨cs', h1, h2⟩ := hcell i (by omega)
      obtain ⟨_, hlen, hc⟩ := World.cells?_some h1
      match cs', hlen with
      | [v0, v1, v2, v3], _ =>
        obtain ⟨n0, y0, g0⟩ := trod_field sAct h2 fAct (i := 0) rfl
        obtain ⟨n1, y1, g1⟩ := trod_field sAct h2 fAct (i := 1) rfl
        obtain ⟨n2, y2, g2⟩ := trod_field sAct h2 fAct (i := 2) rfl
        obtain ⟨n3, y3, g3⟩ := trod_field sSpan g1 fSpan (i := 0) rfl
        obtain ⟨n4, y4, g4⟩ := trod_field sSpan g1 fSpan (i := 1) rfl
        obtain ⟨a0, e0, _, _⟩ := DataW.trod_int Try.underlying3 g0
        obtain ⟨a2, e2, _, w2⟩ := DataW.trod_int Try.underlying3 g2
        obtain ⟨a3, e3, _, w3⟩ := DataW.trod_int Try.underlying37 g3
        obtain ⟨a4, e4, _, w4⟩ := DataW.trod_int Try.underlying37 g4
        have f0 : v0 = .int .i64 a0 := by simpa using e0
        have f2 : v3 = .int .i64 a2 := by simpa using e2
        have f3 : v1 = .int .i64 a3 := by simpa using e3
        have f4 : v2 = .int .i64 a4 := by simpa using e4
        subst f0 f2 f3 f4
        have b2 : -9223372036854775808 ≤ a2 ∧ a2 ≤ 9223372036854775807 := by simpa [Lit.wf, IntKind.min, IntKind.max, IntKind.signed, IntKind.bits] using w2
        have b3 : -9223372036854775808 ≤ a3 ∧ a3 ≤ 9223372036854775807 := by simpa [Lit.wf, IntKind.min, IntKind.max, IntKind.signed, IntKind.bits] using w3
        have b4 : -9223372036854775808 ≤ a4 ∧ a4 ≤ 9223372036854775807 := by simpa [Lit.wf, IntKind.min, IntKind.max, IntKind.signed, IntKind.bits] using w4
        have c : ∀ j, j < 4 → W.cell? ⟨b, off + i * 4 + j, none⟩ = [Value.int .i64 a0, .int .i64 a3, .int .i64 a4, .int .i64 a2][j]? := fun j hj => by rw [← hplain2]; exact hc j hj
        exact ⟨⟨a0, a3, a4, a2⟩, { c0 := c 0 (by decide), c1 := c 1 (by decide), c2 := c 2 (by decide), c3 := c 3 (by decide), n64 := b2, f64 := b3, t64 := b4 }⟩
    obtain ⟨A, hA⟩ := Go.Deep.choose_lt (α := ActU) (p := fun i q => ActU.Cells W b (off + i * 4) q) each
    exact ⟨A, ⟨by unfold maxLen at hm; omega, fun _ => ⟨b, off, rfl, hA⟩⟩, hl⟩
end Go.Proofs.Ytbhnjmdlagjfbaa
namespace Go.Proofs.Ytbhnjmdlagjfbaa
set_option linter.unusedVariables false
open Go.ChangeShapes Go.WideShapes Go.ChangeAt Go.RowKit
attribute [local go_sem ↓] Go.wp_at_zero Go.wp_at_succ comesTo_value_eq comesTo_skip_eq comesTo_enter_eq

theorem flat_low (n : Int) (w : World) : Calls Try.prog 42 #[.int .i64 n] w fun e w' => ∃ S, e = .returned (.pointer (some ⟨S, 0, none⟩)) ∧ w.heap.size ≤ S ∧ S < w'.heap.size ∧ (∀ W', (∀ k, w.heap.size ≤ k → k < w'.heap.size → W'.heap[k]? = w'.heap[k]?) → w'.heap.size ≤ W'.heap.size → USt W' S [(0, boundU n)]) ∧ Below w.heap.size w w' := by
  have KB := Lib.hid (bound_any n w)
  generalize boundU n = b at *
  go_enter Try.func42, Try.ntmps42
  go_wp2_with (go_at_call 100; ((with_reducible refine KB.out.mono ?_)); rintro e w' ⟨rfl, rfl⟩)
  have hb1 := below_alloc (Below.refl _ w) (.cells #[.int .i64 0, .int .i64 b] 140)
  have hb2 := below_alloc (Below.refl _ (w.alloc (.cells #[.int .i64 0, .int .i64 b] 140))) (.cells #[.slice (some ⟨w.heap.size, 0, none⟩) 1 1] 162)
  have n1 := (hb2.block w.heap.size (by simp)).trans (World.alloc_heap_new w (.cells #[.int .i64 0, .int .i64 b] 140))
  have n2 := World.alloc_heap_new (w.alloc (.cells #[.int .i64 0, .int .i64 b] 140)) (.cells #[.slice (some ⟨w.heap.size, 0, none⟩) 1 1] 162)
  have hs1 : (w.alloc (.cells #[.int .i64 0, .int .i64 b] 140)).heap.size = w.heap.size + 1 := by simp
  rw [hs1] at n2
  go_ret
  have l1 := (Array.getElem?_eq_some_iff.1 n1).1
  have l2 := (Array.getElem?_eq_some_iff.1 n2).1
  refine ⟨w.heap.size + 1, rfl, by omega, l2, fun W' hW hsz => ⟨⟨w.heap.size, 1, by omega, (hW _ (by omega) l2).trans n2, by simp, Nat.lt_of_lt_of_le l1 hsz, fun k hk => ?_⟩, by simp, by simp⟩, below_next hb1 hb2⟩
  obtain rfl : k = 0 := by simpa using hk
  exact ⟨cell_of_block (o := 0) ((hW _ (Nat.le_refl _) l1).trans n1) rfl, cell_of_block (o := 1) ((hW _ (Nat.le_refl _) l1).trans n1) rfl⟩
set_option maxRecDepth 100000 in
set_option maxHeartbeats 2000000 in
theorem play_nil (w : World) : Calls Try.prog 11 #[.int .i64 0, .slice none 0 0, .int .i64 0] w fun e w' => ∃ S, e = .returned (.tuple #[.pointer (some ⟨S, 0, none⟩), .agg #[.int .i64 0, .slice none 0 0]]) ∧ w.heap.size ≤ S ∧ USt w' S [(0, 0)] ∧ Below w.heap.size w w' := by
  have hmx : Try.prog.follows .mixedOrders = true := by kernel_rfl
  have KF := Lib.hid (fun W => (show Calls Try.prog 42 #[.int .i64 0] W fun e w' => ∃ S, e = .returned (.pointer (some ⟨S, 0, none⟩)) ∧ W.heap.size ≤ S ∧ S < w'.heap.size ∧ (∀ W', (∀ k, W.heap.size ≤ k → k < w'.heap.size → W'.heap[k]? = w'.heap[k]?) → w'.heap.size ≤ W'.heap.size → USt W' S [(0, 0)]) ∧ Below W.heap.size W w' from flat_low 0 W))
  have hb0 := below_alloc (Below.refl _ w) (.cells #[.int .i64 0, .slice none 0 0] 28)
  have n0 := World.alloc_heap_new w (.cells #[.int .i64 0, .slice none 0 0] 28)
  go_enter Try.func11, Try.ntmps11
  go_upto_region 1 with fail
  generalize w.alloc (.cells #[.int .i64 0, .slice none 0 0] 28) = W0 at *
  go_wp2_with fail
  refine (KF.out _).mono ?_
  rintro e W1 ⟨S, rfl, hS, hSl, hu, hb1⟩
  have n1 := (hb1.block _ (Array.getElem?_eq_some_iff.1 n0).1).trans n0
  have hs1 := (Array.getElem?_eq_some_iff.1 n1).1
  have hb2 := below_alloc (Below.refl _ W1) (.cells #[.int .i64 0, .slice none 0 0] 28)
  have n2 := World.alloc_heap_new W1 (.cells #[.int .i64 0, .slice none 0 0] 28)
  have n1' := (hb2.block _ hs1).trans n1
  have hw0 := (Array.getElem?_eq_some_iff.1 n0).1
  have HU := Lib.hid (show ∀ W', (∀ k, W0.heap.size ≤ k → k < W1.heap.size → W'.heap[k]? = (W1.alloc (.cells #[.int .i64 0, .slice none 0 0] 28)).heap[k]?) → W1.heap.size ≤ W'.heap.size → USt W' S [(0, 0)] from fun W' h1 h2 => hu W' (fun k k1 k2 => (h1 k k1 k2).trans (hb2.block k k2)) h2)
  have hs2 : W1.heap.size < (W1.alloc (.cells #[.int .i64 0, .slice none 0 0] 28)).heap.size := by simp
  have HB := Lib.hid (below_next (below_next hb0 hb1) hb2)
  have hS0 := hb0.size
  clear hu hb0 hb1 hb2 n0 n1
  go_upto_region 3 with fail
  generalize W1.alloc (.cells #[.int .i64 0, .slice none 0 0] 28) = W2 at *
  go_wp2_with fail
  go_loopw [10] (fun i wr => i = .int .i64 0 ∧ wr = W2) (fun _ _ => 0)
  case atStart => exact ⟨rfl, rfl⟩
  case round =>
    obtain ⟨rfl, rfl⟩ := hrel
    go_upto_region 18 with fail
    have c0 := cell_of_block (o := 0) n2 rfl
    have c1 := cell_of_block (o := 1) n2 rfl
    have d0 := cell_of_block (o := 0) n1' rfl
    have d1 := cell_of_block (o := 1) n1' rfl
    have f0 := free_of_block 0 n1'
    have f1 := free_of_block 1 n1'
    have hw := ((wrote_refl n1').set 0 (.int .i64 0)).set 1 (.slice none 0 0)
    have hbw := (hw.below HB.out (Nat.le_refl _)).drew
    have HX := Lib.hid (show USt ((wr.setCell ⟨w.heap.size, 0, none⟩ (.int .i64 0)).setCell ⟨w.heap.size, 1, none⟩ (.slice none 0 0)).drew S [(0, 0)] ∧ Below w.heap.size w ((wr.setCell ⟨w.heap.size, 0, none⟩ (.int .i64 0)).setCell ⟨w.heap.size, 1, none⟩ (.slice none 0 0)).drew from ⟨HU.out _ (fun k k1 k2 => hw.rest k (by omega)) (by show _ ≤ ((wr.setCell ⟨w.heap.size, 0, none⟩ (.int .i64 0)).setCell ⟨w.heap.size, 1, none⟩ (.slice none 0 0)).heap.size; rw [hw.size]; exact Nat.le_of_lt hs2), hbw⟩)
    have HC := Lib.hid (show ((wr.setCell ⟨w.heap.size, 0, none⟩ (.int .i64 0)).setCell ⟨w.heap.size, 1, none⟩ (.slice none 0 0)).drew.heap[w.heap.size]? = _ from hw.there)
    clear hw hbw
    go_region
    generalize ((wr.setCell ⟨w.heap.size, 0, none⟩ (.int .i64 0)).setCell ⟨w.heap.size, 1, none⟩ (.slice none 0 0)).drew = V at *
    have e0 := cell_of_block (o := 0) HC.out rfl
    have e1 := cell_of_block (o := 1) HC.out rfl
    clear c0 c1 d0 d1 f0 f1
    go_wp2_with fail
    exact bodyPost_ret (v := .tuple #[.pointer (some ⟨S, 0, none⟩), .agg #[.int .i64 0, .slice none 0 0]]) (by simp [results, Try.results11, go_sem]; try go_simp) rfl ⟨S, rfl, by omega, HX.out.1, HX.out.2⟩
end Go.Proofs.Ytbhnjmdlagjfbaa
namespace Go.Proofs.Ytbhnjmdlagjfbaa
set_option linter.unusedVariables false
open Go.ChangeShapes Go.WideShapes Go.ChangeAt Go.RowKit
theorem tmod_small (n : Int) : -999 ≤ n.tmod 1000 ∧ n.tmod 1000 ≤ 999 := by
  by_cases h : 0 ≤ n
  · have h1 := Int.tmod_lt_of_pos n (show (0 : Int) < 1000 by decide)
    have h2 := Int.tmod_nonneg 1000 h
    omega
  · have h1 := Int.tmod_lt_of_pos (-n) (show (0 : Int) < 1000 by decide)
    have h2 := Int.tmod_nonneg 1000 (show 0 ≤ -n by omega)
    rw [Int.neg_tmod] at h1 h2
    omega
theorem add_small {a n : Int} (ha : -900000 ≤ a ∧ a ≤ 900000) (hn : -99999 ≤ n ∧ n ≤ 99999) : addF (byU n) a = a + n := by
  have h1 : byU n = n := by unfold byU; rw [if_neg (by omega), if_neg (by omega)]
  have h2 : IntKind.i64.wrap (a + n) = a + n := by rw [IntKind.wrap_i64]; omega
  unfold addF
  rw [h1, h2]
  unfold boundU
  repeat (first | rfl | omega | split)
/-- B is L, but in the span by n more -/
def MoreU (L B : List (Int × Int)) (f t n : Int) : Prop := ∀ x, 0 ≤ x → x < 1099511627776 → lvl 0 B x = if clampI f < clampI t ∧ f ≤ x ∧ x < t then lvl 0 L x + n else lvl 0 L x
theorem clamp_facts (n : Int) : (n < 0 ∧ clampI n = 0) ∨ (0 ≤ n ∧ n ≤ 1099511627776 ∧ clampI n = n) ∨ (1099511627776 < n ∧ clampI n = 1099511627776) := by
  unfold clampI
  by_cases h : n < 0
  · exact .inl ⟨h, if_pos h⟩
  · by_cases h' : 1099511627776 < n
    · exact .inr (.inr ⟨h', by rw [if_neg h, if_pos h']⟩)
    · exact .inr (.inl ⟨by omega, by omega, by rw [if_neg h, if_neg h']⟩)
theorem more_ahead {L B : List (Int × Int)} (hL : RightU L) (hB : RightU B) {f t n : Int} (h : MoreU L B f t n) (he : clampI f < clampI t) (hf : 0 < f) : atU B (subI f 1) = atU L (subI f 1) := by
  rw [at_spec hB, at_spec hL]
  have e1 : clampI 1 = 1 := by decide +kernel
  have hs : subI f 1 = f - 1 := by
    unfold subI
    rw [e1, if_neg (by decide)]
    rcases clamp_facts f with ⟨a, b⟩ | ⟨a, c, b⟩ | ⟨a, b⟩ <;> rcases clamp_facts t with ⟨d, g⟩ | ⟨d, k, g⟩ | ⟨d, g⟩ <;> (try omega)
    all_goals (rw [if_neg (by omega), b]; rcases clamp_facts (f - 1) with ⟨a', b'⟩ | ⟨a', c', b'⟩ | ⟨a', b'⟩ <;> omega)
  rw [hs]
  have hx : 0 ≤ min (clampI (f - 1)) 1099511627775 ∧ min (clampI (f - 1)) 1099511627775 < 1099511627776 := by have := clampI_bounds (f - 1); omega
  rw [h _ hx.1 hx.2, if_neg]
  rcases clamp_facts (f - 1) with ⟨a, b⟩ | ⟨a, c, b⟩ | ⟨a, b⟩ <;> rcases clamp_facts t with ⟨d, g⟩ | ⟨d, k, g⟩ | ⟨d, g⟩ <;> rcases clamp_facts f with ⟨a', b'⟩ | ⟨a', c', b'⟩ | ⟨a', b'⟩ <;> omega
theorem more_behind {L B : List (Int × Int)} (hL : RightU L) (hB : RightU B) {f t n : Int} (h : MoreU L B f t n) (he : clampI f < clampI t) (ht : clampI t < 1099511627776) : atU B (clampI t) = atU L (clampI t) := by
  rw [at_spec hB, at_spec hL, clampI_clampI]
  have hx : 0 ≤ min (clampI t) 1099511627775 ∧ min (clampI t) 1099511627775 < 1099511627776 := by have := clampI_bounds t; omega
  rw [h _ hx.1 hx.2, if_neg]
  rcases clamp_facts t with ⟨d, g⟩ | ⟨d, k, g⟩ | ⟨d, g⟩ <;> rcases clamp_facts f with ⟨a', b'⟩ | ⟨a', c', b'⟩ | ⟨a', b'⟩ <;> omega
theorem more_in {L B : List (Int × Int)} (hL : RightU L) (hB : RightU B) {f t n : Int} (h : MoreU L B f t n) (he : clampI f < clampI t) : atU B f = atU L f + n := by
  rw [at_spec hB, at_spec hL]
  have hx : 0 ≤ min (clampI f) 1099511627775 ∧ min (clampI f) 1099511627775 < 1099511627776 := by have := clampI_bounds f; omega
  rw [h _ hx.1 hx.2, if_pos]
  rcases clamp_facts t with ⟨d, g⟩ | ⟨d, k, g⟩ | ⟨d, g⟩ <;> rcases clamp_facts f with ⟨a', b'⟩ | ⟨a', c', b'⟩ | ⟨a', b'⟩ <;> omega
theorem more_same {L B : List (Int × Int)} (hL : RightU L) (hB : RightU B) {f t n : Int} (h : MoreU L B f t n) : B = L ↔ (n = 0 ∨ ¬ clampI f < clampI t) := by
  constructor
  · intro e
    by_cases he : clampI f < clampI t
    · left
      have := more_in hL hB h he
      rw [e] at this
      omega
    · exact .inr he
  · intro e
    refine right_same_steps hB hL fun x h0 h1 => ?_
    rw [h x h0 h1]
    split
    · rename_i hc
      rcases e with e | e
      · omega
      · exact absurd hc.1 e
    · rfl
theorem more_back {L B : List (Int × Int)} (hL : RightU L) (hB : RightU B) {f t n : Int} (h : MoreU L B f t n) (hs : ∀ x, 0 ≤ x → x < 1099511627776 → -100000 ≤ lvl 0 L x ∧ lvl 0 L x ≤ 100000) (hn : -99999 ≤ n ∧ n ≤ 99999) : changeU (addF (byU (-n))) B (f, t) = L := by
  have hc := change_right hB (addF_in (byU (-n))) f t
  refine right_same_steps hc.1 hL fun x h0 h1 => ?_
  have hx := hs x h0 h1
  rw [hc.2 x h0 h1, h x h0 h1]
  by_cases hi : clampI f < clampI t ∧ f ≤ x ∧ x < t
  · rw [if_pos hi, if_pos hi, add_small (by omega) (by omega)]
    omega
  · rw [if_neg hi, if_neg hi]
theorem at_small {L : List (Int × Int)} (hL : RightU L) {b : Int} (hs : ∀ x, 0 ≤ x → x < 1099511627776 → -b ≤ lvl 0 L x ∧ lvl 0 L x ≤ b) (t : Int) : -b ≤ atU L t ∧ atU L t ≤ b := by
  rw [at_spec hL]
  exact hs _ (by have := clampI_bounds t; omega) (by have := clampI_bounds t; omega)
theorem USt.other {w w' : World} {S M : Nat} {L K : List (Int × Int)} (h : USt w S L) (k : USt w M K) (hn : M ≠ S) (hf : Fr (fun b => b = S) w w') : USt w' M K := by
  obtain ⟨g, c, hg, hS, hc, hs, hr⟩ := k.at_
  obtain ⟨g0, c0, _, hS0, _⟩ := h.at_
  have h0 := cell_of_block (o := 0) hS0 rfl
  have hgS : g ≠ S := by
    rintro rfl
    have := (hr 0 k.pos).1
    rw [show 0 * 2 = 0 by omega, h0] at this
    cases this
  exact ⟨⟨g, c, hg, (hf.block M (Array.getElem?_eq_some_iff.1 hS).1 hn).trans hS, hc, Nat.lt_of_lt_of_le hs hf.size, hr.mono (hf.block g hs hgS)⟩, k.pos, k.len⟩
theorem pow_small {q : Nat} (h : q ≤ 16) : 3 ^ q ≤ 43046721 := Nat.le_trans (Nat.pow_le_pow_right (by decide) h) (by decide)
end Go.Proofs.Ytbhnjmdlagjfbaa
namespace Go.Proofs.Ytbhnjmdlagjfbaa
set_option linter.unusedVariables false
open Go.RowKit
/-- small levels, none below 0 -/
def SmallU (L : List (Int × Int)) (b : Int) : Prop := ∀ x, 0 ≤ x → x < 1099511627776 → 0 ≤ lvl 0 L x ∧ lvl 0 L x ≤ b
theorem area_small {L : List (Int × Int)} (hL : RightU L) (hs : SmallU L 1000) {F T : Int} (h0 : 0 ≤ F ∧ F ≤ 65536) (h1 : 0 ≤ T ∧ T ≤ 65536) : areaU L (F, T) = areaS (lvl 0 L) F T ∧ 0 ≤ areaS (lvl 0 L) F T ∧ areaS (lvl 0 L) F T ≤ 65536000 := by
  rw [area_eq hL, clampI_of h0.1 (by omega), clampI_of h1.1 (by omega)]
  have e : areaS (posL L) F T = areaS (lvl 0 L) F T := by
    unfold areaS
    refine sumS_congr fun x hx hx' => ?_
    have := hs x (by omega) (by omega)
    unfold posL maxU
    rw [if_neg (by omega)]
  have hb := sumS_bd (g := lvl 0 L) (f := F) (B := 1000) (n := (T - F).toNat) fun x hx hx' => hs x (by omega) (by omega)
  have hb' : 0 ≤ areaS (lvl 0 L) F T ∧ areaS (lvl 0 L) F T ≤ 65536000 := by unfold areaS; omega
  rw [e]
  unfold minU
  rw [if_pos (by omega)]
  exact ⟨rfl, hb'⟩
theorem areas_part {L : List (Int × Int)} (hL : RightU L) (hs : SmallU L 1000) {F T c : Int} (h0 : 0 ≤ F ∧ F ≤ 65535) (h1 : 0 ≤ T ∧ T ≤ 65535) (hc : (F ≤ c ∧ c ≤ T) ∨ (T ≤ F ∧ c = F)) : areaU L (F, T) = areaU L (F, c) + areaU L (c, T) := by
  rw [(area_small hL hs (by omega) (by omega)).1, (area_small hL hs (F := F) (T := c) (by omega) (by omega)).1, (area_small hL hs (F := c) (T := T) (by omega) (by omega)).1]
  rcases hc with ⟨a, b⟩ | ⟨a, rfl⟩
  · exact areaS_split _ a b
  · rw [areaS_none _ (Int.le_refl c), Int.zero_add]
theorem areas_more {L B : List (Int × Int)} (hL : RightU L) (hB : RightU B) (hs : SmallU L 100) {F T : Int} (h0 : 0 ≤ F ∧ F ≤ 65535) (h1 : 0 ≤ T ∧ T ≤ 65535) (h : MoreU L B F T 1) : areaU B (F, T) = areaU L (F, T) + lenI (F, T) := by
  have hsB : SmallU B 1000 := fun x a b => by have := hs x a b; rw [h x a b]; split <;> omega
  rw [(area_small hL (fun x a b => by have := hs x a b; omega) (by omega) (by omega)).1, (area_small hB hsB (by omega) (by omega)).1]
  unfold lenI
  simp only
  have e1 := clampI_of h0.1 (by omega)
  have e2 := clampI_of h1.1 (by omega)
  rw [e1, e2]
  by_cases hle : T ≤ F
  · rw [if_pos hle, areaS_none _ hle, areaS_none _ hle]; rfl
  · rw [if_neg hle]
    have es : subI T F = T - F := by
      unfold subI
      rw [e1, e2, if_neg (by omega), if_neg (by omega), clampI_of (by omega) (by omega)]
    rw [es]
    unfold areaS
    rw [sumS_more (g := lvl 0 L) (d := 1) fun x hx hx' => by rw [h x (by omega) (by omega), e1, e2, if_pos (by omega)]]
    omega
/-- what Forget leaves: ahead of the time its level, behind it the same -/
theorem forget_lvl {L : List (Int × Int)} (hL : RightU L) {c : Int} (h0 : 0 ≤ c) (h1 : c < 1099511627776) (x : Int) (hx : 0 ≤ x) (hx' : x < 1099511627776) : lvl 0 (forgetU L c) x = if x < c then lvl 0 L c else lvl 0 L x := by
  have ec := clampI_of h0 (by omega)
  have e0 : clampI 0 = 0 := by decide +kernel
  have ea : atU L c = lvl 0 L c := by rw [at_spec hL, ec, show min c 1099511627775 = c by omega]
  have hb : boundU (lvl 0 L c) = lvl 0 L c := by
    refine boundU_id ?_
    have : ∀ (l : List (Int × Int)) (d : Int), (-1000000 ≤ d ∧ d ≤ 1000000) → (∀ p ∈ l, -1000000 ≤ p.2 ∧ p.2 ≤ 1000000) → -1000000 ≤ lvl d l c ∧ lvl d l c ≤ 1000000 := by
      intro l
      induction l with
      | nil => intro d hd _; exact hd
      | cons p r ih =>
        intro d hd hp
        unfold lvl
        split
        · exact hd
        · exact ih _ (hp p List.mem_cons_self) fun q hq => hp q (List.mem_cons_of_mem _ hq)
    exact this L 0 (by omega) hL.bd
  unfold forgetU
  rw [ec, if_neg (by omega), ea, (change_right hL (fun _ => boundU_in _) 0 c).2 x hx hx', ec, e0, hb]
  by_cases hxc : x < c
  · rw [if_pos ⟨by omega, hx, hxc⟩, if_pos hxc]
  · rw [if_neg (by omega), if_neg hxc]
theorem forget_at {L : List (Int × Int)} (hL : RightU L) {c : Int} (h0 : 0 ≤ c) (h1 : c ≤ 65535) : atU (forgetU L c) 0 = atU L c ∧ atU (forgetU L c) c = atU L c ∧ atU (forgetU L c) (c + 9) = atU L (c + 9) ∧ chooseU maxU (forgetU L c) (0, c + 1) = atU L c := by
  have hR := forget_right hL c
  have e0 : clampI 0 = 0 := by decide +kernel
  have ec := clampI_of h0 (by omega)
  have e9 := clampI_of (show 0 ≤ c + 9 by omega) (by omega)
  have e1 := clampI_of (show 0 ≤ c + 1 by omega) (by omega)
  have hc : ∀ x, 0 ≤ x → x ≤ c → lvl 0 (forgetU L c) x = lvl 0 L c := fun x a b => by
    rw [forget_lvl hL h0 (by omega) x a (by omega)]
    split
    · rfl
    · rw [show x = c by omega]
  have ha : atU L c = lvl 0 L c := by rw [at_spec hL, ec, show min c 1099511627775 = c by omega]
  refine ⟨?_, ?_, ?_, ?_⟩
  · rw [at_spec hR, e0, ha]; exact hc _ (by omega) (by omega)
  · rw [at_spec hR, ec, ha, show min c 1099511627775 = c by omega]; exact hc _ h0 (by omega)
  · rw [at_spec hR, at_spec hL, e9, show min (c + 9) 1099511627775 = c + 9 by omega, forget_lvl hL h0 (by omega) _ (by omega) (by omega), if_neg (by omega)]
  · obtain ⟨⟨x, x0, x1, x2, x3, x4⟩, _⟩ := most_spec hR (f := 0) (t := c + 1) (by rw [e0, e1]; omega)
    rw [← x4, ha]
    exact hc x x0 (by rw [e1] at x3; omega)
end Go.Proofs.Ytbhnjmdlagjfbaa
namespace Go.Proofs.Ytbhnjmdlagjfbaa
set_option linter.unusedVariables false
open Go.ChangeShapes Go.WideShapes Go.ChangeAt Go.RowKit
/-- from a time on a width is free for m times -/
def GoodF (g : Int → Int) (m W y : Int) : Prop := ∀ x, y ≤ x → x < y + m → x < 1099511627776 → W ≤ g x
/-- what is told of runs to come; the second: where a stretch of enough width has begun -/
def startsGo (F m W : Int) : List (Int × Int × Int) → Option Int → List (Int × Int)
  | [], none => []
  | [], some a => if max a F < 1099511627776 then [(max a F, 1099511627776)] else []
  | r :: rs, none => startsGo F m W rs (if W ≤ r.2.2 then some r.1 else none)
  | r :: rs, some a => if W ≤ r.2.2 then startsGo F m W rs (some a) else (if r.1 - m + 1 ≤ max a F then [] else [(max a F, r.1 - m + 1)]) ++ startsGo F m W rs none
def startsU (L : List (Int × Int)) (F m W : Int) : List (Int × Int) := startsGo F m W (runsU L) none
/-- what spans tell of the times from T on (of those from a on, where a stretch is open) -/
structure StartsOk (g : Int → Int) (F m W lo : Int) (R : List (Int × Int)) : Prop where
  iff : ∀ y, lo ≤ y → y < 1099511627776 → ((∃ s ∈ R, s.1 ≤ y ∧ y < s.2) ↔ (F ≤ y ∧ GoodF g m W y))
  low : ∀ s ∈ R, lo ≤ s.1 ∧ F ≤ s.1 ∧ s.1 < s.2 ∧ s.2 ≤ 1099511627776
  rise : R.Pairwise (fun s s' => s.2 < s'.1)
theorem starts_ok {L : List (Int × Int)} (h : RightU L) {F m W : Int} (hF : 0 ≤ F) (hm : 1 ≤ m) : StartsOk (lvl 0 L) F m W 0 (startsU L F m W) := by
  have key : ∀ (n k : Nat) (T : Int), k + n = L.length → (k < L.length → T = (L.getD k (0, 0)).1) → (k = L.length → T = 1099511627776) → 0 ≤ T → T ≤ 1099511627776 →
      StartsOk (lvl 0 L) F m W T (startsGo F m W ((runsU L).drop k) none) ∧ ∀ a, 0 ≤ a → a < T → (∀ x, a ≤ x → x < T → W ≤ lvl 0 L x) → StartsOk (lvl 0 L) F m W a (startsGo F m W ((runsU L).drop k) (some a)) := by
    intro n
    induction n with
    | zero =>
      intro k T hk _ h2 _ _
      have hd : (runsU L).drop k = [] := by apply List.drop_eq_nil_of_le; unfold runsU; simp; omega
      have hT := h2 (by omega)
      rw [hd]
      refine ⟨⟨fun y h0 h1 => by omega, fun s hs => (by cases hs), List.Pairwise.nil⟩, fun a ha haT hw => ?_⟩
      unfold startsGo
      by_cases hc : max a F < 1099511627776
      · rw [if_pos hc]
        refine ⟨fun y h0 h1 => ?_, fun s hs => ?_, by simp⟩
        · simp only [List.mem_singleton, exists_eq_left]
          constructor
          · rintro ⟨q1, q2⟩
            exact ⟨by omega, fun x x1 x2 x3 => hw x (by omega) (by omega)⟩
          · rintro ⟨q1, q2⟩
            exact ⟨by omega, h1⟩
        · simp only [List.mem_singleton] at hs
          subst hs
          exact ⟨by simp only; omega, by simp only; omega, hc, Int.le_refl _⟩
      · rw [if_neg hc]
        refine ⟨fun y h0 h1 => ?_, fun s hs => (by cases hs), List.Pairwise.nil⟩
        constructor
        · rintro ⟨s, hs, _⟩; cases hs
        · rintro ⟨q1, _⟩; omega
    | succ n ih =>
      intro k T hk h1 _ h0 hT
      have hkl : k < L.length := by omega
      rw [runsU_drop' hkl]
      obtain ⟨b0, b1, b2⟩ := toU_le h hkl
      have hl : ∀ x, (L.getD k (0, 0)).1 ≤ x → x < toU L k → lvl 0 L x = (L.getD k (0, 0)).2 := fun x hx hx' => lvl_at h.sorted 0 k x hkl hx fun hk1 => by unfold toU at hx'; rw [if_pos hk1] at hx'; exact hx'
      have e0 := h1 hkl
      obtain ⟨i1, i2⟩ := ih (k + 1) (toU L k) (by omega) (fun hk1 => by unfold toU; rw [if_pos hk1]) (fun hk1 => by unfold toU; rw [if_neg (by omega)]) (by omega) b2
      generalize hA : (L.getD k (0, 0)).1 = A at *
      generalize hV : (L.getD k (0, 0)).2 = V at *
      subst e0
      by_cases hv : W ≤ V
      · constructor
        · unfold startsGo
          simp only
          rw [if_pos hv]
          exact i2 T b0 b1 (fun x x1 x2 => by rw [hl x x1 x2]; exact hv)
        · intro a ha haT hw
          unfold startsGo
          simp only
          rw [if_pos hv]
          exact i2 a ha (by omega) (fun x x1 x2 => by
            by_cases hx : x < T
            · exact hw x x1 hx
            · rw [hl x (by omega) x2]; exact hv)
      · have hbad : ∀ y, T ≤ y → y < toU L k → ¬ GoodF (lvl 0 L) m W y := fun y y1 y2 hg => by
          have := hg y (Int.le_refl _) (by omega) (by omega)
          rw [hl y y1 y2] at this
          exact hv this
        have hnone : StartsOk (lvl 0 L) F m W T (startsGo F m W ((runsU L).drop (k + 1)) none) := by
          refine ⟨fun y y0 y1 => ?_, fun s hs => ?_, i1.rise⟩
          · by_cases hy : toU L k ≤ y
            · exact i1.iff y hy y1
            · constructor
              · rintro ⟨s, hs, q1, q2⟩
                have := (i1.low s hs).1
                omega
              · rintro ⟨_, q2⟩
                exact absurd q2 (hbad y y0 (by omega))
          · obtain ⟨q1, q2, q3, q4⟩ := i1.low s hs
            exact ⟨by omega, q2, q3, q4⟩
        constructor
        · unfold startsGo
          simp only
          rw [if_neg hv]
          exact hnone
        · intro a ha haT hw
          unfold startsGo
          simp only
          rw [if_neg hv]
          have hgood : ∀ y, a ≤ y → y < T → (GoodF (lvl 0 L) m W y ↔ y < T - m + 1) := fun y y0 y1 => by
            constructor
            · intro hg
              refine Classical.byContradiction fun hc => ?_
              have := hg T (by omega) (by omega) (by omega)
              rw [hl T (Int.le_refl _) b1] at this
              exact hv this
            · intro hc x x1 x2 x3
              exact hw x (by omega) (by omega)
          have iffs : ∀ y, a ≤ y → y < 1099511627776 → ((∃ s ∈ (if T - m + 1 ≤ max a F then [] else [(max a F, T - m + 1)]) ++ startsGo F m W ((runsU L).drop (k + 1)) none, s.1 ≤ y ∧ y < s.2) ↔ (F ≤ y ∧ GoodF (lvl 0 L) m W y)) := fun y y0 y1 => by
            by_cases hy : y < T
            · rw [hgood y y0 hy]
              constructor
              · rintro ⟨s, hs, q1, q2⟩
                rcases List.mem_append.1 hs with hs | hs
                · split at hs
                  · cases hs
                  · simp only [List.mem_singleton] at hs
                    subst hs
                    simp only at q1 q2
                    exact ⟨by omega, q2⟩
                · have := (hnone.low s hs).1; omega
              · rintro ⟨q1, q2⟩
                refine ⟨(max a F, T - m + 1), List.mem_append_left _ ?_, by simp only; omega, q2⟩
                rw [if_neg (by omega)]
                exact List.mem_singleton.2 rfl
            · rw [← hnone.iff y (by omega) y1]
              constructor
              · rintro ⟨s, hs, q1, q2⟩
                rcases List.mem_append.1 hs with hs | hs
                · split at hs
                  · cases hs
                  · simp only [List.mem_singleton] at hs
                    subst hs
                    simp only at q2
                    omega
                · exact ⟨s, hs, q1, q2⟩
              · rintro ⟨s, hs, q1, q2⟩
                exact ⟨s, List.mem_append_right _ hs, q1, q2⟩
          refine ⟨iffs, fun s hs => ?_, ?_⟩
          · rcases List.mem_append.1 hs with hs | hs
            · split at hs
              · cases hs
              · simp only [List.mem_singleton] at hs
                subst hs
                exact ⟨by simp only; omega, by simp only; omega, by simp only; omega, by simp only; omega⟩
            · obtain ⟨q1, q2, q3, q4⟩ := hnone.low s hs
              exact ⟨by omega, q2, q3, q4⟩
          · rw [List.pairwise_append]
            refine ⟨by split <;> simp, hnone.rise, fun s hs s' hs' => ?_⟩
            split at hs
            · cases hs
            · simp only [List.mem_singleton] at hs
              subst hs
              -- what comes later begins behind the run that is too low
              have hs1 : toU L k ≤ s'.1 := (i1.low s' hs').1
              simp only
              omega
  have h0 := (key L.length 0 0 (by omega) (fun h0 => by obtain ⟨v, r, e⟩ := h.head; rw [e]; rfl) (fun h0 => by obtain ⟨v, r, e⟩ := h.head; rw [e] at h0; simp at h0) (by omega) (by omega)).1
  rw [List.drop_zero] at h0
  exact h0
/-- the first time, if there is one -/
def firstU (R : List (Int × Int)) : Int := ((R.head?).map (·.1)).getD 1099511627776
theorem first_spec {g : Int → Int} {F m W : Int} {R : List (Int × Int)} (h : StartsOk g F m W 0 R) (hF : 0 ≤ F) : (firstU R < 1099511627776 → F ≤ firstU R ∧ GoodF g m W (firstU R)) ∧ (∀ y, F ≤ y → y < firstU R → y < 1099511627776 → ¬ GoodF g m W y) ∧ 0 ≤ firstU R ∧ firstU R ≤ 1099511627776 := by
  cases R with
  | nil =>
    unfold firstU
    refine ⟨fun hh => by simp at hh, fun y h0 h1 h2 hg => ?_, by simp, by simp⟩
    obtain ⟨s, hs, _⟩ := (h.iff y (by omega) h2).2 ⟨h0, hg⟩
    cases hs
  | cons s r =>
    obtain ⟨q1, q2, q3, q4⟩ := h.low s List.mem_cons_self
    unfold firstU
    simp only [List.head?_cons, Option.map_some, Option.getD_some]
    refine ⟨fun hh => (h.iff s.1 q1 hh).1 ⟨s, List.mem_cons_self, Int.le_refl _, q3⟩, fun y h0 h1 h2 hg => ?_, q1, by omega⟩
    obtain ⟨s', hs', p1, p2⟩ := (h.iff y (by omega) h2).2 ⟨h0, hg⟩
    rcases List.mem_cons.1 hs' with rfl | hs'
    · omega
    · have := (List.pairwise_cons.1 h.rise).1 s' hs'
      omega
end Go.Proofs.Ytbhnjmdlagjfbaa
namespace Go.Proofs.Ytbhnjmdlagjfbaa
set_option linter.unusedVariables false
open Go.ChangeShapes Go.WideShapes Go.ChangeAt Go.RowKit
attribute [local go_sem ↓] Go.wp_at_zero Go.wp_at_succ comesTo_value_eq comesTo_skip_eq comesTo_enter_eq

/-- what Fits tells -/
def fitsU (L : List (Int × Int)) (f t W : Int) : Bool := decide (clampI t ≤ clampI f) || decide (chooseU minU L (f, t) ≥ W)
set_option maxRecDepth 100000 in
set_option maxHeartbeats 2000000 in
theorem fits_any {w : World} {S : Nat} {L : List (Int × Int)} (h : USt w S L) (f t W : Int) :
    Calls Try.prog 67 #[.pointer (some ⟨S, 0, none⟩), .agg #[.int .i64 f, .int .i64 t], .int .i64 W] w fun e w' => e = .returned (.bool (fitsU L f t W)) ∧ Below w.heap.size w w' := by
  have hb0 := below_alloc (Below.refl _ w) (.cells #[.int .i64 f, .int .i64 t] 39)
  have n0 := World.alloc_heap_new w (.cells #[.int .i64 f, .int .i64 t] 39)
  have KL := Lib.hid (fun W (hb : Below w.heap.size w W) => least_any (h.below hb) f t)
  have KE := Lib.hid (fun W => empty_any f t W)
  obtain ⟨res, hres⟩ : ∃ r, r = fitsU L f t W := ⟨_, rfl⟩
  rw [← hres]
  have HR := Lib.hid (show res = (decide (clampI t ≤ clampI f) || decide (chooseU minU L (f, t) ≥ W)) from hres)
  clear h hres
  generalize chooseU minU L (f, t) = cl at *
  go_enter Try.func67, Try.ntmps67
  go_upto_region 1 with fail
  generalize w.alloc (.cells #[.int .i64 f, .int .i64 t] 39) = W0 at *
  have c0 := cell_of_block (o := 0) n0 rfl
  have c1 := cell_of_block (o := 1) n0 rfl
  go_wp2_with fail
  refine (KE.out _).mono ?_
  rintro e W1 ⟨rfl, hb1⟩
  have n1 := (hb1.block _ (Array.getElem?_eq_some_iff.1 n0).1).trans n0
  have c0 := cell_of_block (o := 0) n1 rfl
  have c1 := cell_of_block (o := 1) n1 rfl
  have HB1 := Lib.hid (below_next hb0 hb1)
  clear hb0 hb1 n0 n1
  cases hd : decide (clampI t ≤ clampI f) with
  | true =>
    have E := HR.out
    rw [hd, Bool.true_or] at E
    subst E
    go_wp2_with fail
    go_ret
    exact ⟨rfl, HB1.out⟩
  | false =>
    have E := Lib.hid (show res = decide (cl ≥ W) by rw [HR.out, hd, Bool.false_or])
    go_wp2_with fail
    refine (KL.out _ HB1.out).mono ?_
    rintro e W2 ⟨rfl, hb2⟩
    have HB2 := Lib.hid (below_next HB1.out hb2)
    clear hb2
    go_wp2_with fail
    go_ret
    exact ⟨by rw [E.out]; rfl, HB2.out⟩
/-- what Widest tells -/
def widestU (L : List (Int × Int)) (from_ many : Int) : Int := if clampI from_ = 1099511627776 then atU L (clampI from_) else chooseU minU L (clampI (clampI from_), addI (clampI from_) (maxU many 1))
set_option maxRecDepth 100000 in
set_option maxHeartbeats 2000000 in
theorem levels_any {w : World} {S : Nat} {L : List (Int × Int)} (h : USt w S L) :
    Calls Try.prog 154 #[.pointer (some ⟨S, 0, none⟩)] w fun e w' => ∃ g c, e = .returned (.slice (some ⟨g, 0, none⟩) L.length c) ∧ w.heap.size ≤ g ∧ g < w'.heap.size ∧ L.length ≤ c ∧ URow w' g L ∧ Below w.heap.size w w' := by
  have hpos := h.pos
  have KL := Lib.hid (list_any h)
  clear h
  go_enter Try.func154, Try.ntmps154
  go_wp2_with fail
  refine KL.out.mono ?_
  rintro e w1 ⟨g, c, rfl, g1, g2, g3, g4, hb1⟩
  have hd : decide ((L.length : Int) > 0) = true := decide_eq_true (by omega)
  have HX := Lib.hid (And.intro g4 hb1)
  clear g4 hb1
  go_wp2_with fail
  go_ret
  exact ⟨g, c, rfl, g1, g2, g3, HX.out.1, HX.out.2⟩
set_option maxRecDepth 100000 in
set_option maxHeartbeats 2000000 in
/-- of levels that nobody made the level is 0 -/
theorem levels_no {w : World} {v : Value} (h : NoU w v) :
    Calls Try.prog 154 #[v] w fun e w' => ∃ g c, e = .returned (.slice (some ⟨g, 0, none⟩) 1 c) ∧ w.heap.size ≤ g ∧ g < w'.heap.size ∧ 1 ≤ c ∧ URow w' g [(0, 0)] ∧ Below w.heap.size w w' := by
  have KL := Lib.hid (list_no h)
  have KF := Lib.hid (fun W => (show Calls Try.prog 42 #[.int .i64 0] W fun e w' => ∃ S, e = .returned (.pointer (some ⟨S, 0, none⟩)) ∧ W.heap.size ≤ S ∧ USt w' S [(0, 0)] ∧ Below W.heap.size W w' from flat_any 0 W))
  clear h
  go_enter Try.func154, Try.ntmps154
  go_wp2_with fail
  refine KL.out.mono ?_
  rintro e w1 ⟨rfl, hb1⟩
  have HB1 := Lib.hid hb1
  clear hb1
  go_wp2_with fail
  refine (KF.out _).mono ?_
  rintro e w2 ⟨S, rfl, hS, hu, hb2⟩
  have HU := Lib.hid hu
  have HB2 := Lib.hid (below_next HB1.out hb2)
  clear hu hb2
  go_wp2_with fail
  refine (list_any HU.out).mono ?_
  rintro e w3 ⟨g, c, rfl, g1, g2, g3, g4, hb3⟩
  have HX := Lib.hid (And.intro g4 (below_next HB2.out hb3))
  have hs2 := HB2.out.size
  clear g4 hb3
  go_wp2_with fail
  go_ret
  exact ⟨g, c, rfl, by omega, g2, g3, HX.out.1, HX.out.2⟩
end Go.Proofs.Ytbhnjmdlagjfbaa
namespace Go.Proofs.Ytbhnjmdlagjfbaa
set_option linter.unusedVariables false
open Go.ChangeShapes Go.WideShapes Go.ChangeAt Go.RowKit
attribute [local go_sem ↓] Go.wp_at_zero Go.wp_at_succ comesTo_value_eq comesTo_skip_eq comesTo_enter_eq

/-- a list's row lies in block b -/
def RowAt (w : World) (F b : Nat) : Prop := ∃ n c x, w.heap[F]? = some (.cells #[.slice (some ⟨b, 0, none⟩) n c, x] 111 (0, 0))
/-- what a list's call may have turned: its block, the row that it had -/
structure FrL (F : Nat) (w w' : World) : Prop where
  os : w'.os = w.os
  tape : w'.tape = w.tape
  output : w'.output = w.output
  size : w.heap.size ≤ w'.heap.size
  block : ∀ b, b < w.heap.size → b ≠ F → ¬ RowAt w F b → w'.heap[b]? = w.heap[b]? ∧ ¬ RowAt w' F b
theorem RowAt.same {w w' : World} {F b : Nat} (h : w'.heap[F]? = w.heap[F]?) : RowAt w' F b → RowAt w F b := fun ⟨n, c, x, hx⟩ => ⟨n, c, x, h.symm.trans hx⟩
theorem FrL.of_below {F : Nat} {w w' : World} (hF : F < w.heap.size) (h : Below w.heap.size w w') : FrL F w w' := ⟨h.os, h.tape, h.output, h.size, fun b hb _ hn => ⟨h.block b hb, fun hr => hn (hr.same (h.block F hF))⟩⟩
theorem FrL.trans {F : Nat} {a b c : World} (h : FrL F a b) (k : FrL F b c) : FrL F a c := ⟨k.os.trans h.os, k.tape.trans h.tape, k.output.trans h.output, Nat.le_trans h.size k.size, fun j hj hn hr => by
  obtain ⟨h1, h2⟩ := h.block j hj hn hr
  obtain ⟨k1, k2⟩ := k.block j (Nat.lt_of_lt_of_le hj h.size) hn h2
  exact ⟨k1.trans h1, k2⟩⟩
theorem Rs.rowNe {w : World} {B F : Nat} {l : List RV} {n : Int} (h : Rs w B F l n) {b : Nat} (hb : b < B) : ¬ RowAt w F b := by
  rintro ⟨m, c, x, hx⟩
  obtain ⟨v, h1, h2, _⟩ := h.at_
  rw [h1] at hx
  simp only [Option.some.injEq, Obj.cells.injEq, Array.mk.injEq, List.cons.injEq, and_true, true_and] at hx
  obtain ⟨rfl, _⟩ := hx
  have := Ap.own_blk h2 b rfl
  omega
theorem FrL.below {w w' : World} {B F : Nat} {l : List RV} {n : Int} (h : FrL F w w') (hr : Rs w B F l n) (hB : B ≤ F) : Below B w w' :=
  ⟨h.os, h.tape, h.output, h.size, fun b hb => (h.block b (by have := hr.lt; omega) (by omega) (hr.rowNe hb)).1⟩
/-- what Add comes to: the number, what is wrong, the list, the next number -/
def addR (L : List (Int × Int)) (l : List RV) (n f t W : Int) : Int × Int × List RV × Int :=
  if mayR f t W = false then (0, 2, l, n)
  else if 8 ≤ l.length ∨ 1073741824 < n then (0, 15, l, n)
  else if fitsU (lowerU L (l.filter fun r => meetsU (r.2.1, r.2.2.1) (f, t))) f t W = false then (0, 16, l, n)
  else (n, 0, l ++ [(n, f, t, W)], n + 1)
def AddREnd (w : World) (B F : Nat) (L : List (Int × Int)) (l : List RV) (n f t W : Int) (e : Ending) (w' : World) : Prop :=
  e = .returned (.tuple #[.int .i64 (addR L l n f t W).1, .int .i64 (addR L l n f t W).2.1]) ∧ Rs w' B F (addR L l n f t W).2.2.1 (addR L l n f t W).2.2.2 ∧ FrL F w w'
set_option maxRecDepth 100000 in
set_option maxHeartbeats 8000000 in
theorem add_rs {w : World} {B F S : Nat} {l : List RV} {n : Int} {L : List (Int × Int)} (h : Rs w B F l n) (hu : USt w S L) (hR : RightU L) (hL : L.length * 6561 ≤ 1099511627776) (hB : B ≤ F) (f t W : Int) :
    Calls Try.prog 16 #[.pointer (some ⟨F, 0, none⟩), .pointer (some ⟨S, 0, none⟩), .agg #[.int .i64 f, .int .i64 t], .int .i64 W] w fun e w' => AddREnd w B F L l n f t W e w' := by
  have hmx : Try.prog.follows .mixedOrders = true := by kernel_rfl
  have hlt := h.lt
  have HNO := Lib.hid (fun (c : Int) (hc : addR L l n f t W = (0, c, l, n)) e w' (he : e = .returned (.tuple #[.int .i64 0, .int .i64 c])) (hb : Below w.heap.size w w') => (show AddREnd w B F L l n f t W e w' from by
    unfold AddREnd
    rw [hc]
    exact ⟨he, h.below hb, FrL.of_below hlt hb⟩))
  have HYES := Lib.hid (fun (hc : addR L l n f t W = (n, 0, l ++ [(n, f, t, W)], n + 1)) e w' (he : e = .returned (.tuple #[.int .i64 n, .int .i64 0])) (h1 : Rs w' B F (l ++ [(n, f, t, W)]) (n + 1)) (h2 : FrL F w w') => (show AddREnd w B F L l n f t W e w' from by
    unfold AddREnd
    rw [hc]
    exact ⟨he, h1, h2⟩))
  have HADD := Lib.hid (show addR L l n f t W = if mayR f t W = false then (0, 2, l, n) else if 8 ≤ l.length ∨ 1073741824 < n then (0, 15, l, n) else if fitsU (lowerU L (l.filter fun r => meetsU (r.2.1, r.2.2.1) (f, t))) f t W = false then (0, 16, l, n) else (n, 0, l ++ [(n, f, t, W)], n + 1) from rfl)
  obtain ⟨v, hv1, hv2, hv3⟩ := h.at_
  obtain ⟨ad, c, rfl⟩ := hv2.form
  have hb1 := below_alloc (Below.refl _ w) (.cells #[.int .i64 f, .int .i64 t] 39)
  have HN1 := Lib.hid (World.alloc_heap_new w (.cells #[.int .i64 f, .int .i64 t] 39))
  have HB1 := Lib.hid hb1
  have HRS := Lib.hid (h.below hb1)
  have HU := Lib.hid (hu.below hb1)
  have HF1 := Lib.hid ((hb1.block _ hlt).trans hv1)
  have HO1 := Lib.hid (hv2.below hb1)
  have HSZ := Lib.hid (show w.heap.size < (w.alloc (.cells #[.int .i64 f, .int .i64 t] 39)).heap.size from by simp)
  have HFB := Lib.hid (And.intro hB hlt)
  have HR := Lib.hid hR
  have HL := Lib.hid hL
  have HNE := Lib.hid hv3
  have HPOS := Lib.hid h.pos
  have HLEN := Lib.hid h.len
  have KY := Lib.hid (fun X => may_any f t W X)
  have HOW := Lib.hid (fun k (hk : (Value.slice ad l.length c).ownBlock = some k) => Ap.own_lt hv2 k hk)
  have HF0 := Lib.hid hv1
  clear h hu hR hL hB hlt hv1 hv2 hv3 hb1
  generalize hEE : AddREnd w B F L l n f t W = E at *
  clear hEE
  go_enter Try.func16, Try.ntmps16
  go_upto_region 1 with fail
  generalize w.alloc (.cells #[.int .i64 f, .int .i64 t] 39) = W1 at *
  have KT := Lib.hid (there_rs HRS.out)
  have KM := Lib.hid (made_u HU.out)
  go_wp2_with fail
  refine KT.out.mono ?_
  rintro e w1 ⟨rfl, rfl⟩
  go_wp2_with fail
  refine KM.out.mono ?_
  rintro e W2 ⟨rfl, hb⟩
  have HB2 := Lib.hid hb
  have n2 := (hb.block _ HSZ.out).trans HN1.out
  clear hb KT KM
  have z0 : W2.cell? ⟨w.heap.size, 0, none⟩ = some (.int .i64 f) := cell_of_block (o := 0) n2 rfl
  have z1 : W2.cell? ⟨w.heap.size, 1, none⟩ = some (.int .i64 t) := cell_of_block (o := 1) n2 rfl
  clear n2
  go_wp2_with fail
  refine (KY.out _).mono ?_
  rintro e W3 ⟨rfl, hb⟩
  have HB3 := Lib.hid (below_next HB2.out hb)
  clear hb z0 z1 KY HB2
  generalize hmay : mayR f t W = may at *
  cases may with
  | false =>
    have HB9 := Lib.hid (below_next HB1.out HB3.out)
    have HC := Lib.hid (show addR L l n f t W = (0, 2, l, n) by rw [HADD.out, if_pos rfl])
    go_wp2_with fail
    try go_ret2
    exact HNO.out 2 HC.out _ _ rfl HB9.out
  | true =>
  have n3 := (HB3.out.block _ (Array.getElem?_eq_some_iff.1 HF1.out).1).trans HF1.out
  have c0 : W3.cell? ⟨F, 0, none⟩ = some (.slice ad l.length c) := cell_of_block (o := 0) n3 rfl
  have c1 : W3.cell? ⟨F, 1, none⟩ = some (.int .i64 n) := cell_of_block (o := 1) n3 rfl
  clear n3
  by_cases hfull : 8 ≤ l.length ∨ 1073741824 < n
  case pos =>
    have HB9 := Lib.hid (below_next HB1.out HB3.out)
    have HC := Lib.hid (show addR L l n f t W = (0, 15, l, n) by rw [HADD.out, if_neg (by decide), if_pos hfull])
    by_cases h8 : 8 ≤ l.length
    · have d1 : decide ((l.length : Int) ≥ 8) = true := decide_eq_true (by omega)
      have d2 : decide (8 ≤ l.length) = true := decide_eq_true h8
      clear hfull h8
      go_wp2_with fail
      try go_ret2
      exact HNO.out 15 HC.out _ _ rfl HB9.out
    · have d1 : decide ((l.length : Int) ≥ 8) = false := decide_eq_false (by omega)
      have d2 : decide (8 ≤ l.length) = false := decide_eq_false h8
      have d3 : decide (n > 1073741824) = true := decide_eq_true (by omega)
      have d4 : decide (1073741824 < n) = true := decide_eq_true (by omega)
      clear hfull h8
      go_wp2_with fail
      try go_ret2
      exact HNO.out 15 HC.out _ _ rfl HB9.out
  case neg =>
  have d1 : decide ((l.length : Int) ≥ 8) = false := decide_eq_false (by omega)
  have d2 : decide (8 ≤ l.length) = false := decide_eq_false (by omega)
  have d3 : decide (n > 1073741824) = false := decide_eq_false (by omega)
  have d4 : decide (1073741824 < n) = false := decide_eq_false (by omega)
  have HFULL := Lib.hid hfull
  clear hfull
  have KC := Lib.hid (clone_any (HU.out.below HB3.out))
  go_wp2_with fail
  refine KC.out.mono ?_
  rintro e W4 ⟨S', rfl, hS', hu', hb⟩
  have HB4 := Lib.hid (below_next HB3.out hb)
  have HS4 := Lib.hid (Nat.le_trans HB3.out.size hS')
  have HU4 := Lib.hid hu'
  clear hb hu' hS' c0 c1 d1 d2 d3 d4 KC
  have KTH := Lib.hid (those_pure (HRS.out.below HB4.out) 65 #[.pointer (some ⟨w.heap.size, 0, none⟩)] (fun r => meetsU (r.2.1, r.2.2.1) (f, t)) (enters_of Try.func65 (by kernel_rfl) rfl) (fun r X hX => meets1 ((below_next HB4.out hX).block _ HSZ.out |>.trans HN1.out) r))
  go_wp2_with fail
  refine KTH.out.mono ?_
  rintro e W5 ⟨vm, rfl, hom, hb⟩
  have HB5 := Lib.hid (below_next HB4.out hb)
  have HU5 := Lib.hid (HU4.out.below hb)
  have hfl : (l.filter fun r => meetsU (r.2.1, r.2.2.1) (f, t)).length ≤ 8 := Nat.le_trans (List.length_filter_le _ _) HLEN.out
  obtain ⟨adm, cm, hvm, _, _, hrm⟩ := hom.rd
  have hS5 : S' < W4.heap.size := by obtain ⟨_, _, _, h2, _⟩ := HU4.out.at_; exact (Array.getElem?_eq_some_iff.1 h2).1
  subst hvm
  have KL := Lib.hid (lower_any (c := cm) HU5.out HR.out HL.out hfl (fun k hk => by
    obtain ⟨g, h1, h2, h3⟩ := hrm (by omega)
    have h4 := Ap.own_blk hom g (by rw [h1]; rfl)
    exact ⟨g, h1, h2, by omega, h3⟩))
  have HTH := Lib.hid (show ∀ j, j < W1.heap.size → j ≠ S' from fun j hj => by have := HS4.out; omega)
  clear hb KTH hom hfl hrm hS5
  go_wp2_with fail
  refine KL.out.mono ?_
  rintro e W6 ⟨rfl, hu6, hf6⟩
  have HU6 := Lib.hid hu6
  have HB6 := Lib.hid (show Below W1.heap.size W1 W6 from HB5.out.trans (hf6.below (B := W1.heap.size) HB5.out.size (fun j hj => by subst hj; exact HS4.out)))
  have n6 := (HB6.out.block _ HSZ.out).trans HN1.out
  have z0 : W6.cell? ⟨w.heap.size, 0, none⟩ = some (.int .i64 f) := cell_of_block (o := 0) n6 rfl
  have z1 : W6.cell? ⟨w.heap.size, 1, none⟩ = some (.int .i64 t) := cell_of_block (o := 1) n6 rfl
  have KF := Lib.hid (fits_any HU6.out f t W)
  clear hu6 hf6 n6 KL HU6 HU5 HU4
  generalize hfit : fitsU (lowerU L (l.filter fun r => meetsU (r.2.1, r.2.2.1) (f, t))) f t W = fit at *
  go_wp2_with fail
  refine KF.out.mono ?_
  rintro e W7 ⟨rfl, hb⟩
  have HB7 := Lib.hid (below_next HB6.out hb)
  clear hb z0 z1 KF HB6 HB5 HB4
  cases fit with
  | false =>
    have HB9 := Lib.hid (below_next HB1.out HB7.out)
    have HC := Lib.hid (show addR L l n f t W = (0, 16, l, n) by rw [HADD.out, if_neg (by decide), if_neg HFULL.out, if_pos rfl])
    go_wp2_with fail
    try go_ret2
    exact HNO.out 16 HC.out _ _ rfl HB9.out
  | true =>
  have HC := Lib.hid (show addR L l n f t W = (n, 0, l ++ [(n, f, t, W)], n + 1) by rw [HADD.out, if_neg (by decide), if_neg HFULL.out, if_neg (by decide)])
  clear HNO HADD
  have hn7 := (HB7.out.block _ HSZ.out).trans HN1.out
  have hF7 := (HB7.out.block _ (Array.getElem?_eq_some_iff.1 HF1.out).1).trans HF1.out
  have hO7 := HO1.out.below HB7.out
  have k1 := (Array.getElem?_eq_some_iff.1 hF7).1
  have k2 := (Array.getElem?_eq_some_iff.1 hn7).1
  have hzF : w.heap.size ≠ F := by have := HFB.out.2; omega
  go_upto_region 11 with fail
  refine Ap.wp_region_K (S1 := fun X => X.cell? ⟨F, 1, none⟩ = some (.int .i64 n) ∧ X.cell? ⟨w.heap.size, 0, none⟩ = some (.int .i64 f) ∧ X.cell? ⟨w.heap.size, 1, none⟩ = some (.int .i64 t)) (S2 := fun X => X.cell? ⟨F, 0, none⟩ = some (.slice ad l.length c)) (js := 16) hmx ?_
  change Ap.wpAnyK _ _ _ _ _ _ _ 17 _ _ W7.drew
  have hSS : (fun X : World => X.cell? ⟨F, 1, none⟩ = some (.int .i64 n) ∧ X.cell? ⟨w.heap.size, 0, none⟩ = some (.int .i64 f) ∧ X.cell? ⟨w.heap.size, 1, none⟩ = some (.int .i64 t)) W7.drew ∧ (fun X : World => X.cell? ⟨F, 0, none⟩ = some (.slice ad l.length c)) W7.drew := ⟨⟨cell_of_block (o := 1) hF7 rfl, cell_of_block (o := 0) hn7 rfl, cell_of_block (o := 1) hn7 rfl⟩, cell_of_block (o := 0) hF7 rfl⟩
  have HF7 := Lib.hid (show W7.drew.heap[F]? = some (.cells #[.slice ad l.length c, .int .i64 n] 111 (0, 0)) from hF7)
  have HO7 := Lib.hid (show OwnR W7.drew B (.slice ad l.length c) l from hO7.below (show Below W7.heap.size W7 W7.drew from (Below.refl _ _).drew))
  have HN7 := Lib.hid (show W7.drew.heap[w.heap.size]? = some (.cells #[.int .i64 f, .int .i64 t] 39 (0, 0)) from hn7)
  have HB8 := Lib.hid (show Below W1.heap.size W1 W7.drew from HB7.out.drew)
  generalize W7.drew = V0 at *
  clear hn7 hF7 hO7 k1 k2 HB7
  refine Ap.wpAnyK_take1 (i := 0) (v := .pointer (some ⟨F, 0, none⟩)) rfl (by decide) (by decide +kernel) (by decide +kernel) (by decide +kernel) (fun _ _ _ h => h) (.inl ⟨by first | rfl | (go_simp; done), fun X hX => by have hx1 := hX.1; have hx2 := hX.2.1; have hx3 := hX.2.2; clear hX; first | (go_simp; done) | (go_simp; rfl)⟩) hSS ?_
  refine Ap.wpAnyK_take1 (i := 1) (v := .pointer (some ⟨F, 0, none⟩)) rfl (by decide) (by decide +kernel) (by decide +kernel) (by decide +kernel) (fun _ _ _ h => h) (.inl ⟨by first | rfl | (go_simp; done), fun X hX => by have hx1 := hX.1; have hx2 := hX.2.1; have hx3 := hX.2.2; clear hX; first | (go_simp; done) | (go_simp; rfl)⟩) hSS ?_
  refine Ap.wpAnyK_take1 (i := 2) (v := .pointer (some ⟨F, 0, none⟩)) rfl (by decide) (by decide +kernel) (by decide +kernel) (by decide +kernel) (fun _ _ _ h => h) (.inl ⟨by first | rfl | (go_simp; done), fun X hX => by have hx1 := hX.1; have hx2 := hX.2.1; have hx3 := hX.2.2; clear hX; first | (go_simp; done) | (go_simp; rfl)⟩) hSS ?_
  refine Ap.wpAnyK_take1 (i := 3) (v := .pointer (some ⟨F, 0, none⟩)) rfl (by decide) (by decide +kernel) (by decide +kernel) (by decide +kernel) (fun _ _ _ h => h) (.inl ⟨by first | rfl | (go_simp; done), fun X hX => by have hx1 := hX.1; have hx2 := hX.2.1; have hx3 := hX.2.2; clear hX; first | (go_simp; done) | (go_simp; rfl)⟩) hSS ?_
  refine Ap.wpAnyK_take2 (i := 4) (v := .slice ad l.length c) rfl (by decide) (by decide +kernel) (by decide +kernel) (by decide +kernel) rfl (by decide +kernel) (by decide +kernel) (fun _ _ _ h => h) (.inl ⟨by first | rfl | (go_simp; done), fun X hX => by have hx1 := hX.2; clear hX; first | (go_simp; done) | (go_simp; rfl)⟩) hSS ?_
  refine Ap.wpAnyK_take1 (i := 5) (v := .pointer (some ⟨F, 0, none⟩)) rfl (by decide) (by decide +kernel) (by decide +kernel) (by decide +kernel) (fun _ _ _ h => h) (.inl ⟨by first | rfl | (go_simp; done), fun X hX => by have hx1 := hX.1; have hx2 := hX.2.1; have hx3 := hX.2.2; clear hX; first | (go_simp; done) | (go_simp; rfl)⟩) hSS ?_
  refine Ap.wpAnyK_take1 (i := 6) (v := .pointer (some ⟨F, 0, none⟩)) rfl (by decide) (by decide +kernel) (by decide +kernel) (by decide +kernel) (fun _ _ _ h => h) (.inl ⟨by first | rfl | (go_simp; done), fun X hX => by have hx1 := hX.1; have hx2 := hX.2.1; have hx3 := hX.2.2; clear hX; first | (go_simp; done) | (go_simp; rfl)⟩) hSS ?_
  refine Ap.wpAnyK_take1 (i := 7) (v := .pointer (some ⟨F, 1, none⟩)) rfl (by decide) (by decide +kernel) (by decide +kernel) (by decide +kernel) (fun _ _ _ h => h) (.inl ⟨by first | rfl | (go_simp; done), fun X hX => by have hx1 := hX.1; have hx2 := hX.2.1; have hx3 := hX.2.2; clear hX; first | (go_simp; done) | (go_simp; rfl)⟩) hSS ?_
  refine Ap.wpAnyK_take1 (i := 8) (v := .int .i64 n) rfl (by decide) (by decide +kernel) (by decide +kernel) (by decide +kernel) (fun _ _ _ h => h) (.inl ⟨by first | rfl | (go_simp; done), fun X hX => by have hx1 := hX.1; have hx2 := hX.2.1; have hx3 := hX.2.2; clear hX; first | (go_simp; done) | (go_simp; rfl)⟩) hSS ?_
  refine Ap.wpAnyK_take1 (i := 9) (v := .agg #[.int .i64 f, .int .i64 t]) rfl (by decide) (by decide +kernel) (by decide +kernel) (by decide +kernel) (fun _ _ _ h => h) (.inl ⟨by first | rfl | (go_simp; done), fun X hX => by have hx1 := hX.1; have hx2 := hX.2.1; have hx3 := hX.2.2; clear hX; first | (go_simp; done) | (go_simp; rfl)⟩) hSS ?_
  refine Ap.wpAnyK_take1 (i := 10) (v := .int .i64 W) rfl (by decide) (by decide +kernel) (by decide +kernel) (by decide +kernel) (fun _ _ _ h => h) (.inl ⟨by first | rfl | (go_simp; done), fun X hX => by have hx1 := hX.1; have hx2 := hX.2.1; have hx3 := hX.2.2; clear hX; first | (go_simp; done) | (go_simp; rfl)⟩) hSS ?_
  refine Ap.wpAnyK_take1 (i := 11) (v := .agg #[.int .i64 n, .int .i64 f, .int .i64 t, .int .i64 W]) rfl (by decide) (by decide +kernel) (by decide +kernel) (by decide +kernel) (fun _ _ _ h => h) (.inl ⟨by first | rfl | (go_simp; done), fun X hX => by have hx1 := hX.1; have hx2 := hX.2.1; have hx3 := hX.2.2; clear hX; first | (go_simp; done) | (go_simp; rfl)⟩) hSS ?_
  have HSS := Lib.hid hSS
  clear hSS
  have hba := below_alloc (Below.refl _ V0) (.cells #[.int .i64 n, .int .i64 f, .int .i64 t, .int .i64 W] 125)
  have hS1 : (fun X : World => X.cell? ⟨F, 1, none⟩ = some (.int .i64 n) ∧ X.cell? ⟨w.heap.size, 0, none⟩ = some (.int .i64 f) ∧ X.cell? ⟨w.heap.size, 1, none⟩ = some (.int .i64 t)) (V0.alloc (.cells #[.int .i64 n, .int .i64 f, .int .i64 t, .int .i64 W] 125)) ∧ (fun X : World => X.cell? ⟨F, 0, none⟩ = some (.slice ad l.length c)) (V0.alloc (.cells #[.int .i64 n, .int .i64 f, .int .i64 t, .int .i64 W] 125)) := by
    have a1 := (hba.block _ (Array.getElem?_eq_some_iff.1 HF7.out).1).trans HF7.out
    have a2 := (hba.block _ (Array.getElem?_eq_some_iff.1 HN7.out).1).trans HN7.out
    exact ⟨⟨cell_of_block (o := 1) a1 rfl, cell_of_block (o := 0) a2 rfl, cell_of_block (o := 1) a2 rfl⟩, cell_of_block (o := 0) a1 rfl⟩
  refine Ap.anyK_val1 (i := 12) (v := .slice (some ⟨V0.heap.size, 0, none⟩) 1 1) (w' := V0.alloc (.cells #[.int .i64 n, .int .i64 f, .int .i64 t, .int .i64 W] 125)) (by decide +kernel) rfl rfl (by first | (go_simp; done) | (go_simp; rfl)) hS1 ?_
  have HLE := Lib.hid (show l.length ≤ 8 from HLEN.out)
  obtain ⟨v9, W9, g0, g1, g2, g3, g4, g5⟩ := Ao.app_one eltR 109 HO7.out (cellR (n, f, t, W)) rfl (cellR_one _) (by have := HLE.out; omega) (by decide) (by have := HFB.out.1; have := (Array.getElem?_eq_some_iff.1 HF7.out).1; omega)
  have HO9 := Lib.hid (show OwnR W9 B v9 (l ++ [(n, f, t, W)]) from by
    unfold OwnR
    rw [List.length_append, flatR_snoc]
    exact g1)
  obtain ⟨a9, c9, hf9⟩ := HO9.out.form
  rw [List.length_append] at hf9
  have hf8 : v9 = .slice a9 (l.length + 1) c9 := hf9
  subst hf8
  have hne0 : ∀ k, k = F ∨ k = w.heap.size → (Value.slice ad l.length c).ownBlock ≠ some k := fun k hk e => by
    rcases hk with rfl | rfl
    · exact HNE.out e
    · have := HOW.out _ e; omega
  have a1 := (g2 F (Array.getElem?_eq_some_iff.1 HF7.out).1 (hne0 F (.inl rfl))).trans HF7.out
  have a2 := (g2 w.heap.size (Array.getElem?_eq_some_iff.1 HN7.out).1 (hne0 _ (.inr rfl))).trans HN7.out
  have hS2 : (fun X : World => X.cell? ⟨F, 1, none⟩ = some (.int .i64 n) ∧ X.cell? ⟨w.heap.size, 0, none⟩ = some (.int .i64 f) ∧ X.cell? ⟨w.heap.size, 1, none⟩ = some (.int .i64 t)) W9 ∧ (fun X : World => X.cell? ⟨F, 0, none⟩ = some (.slice ad l.length c)) W9 :=
    ⟨⟨cell_of_block (o := 1) a1 rfl, cell_of_block (o := 0) a2 rfl, cell_of_block (o := 1) a2 rfl⟩, cell_of_block (o := 0) a1 rfl⟩
  refine Ap.anyK_val1 (i := 13) (v := .slice a9 (l.length + 1) c9) (w' := W9) (by decide +kernel) rfl rfl (Ap.exec_app rfl (by go_simp) (by go_simp) g0) hS2 ?_
  have hSS := hS2
  clear hS1 hba
  refine Ap.wpAnyK_take1 (i := 14) (v := .pointer (some ⟨F, 0, none⟩)) rfl (by decide) (by decide +kernel) (by decide +kernel) (by decide +kernel) (fun _ _ _ h => h) (.inl ⟨by first | rfl | (go_simp; done), fun X hX => by have hx1 := hX.1; have hx2 := hX.2.1; have hx3 := hX.2.2; clear hX; first | (go_simp; done) | (go_simp; rfl)⟩) hSS ?_
  refine Ap.wpAnyK_take1 (i := 15) (v := .pointer (some ⟨F, 0, none⟩)) rfl (by decide) (by decide +kernel) (by decide +kernel) (by decide +kernel) (fun _ _ _ h => h) (.inl ⟨by first | rfl | (go_simp; done), fun X hX => by have hx1 := hX.1; have hx2 := hX.2.1; have hx3 := hX.2.2; clear hX; first | (go_simp; done) | (go_simp; rfl)⟩) hSS ?_
  have y0 := cell_of_block (o := 0) a1 rfl
  have f0 := free_of_block 0 a1
  have hw := (wrote_refl a1).set 0 (.slice a9 (l.length + 1) c9)
  have hs3 : (fun X : World => X.cell? ⟨F, 1, none⟩ = some (.int .i64 n) ∧ X.cell? ⟨w.heap.size, 0, none⟩ = some (.int .i64 f) ∧ X.cell? ⟨w.heap.size, 1, none⟩ = some (.int .i64 t)) (W9.setCell ⟨F, 0, none⟩ (.slice a9 (l.length + 1) c9)) :=
    ⟨cell_of_block (o := 1) hw.there rfl, cell_of_block (o := 0) ((hw.rest _ hzF).trans a2) rfl, cell_of_block (o := 1) ((hw.rest _ hzF).trans a2) rfl⟩
  have HW := Lib.hid hw
  have HG := Lib.hid (And.intro g2 (And.intro g3 (And.intro g4 g5)))
  clear hw g0 g1 g2 g3 g4 g5 hS2
  refine Ap.anyK_store (i := 16) (w' := W9.setCell ⟨F, 0, none⟩ (.slice a9 (l.length + 1) c9)) (by decide +kernel) rfl rfl (by decide +kernel) (by first | (go_simp; done) | (go_simp; rfl)) hs3 ?_
  refine Ap.wpAnyK_done (by decide +kernel) ?_ _
  have HNF := Lib.hid (show (Value.slice a9 (l.length + 1) c9).ownBlock ≠ some F from fun e => by
    rcases HG.out.2.2.1 F e with h1 | h1
    · exact HNE.out h1
    · have := (Array.getElem?_eq_some_iff.1 HF7.out).1; omega)
  clear hs3 hSS y0 f0 a1 a2
  have HT := Lib.hid (show (W9.setCell ⟨F, 0, none⟩ (.slice a9 (l.length + 1) c9)).heap[F]? = some (.cells #[.slice a9 (l.length + 1) c9, .int .i64 n] 111 (0, 0)) from HW.out.there)
  have hc1 := cell_of_block (o := 1) HT.out rfl
  have hf1 := free_of_block 1 HT.out
  have hwn : IntKind.i64.wrap (n + 1) = n + 1 := by have := HPOS.out; rw [IntKind.wrap_i64]; omega
  have hwm : IntKind.i64.wrap (n + 1 - 1) = n := by have := HPOS.out; rw [IntKind.wrap_i64]; omega
  go_simp
  generalize hWX : W9.setCell ⟨F, 0, none⟩ (.slice a9 (l.length + 1) c9) = WX at *
  have hw2 := (wrote_refl HT.out).set 1 (.int .i64 (n + 1))
  have HT2 := Lib.hid (show (WX.setCell ⟨F, 1, none⟩ (.int .i64 (n + 1))).heap[F]? = some (.cells #[.slice a9 (l.length + 1) c9, .int .i64 (n + 1)] 111 (0, 0)) from hw2.there)
  have hc2 := cell_of_block (o := 1) HT2.out rfl
  have HW2 := Lib.hid hw2
  clear hw2
  go_upto_region 13 with fail
  generalize WX.setCell ⟨F, 1, none⟩ (.int .i64 (n + 1)) = WY at *
  have HRES := Lib.hid (show Rs WY B F (l ++ [(n, f, t, W)]) (n + 1) from by
    refine ⟨⟨_, HT2.out, (HO9.out.keep fun k hk => ?_), HNF.out⟩, by have := HPOS.out; have := HFULL.out; omega, by have := HFULL.out; have := HLE.out; rw [List.length_append]; simp only [List.length_cons, List.length_nil]; omega⟩
    have hkF : k ≠ F := fun e => HNF.out (by rw [← e]; exact hk)
    rw [HW2.out.rest k hkF]
    exact HW.out.rest k hkF)
  have HFRL := Lib.hid (show FrL F w WY from by
    have hb0 := HB1.out
    have e1 : w.heap.size ≤ V0.heap.size := Nat.le_trans hb0.size HB8.out.size
    have e2 : WY.heap.size = W9.heap.size := by rw [HW2.out.size, HW.out.size]
    refine ⟨?_, ?_, ?_, by rw [e2]; exact Nat.le_trans e1 HG.out.2.1, fun b hb hn hr => ⟨?_, ?_⟩⟩
    · exact HW2.out.os.trans (HW.out.os.trans (HG.out.2.2.2.os.trans (HB8.out.os.trans hb0.os)))
    · exact HW2.out.tape.trans (HW.out.tape.trans (HG.out.2.2.2.tape.trans (HB8.out.tape.trans hb0.tape)))
    · exact HW2.out.output.trans (HW.out.output.trans (HG.out.2.2.2.output.trans (HB8.out.output.trans hb0.output)))
    · have hbz : b < W1.heap.size := Nat.lt_of_lt_of_le hb hb0.size
      have hbV : b < V0.heap.size := Nat.lt_of_lt_of_le hb e1
      have hne : (Value.slice ad l.length c).ownBlock ≠ some b := fun e => by
        cases ad with
        | none => cases e
        | some a =>
          obtain ⟨g, cp, cur, hq, _⟩ : ∃ g cp cur, Value.slice (some a) l.length c = .slice (some ⟨g, 0, none⟩) l.length cp ∧ cur = 0 := by
            rcases HO7.out.2 with ⟨h1, _⟩ | ⟨g, cp, _, h1, _⟩
            · cases h1
            · exact ⟨g, cp, 0, h1, rfl⟩
          rw [hq] at e
          simp only [Value.ownBlock, Option.some.injEq] at e
          subst e
          rw [hq] at HF0
          exact hr ⟨_, _, _, HF0.out⟩
      rw [HW2.out.rest b hn, HW.out.rest b hn, HG.out.1 b hbV hne, HB8.out.block b hbz, hb0.block b hb]
    · rintro ⟨m, cc, x, hx⟩
      rw [HT2.out] at hx
      simp only [Option.some.injEq, Obj.cells.injEq, Array.mk.injEq, List.cons.injEq, and_true, true_and, Value.slice.injEq] at hx
      obtain ⟨⟨rfl, _, _⟩, _⟩ := hx
      rcases HG.out.2.2.1 b rfl with h1 | h1
      · refine hr ?_
        cases ad with
        | none => cases h1
        | some a =>
          obtain ⟨g, cp, hq⟩ : ∃ g cp, Value.slice (some a) l.length c = .slice (some ⟨g, 0, none⟩) l.length cp := by
            rcases HO7.out.2 with ⟨h1, _⟩ | ⟨g, cp, _, h1, _⟩
            · cases h1
            · exact ⟨g, cp, h1⟩
          rw [hq] at h1
          simp only [Value.ownBlock, Option.some.injEq] at h1
          subst h1
          rw [hq] at HF0
          exact ⟨_, _, _, HF0.out⟩
      · omega)
  clear HT HW HW2 HG HO9 HO7 HF7 HN7 HB8 hc1 hf1
  go_wp2_with fail
  try go_ret2
  have HW64 := Lib.hid (show wrap64 n = n from by have := HPOS.out; have := HFULL.out; unfold wrap64; omega)
  exact HYES.out HC.out _ _ (by rw [HW64.out]) HRES.out HFRL.out
end Go.Proofs.Ytbhnjmdlagjfbaa
namespace Go.Proofs.Ytbhnjmdlagjfbaa
set_option linter.unusedVariables false
open Go.ChangeShapes Go.WideShapes Go.ChangeAt Go.RowKit
attribute [local go_sem ↓] Go.wp_at_zero Go.wp_at_succ comesTo_value_eq comesTo_skip_eq comesTo_enter_eq

/-- what the iterator has caught: the row of steps, the width, the first time, how many times -/
structure StartsAt (w : World) (lb : Array Value) (B : Nat) (L : List (Int × Int)) (F m W : Int) : Prop where
  at_ : ∃ b0 b1 b2 b3 g c, lb = #[.pointer (some ⟨b0, 0, none⟩), .pointer (some ⟨b1, 0, none⟩), .pointer (some ⟨b2, 0, none⟩), .pointer (some ⟨b3, 0, none⟩)] ∧ B ≤ b0 ∧ B ≤ b1 ∧ B ≤ b2 ∧ B ≤ b3 ∧ B ≤ g ∧ g < w.heap.size ∧
    w.heap[b0]? = some (.cells #[.slice (some ⟨g, 0, none⟩) L.length c] 135 (0, 0)) ∧ w.heap[b1]? = some (.cells #[.int .i64 W] 3 (0, 0)) ∧ w.heap[b2]? = some (.cells #[.int .i64 F] 37 (0, 0)) ∧ w.heap[b3]? = some (.cells #[.int .i64 m] 37 (0, 0)) ∧ URow w g L ∧ L.length ≤ c
set_option maxRecDepth 100000 in
set_option maxHeartbeats 4000000 in
theorem starts_any {w : World} {v : Value} {L : List (Int × Int)} (from_ many W : Int)
    (hL : ∀ X, Below w.heap.size w X → Calls Try.prog 154 #[v] X fun e w' => ∃ g c, e = .returned (.slice (some ⟨g, 0, none⟩) L.length c) ∧ X.heap.size ≤ g ∧ g < w'.heap.size ∧ L.length ≤ c ∧ URow w' g L ∧ Below X.heap.size X w') :
    Calls Try.prog 126 #[v, .int .i64 from_, .int .i64 many, .int .i64 W] w fun e w' => ∃ lb, e = .returned (.func (.func 155) #[] lb) ∧ StartsAt w' lb w.heap.size L (clampI from_) (maxU (clampI many) 1) W ∧ Below w.heap.size w w' := by
  have hmx : Try.prog.follows .mixedOrders = true := by kernel_rfl
  have hb1 := below_alloc (Below.refl _ w) (.cells #[.int .i64 from_] 37)
  have hb2 := below_alloc hb1 (.cells #[.int .i64 many] 37)
  have hb3 := below_alloc hb2 (.cells #[.int .i64 W] 3)
  have e1 : (w.alloc (.cells #[.int .i64 from_] 37)).heap.size = w.heap.size + 1 := by simp
  have e2 : ((w.alloc (.cells #[.int .i64 from_] 37)).alloc (.cells #[.int .i64 many] 37)).heap.size = w.heap.size + 1 + 1 := by simp
  have n3 := World.alloc_heap_new ((w.alloc (.cells #[.int .i64 from_] 37)).alloc (.cells #[.int .i64 many] 37)) (.cells #[.int .i64 W] 3)
  have n2 := ((below_alloc (Below.refl _ ((w.alloc (.cells #[.int .i64 from_] 37)).alloc (.cells #[.int .i64 many] 37))) (.cells #[.int .i64 W] 3)).block (w.heap.size + 1) (by omega)).trans (e1 ▸ World.alloc_heap_new (w.alloc (.cells #[.int .i64 from_] 37)) (.cells #[.int .i64 many] 37))
  have n1 := ((below_alloc (below_alloc (Below.refl _ (w.alloc (.cells #[.int .i64 from_] 37))) (.cells #[.int .i64 many] 37)) (.cells #[.int .i64 W] 3)).block w.heap.size (by omega)).trans (World.alloc_heap_new w (.cells #[.int .i64 from_] 37))
  rw [e2] at n3
  have KL := Lib.hid hL
  have HB3 := Lib.hid hb3
  clear hb1 hb2 hb3 hL e1 e2
  obtain ⟨F, hF⟩ : ∃ F, F = clampI from_ := ⟨_, rfl⟩
  obtain ⟨m, hm⟩ : ∃ m, m = maxU (clampI many) 1 := ⟨_, rfl⟩
  rw [← hF, ← hm]
  have KC1 := Lib.hid (show ∀ X, Calls Try.prog 105 #[.int .i64 from_] X fun e w' => e = .returned (.int .i64 F) ∧ X = w' from fun X => hF ▸ clamp_any from_ X)
  obtain ⟨cm, hcm⟩ : ∃ c, c = clampI many := ⟨_, rfl⟩
  have KC2 := Lib.hid (show ∀ X, Calls Try.prog 105 #[.int .i64 many] X fun e w' => e = .returned (.int .i64 cm) ∧ X = w' from fun X => hcm ▸ clamp_any many X)
  rw [← hcm] at hm
  have HM := Lib.hid hm
  clear hF hm hcm
  go_enter Try.func126, Try.ntmps126
  go_upto_region 1 with fail
  generalize ((w.alloc (.cells #[.int .i64 from_] 37)).alloc (.cells #[.int .i64 many] 37)).alloc (.cells #[.int .i64 W] 3) = W3 at *
  have l1 := (Array.getElem?_eq_some_iff.1 n1).1
  have l2 := (Array.getElem?_eq_some_iff.1 n2).1
  have l3 := (Array.getElem?_eq_some_iff.1 n3).1
  go_wp2_with fail
  refine (KL.out _ HB3.out).mono ?_
  rintro e W4 ⟨g, c, rfl, g1, g2, g3, g4, hb4⟩
  have hbA := below_alloc (Below.refl _ W4) (.cells #[.slice (some ⟨g, 0, none⟩) L.length c] 135)
  have nA := World.alloc_heap_new W4 (.cells #[.slice (some ⟨g, 0, none⟩) L.length c] 135)
  have m1 := (hbA.block _ (Nat.lt_of_lt_of_le l1 hb4.size)).trans ((hb4.block _ l1).trans n1)
  have m2 := (hbA.block _ (Nat.lt_of_lt_of_le l2 hb4.size)).trans ((hb4.block _ l2).trans n2)
  have m3 := (hbA.block _ (Nat.lt_of_lt_of_le l3 hb4.size)).trans ((hb4.block _ l3).trans n3)
  have HB5 := Lib.hid (below_next (below_next HB3.out hb4) hbA)
  have hrow := g4.mono (hbA.block _ g2)
  have hR4 : W3.heap.size ≤ W4.heap.size := hb4.size
  have hg5 : g < (W4.alloc (.cells #[.slice (some ⟨g, 0, none⟩) L.length c] 135)).heap.size := Nat.lt_of_lt_of_le g2 hbA.size
  obtain ⟨R, hRe⟩ : ∃ R, R = W4.heap.size := ⟨_, rfl⟩
  have NA := Lib.hid (hRe ▸ nA)
  have HRow := Lib.hid hrow
  clear nA hrow g4 hb4 hbA n1 n2 n3 KL
  go_upto_region 2 with fail
  rw [← hRe] at g2 hR4 ⊢
  clear hRe
  generalize W4.alloc (.cells #[.slice (some ⟨g, 0, none⟩) L.length c] 135) = W5 at *
  have k1 := (Array.getElem?_eq_some_iff.1 m1).1
  have k2 := (Array.getElem?_eq_some_iff.1 m2).1
  have c1 := cell_of_block (o := 0) m1 rfl
  have c2 := cell_of_block (o := 0) m2 rfl
  have v1 := free_of_block 0 m1
  have v2 := free_of_block 0 m2
  have hmm : (cm < 1 ∧ m = 1) ∨ (1 ≤ cm ∧ m = cm) := by rw [HM.out]; unfold maxU; split <;> omega
  have hw := (wrote_refl m1).set 0 (.int .i64 F)
  have hw2 := (wrote_refl ((hw.rest (w.heap.size + 1) (by omega)).trans m2)).set 0 (.int .i64 m)
  have hWB : Below w.heap.size w (((W5.setCell ⟨w.heap.size, 0, none⟩ (.int .i64 F)).setCell ⟨w.heap.size + 1, 0, none⟩ (.int .i64 m)).drew) := Below.drew (hw2.below (hw.below HB5.out (Nat.le_refl _)) (by omega))
  have hX : StartsAt (((W5.setCell ⟨w.heap.size, 0, none⟩ (.int .i64 F)).setCell ⟨w.heap.size + 1, 0, none⟩ (.int .i64 m)).drew) #[.pointer (some ⟨R, 0, none⟩), .pointer (some ⟨w.heap.size + 1 + 1, 0, none⟩), .pointer (some ⟨w.heap.size, 0, none⟩), .pointer (some ⟨w.heap.size + 1, 0, none⟩)] w.heap.size L F m W := by
    have hk : ∀ k, k ≠ w.heap.size → k ≠ w.heap.size + 1 → (((W5.setCell ⟨w.heap.size, 0, none⟩ (.int .i64 F)).setCell ⟨w.heap.size + 1, 0, none⟩ (.int .i64 m)).drew).heap[k]? = W5.heap[k]? := fun k h1 h2 => (hw2.rest k h2).trans (hw.rest k h1)
    have hz : (((W5.setCell ⟨w.heap.size, 0, none⟩ (.int .i64 F)).setCell ⟨w.heap.size + 1, 0, none⟩ (.int .i64 m)).drew).heap.size = W5.heap.size := hw2.size.trans hw.size
    refine ⟨R, w.heap.size + 1 + 1, w.heap.size, w.heap.size + 1, g, c, rfl, by omega, by omega, by omega, by omega, by omega, by rw [hz]; exact hg5, (hk R (by omega) (by omega)).trans NA.out, (hk _ (by omega) (by omega)).trans m3, (hw2.rest w.heap.size (by omega)).trans hw.there, hw2.there, HRow.out.mono (hk g (by omega) (by omega)), g3⟩
  have HX := Lib.hid (And.intro hX hWB)
  clear hw hw2 hWB hX m1 m2 m3 NA HRow
  rcases hmm with ⟨h1, rfl⟩ | ⟨h1, rfl⟩
  all_goals (
    go_region_with (go_at_call 105; first | (refine (KC1.out _).mono ?_; rintro e w' ⟨rfl, rfl⟩) | (refine (KC2.out _).mono ?_; rintro e w' ⟨rfl, rfl⟩))
    all_goals (
      go_wp2_with fail
      go_ret
      exact ⟨_, rfl, HX.out.1, HX.out.2⟩))
end Go.Proofs.Ytbhnjmdlagjfbaa
namespace Go.Proofs.Ytbhnjmdlagjfbaa
set_option linter.unusedVariables false
open Go.ChangeShapes Go.WideShapes Go.ChangeAt Go.RowKit
attribute [local go_sem ↓] Go.wp_at_zero Go.wp_at_succ comesTo_value_eq comesTo_skip_eq comesTo_enter_eq

structure ChgC where
  f : Int
  t : Int
  set : Bool
  n : Int
def chgD : ChgC := ⟨0, 0, false, 0⟩
def chgV (c : ChgC) : List Value := [.int .i64 c.f, .int .i64 c.t, .bool c.set, .int .i64 c.n]
def flatC : List ChgC → List Value
  | [] => []
  | c :: r => .int .i64 c.f :: .int .i64 c.t :: .bool c.set :: .int .i64 c.n :: flatC r
theorem flatC_length : ∀ l, (flatC l).length = l.length * 4
  | [] => rfl
  | p :: r => by simp [flatC, flatC_length r]; omega
theorem flatC_append : ∀ a b, flatC (a ++ b) = flatC a ++ flatC b
  | [], b => rfl
  | p :: r, b => by simp [flatC, flatC_append r b]
theorem flatC_get : ∀ (l : List ChgC) (k : Nat), k < l.length → (flatC l)[k * 4]? = some (.int .i64 (l.getD k chgD).f) ∧ (flatC l)[k * 4 + 1]? = some (.int .i64 (l.getD k chgD).t) ∧ (flatC l)[k * 4 + 2]? = some (.bool (l.getD k chgD).set) ∧ (flatC l)[k * 4 + 3]? = some (.int .i64 (l.getD k chgD).n)
  | [], k, h => by simp at h
  | p :: r, 0, _ => by simp [flatC]
  | p :: r, k + 1, h => by
    have := flatC_get r k (by simpa using h)
    rw [show (k + 1) * 4 = k * 4 + 1 + 1 + 1 + 1 by omega]
    simpa [flatC] using this
theorem flatC_one (l : List ChgC) : ∀ u ∈ flatC l, u.oneCell' = true := by
  induction l with
  | nil => intro u hu; simp [flatC] at hu
  | cons p r ih =>
    intro u hu
    simp only [flatC, List.mem_cons] at hu
    rcases hu with rfl | rfl | rfl | rfl | hu
    · rfl
    · rfl
    · rfl
    · rfl
    · exact ih u hu
/-- a row of changes that may be read -/
def RowC (w : World) (v : Value) (C : List ChgC) : Prop := ∃ ad c, v = .slice ad C.length c ∧ (ad = none → C.length = 0) ∧ ∀ a, ad = some a → ∃ g, a = ⟨g, 0, none⟩ ∧ (0 < C.length → g < w.heap.size ∧ ∀ j u, (flatC C)[j]? = some u → w.cell? ⟨g, j, none⟩ = some u)
theorem RowC.mono {w w' : World} {v : Value} {C : List ChgC} (h : RowC w v C) (hs : w.heap.size ≤ w'.heap.size) (hk : ∀ g, g < w.heap.size → (∀ j u, (flatC C)[j]? = some u → w.cell? ⟨g, j, none⟩ = some u) → 0 < C.length → w'.heap[g]? = w.heap[g]?) : RowC w' v C := by
  obtain ⟨ad, c, rfl, h0, h1⟩ := h
  refine ⟨ad, c, rfl, h0, fun a ha => ?_⟩
  obtain ⟨g, rfl, hg⟩ := h1 a ha
  refine ⟨g, rfl, fun hp => ?_⟩
  obtain ⟨g1, g2⟩ := hg hp
  refine ⟨Nat.lt_of_lt_of_le g1 hs, fun j u hj => ?_⟩
  have := g2 j u hj
  unfold World.cell? at this ⊢
  simp only [hk g g1 g2 hp]
  exact this
theorem RowC.below {w w' : World} {v : Value} {C : List ChgC} (h : RowC w v C) (hb : Below w.heap.size w w') : RowC w' v C := h.mono hb.size fun g hg _ _ => hb.block g hg
theorem RowC.nil (w : World) : RowC w (.slice none 0 0) [] := ⟨none, 0, rfl, fun _ => rfl, fun a h => by cases h⟩
theorem RowC.rd {w : World} {v : Value} {C : List ChgC} (h : RowC w v C) : Ap.RdG w 4 v C.length (flatC C) := by
  obtain ⟨ad, c, rfl, h0, h1⟩ := h
  refine ⟨⟨ad, c, rfl, h0, fun a ha j u hj => ?_, fun a ha hm => ?_⟩, flatC_length C, flatC_one C⟩
  · obtain ⟨g, rfl, hg⟩ := h1 a ha
    have hm : 0 < C.length := by
      rcases Nat.eq_zero_or_pos C.length with e | e
      · rw [List.eq_nil_of_length_eq_zero e] at hj; simp [flatC] at hj
      · exact e
    have hadd : (⟨g, 0, none⟩ : Addr).add j = ⟨g, j, none⟩ := by unfold Addr.add; split <;> simp_all
    rw [hadd]
    exact (hg hm).2 j u hj
  · obtain ⟨g, rfl, hg⟩ := h1 a ha
    exact (hg hm).1
theorem RowC.own {w : World} {B : Nat} {v : Value} {C : List ChgC} (h : w.ownsRow B 175 4 v C.length (flatC C)) : RowC w v C := by
  have hl := flatC_length C
  rcases h.2 with ⟨rfl, h0⟩ | ⟨g, cap, cur, rfl, hB, hg, hc, _⟩
  · exact ⟨none, 0, by rw [h0], fun _ => h0, fun a ha => by cases ha⟩
  · refine ⟨_, cap, rfl, (fun h => by cases h), fun a ha => ⟨g, (Option.some.inj ha).symm, fun hp => ⟨(Array.getElem?_eq_some_iff.1 hg).1, fun j u hj => ?_⟩⟩⟩
    have hlt : j < (flatC C).length := (List.getElem?_eq_some_iff.1 hj).1
    exact (h.cellAt j (by omega)).trans hj
theorem RowC.at {w : World} {v : Value} {C : List ChgC} (h : RowC w v C) {k : Nat} (hk : k < C.length) : ∃ g c, v = .slice (some ⟨g, 0, none⟩) C.length c ∧ g < w.heap.size ∧ w.cell? ⟨g, k * 4, none⟩ = some (.int .i64 (C.getD k chgD).f) ∧ w.cell? ⟨g, k * 4 + 1, none⟩ = some (.int .i64 (C.getD k chgD).t) ∧ w.cell? ⟨g, k * 4 + 2, none⟩ = some (.bool (C.getD k chgD).set) ∧ w.cell? ⟨g, k * 4 + 3, none⟩ = some (.int .i64 (C.getD k chgD).n) := by
  obtain ⟨ad, c, rfl, h0, h1⟩ := h
  cases ad with
  | none => have := h0 rfl; omega
  | some a =>
    obtain ⟨g, rfl, hg⟩ := h1 a rfl
    obtain ⟨g1, g2⟩ := hg (by omega)
    have hf := flatC_get C k hk
    exact ⟨g, c, rfl, g1, g2 _ _ hf.1, g2 _ _ hf.2.1, g2 _ _ hf.2.2.1, g2 _ _ hf.2.2.2⟩
theorem RowC.form {w : World} {v : Value} {C : List ChgC} (h : RowC w v C) : ∃ ad c, v = .slice ad C.length c := by
  obtain ⟨ad, c, e, _⟩ := h
  exact ⟨ad, c, e⟩
/-- one change more, at a time -/
def ratStep (x : Int) (v : Int) (c : ChgC) : Int := if holdsI (c.f, c.t) x then (if c.set then boundU c.n else addF (byU c.n) v) else v
/-- the document's level at a time -/
def ratU (first : Int) (C : List ChgC) (t : Int) : Int := C.foldl (ratStep (if clampI t = 1099511627776 then 1099511627775 else clampI t)) (boundU first)
theorem w64_eq (n : Int) : IntKind.i64.wrap n = wrap64 n := by rw [IntKind.wrap_i64]; unfold wrap64; rfl
theorem rclampU_any (n : Int) (w : World) : Calls Try.prog 148 #[.int .i64 n] w fun e w' => e = .returned (.int .i64 (boundU n)) ∧ w = w' := by
  by_cases h1 : n < -1000000
  · have E : boundU n = -1000000 := by unfold boundU; rw [if_pos h1]
    have h2 : n ≤ 1000000 := by omega
    rw [E]
    go_enter Try.func148, Try.ntmps148
    go_wp2
    all_goals go_ret
    all_goals first | exact ⟨rfl, rfl⟩ | (refine ⟨ret_int ?_, rfl⟩; omega)
  · by_cases h2 : 1000000 < n
    · have E : boundU n = 1000000 := by unfold boundU; rw [if_neg h1, if_pos h2]
      rw [E]
      go_enter Try.func148, Try.ntmps148
      go_wp2
      all_goals go_ret
      all_goals first | exact ⟨rfl, rfl⟩ | (refine ⟨ret_int ?_, rfl⟩; omega)
    · have E : boundU n = n := boundU_id (by omega)
      rw [E]
      go_enter Try.func148, Try.ntmps148
      go_wp2
      all_goals go_ret
      all_goals first | exact ⟨rfl, rfl⟩ | (refine ⟨ret_int ?_, rfl⟩; omega)
theorem rclamp2_any (n : Int) (w : World) : Calls Try.prog 150 #[.int .i64 n] w fun e w' => e = .returned (.int .i64 (byU n)) ∧ w = w' := by
  by_cases h1 : n < -2000000
  · have E : byU n = -2000000 := by unfold byU; rw [if_pos h1]
    rw [E]
    go_enter Try.func150, Try.ntmps150
    go_wp2
    all_goals go_ret
    all_goals first | exact ⟨rfl, rfl⟩ | (refine ⟨ret_int ?_, rfl⟩; omega)
  · by_cases h2 : 2000000 < n
    · have E : byU n = 2000000 := by unfold byU; rw [if_neg h1, if_pos h2]
      rw [E]
      go_enter Try.func150, Try.ntmps150
      go_wp2
      all_goals go_ret
      all_goals first | exact ⟨rfl, rfl⟩ | (refine ⟨ret_int ?_, rfl⟩; omega)
    · have E : byU n = n := by unfold byU; rw [if_neg h1, if_neg h2]
      rw [E]
      go_enter Try.func150, Try.ntmps150
      go_wp2
      all_goals go_ret
      all_goals first | exact ⟨rfl, rfl⟩ | (refine ⟨ret_int ?_, rfl⟩; omega)
theorem fold_take {α : Type} (st : Int → α → Int) (z : Int) (C : List α) (d : α) {k : Nat} (hk : k < C.length) : (C.take (k + 1)).foldl st z = st ((C.take k).foldl st z) (C.getD k d) := by
  rw [List.take_add_one, List.foldl_append, List.getElem?_eq_getElem hk, List.getD_eq_getElem?_getD, List.getElem?_eq_getElem hk]
  rfl
set_option maxRecDepth 100000 in
set_option maxHeartbeats 4000000 in
theorem rat_any {w : World} {v : Value} {C : List ChgC} (h : RowC w v C) (hlen : C.length ≤ 4294967296) (first t : Int) :
    Calls Try.prog 114 #[.agg #[.int .i64 first, v], .int .i64 t] w fun e w' => e = .returned (.int .i64 (ratU first C t)) ∧ Below w.heap.size w w' := by
  obtain ⟨x, hx⟩ : ∃ x, x = (if clampI t = 1099511627776 then 1099511627775 else clampI t) := ⟨_, rfl⟩
  obtain ⟨res, hres⟩ : ∃ r, r = ratU first C t := ⟨_, rfl⟩
  rw [← hres]
  have HR := Lib.hid (show res = C.foldl (ratStep x) (boundU first) by rw [hres, hx]; rfl)
  have HX := Lib.hid hx
  clear hres hx
  obtain ⟨ad, cp, hv⟩ := h.form
  have hb0 := below_alloc (Below.refl _ w) (.cells #[.int .i64 first, v] 28)
  have n0 := World.alloc_heap_new w (.cells #[.int .i64 first, v] 28)
  have H := Lib.hid (fun W (hb : Below w.heap.size w W) => h.below hb)
  have KH := Lib.hid (fun f t x W => rholds_any f t x W)
  clear h
  subst hv
  go_enter Try.func114, Try.ntmps114
  go_upto_region 1 with fail
  generalize w.alloc (.cells #[.int .i64 first, .slice ad C.length cp] 28) = W at *
  have c0 := cell_of_block (o := 0) n0 rfl
  have c1 := cell_of_block (o := 1) n0 rfl
  go_wp2_with fail
  refine (rclamp_any t _).mono ?_
  rintro e w' ⟨rfl, rfl⟩
  go_upto_if 10 with fail
  go_cut [1] (fun s wx => s = .int .i64 x ∧ wx = W)
  case first =>
    by_cases hq : clampI t = 1099511627776
    case pos =>
      have hq1 : (clampI t == 1099511627776) = true := beq_iff_eq.2 hq
      have E := HX.out
      rw [if_pos hq] at E
      subst E
      go_wp2_with fail
      go_meet
      exact ⟨rfl, rfl⟩
    case neg =>
      have hq1 : (clampI t == 1099511627776) = false := beq_eq_false_iff_ne.2 hq
      have E := HX.out
      rw [if_neg hq] at E
      subst E
      go_wp2_with fail
      go_meet
      exact ⟨rfl, rfl⟩
  case rest =>
  obtain ⟨rfl, rfl⟩ := hcut
  clear HX
  go_wp2_with fail
  refine (rclampU_any first _).mono ?_
  rintro e w' ⟨rfl, rfl⟩
  have HN := Lib.hid n0
  have HB := Lib.hid hb0
  clear c0 c1 n0 hb0
  go_wp2_with fail
  go_loopw [5, 6] (fun z i wr => ∃ k : Nat, k ≤ C.length ∧ i = .int .i64 k ∧ z = .int .i64 ((C.take k).foldl (ratStep x) (boundU first)) ∧ Below w.heap.size w wr ∧ wr.heap[w.heap.size]? = some (.cells #[.int .i64 first, .slice ad C.length cp] 28 (0, 0))) (fun _ i _ => C.length - (intOf i).toNat)
  case atStart => exact ⟨0, by omega, rfl, rfl, HB.out, HN.out⟩
  case round =>
    obtain ⟨k, hk, rfl, rfl, hb, hn⟩ := hrel
    have c0 := cell_of_block (o := 0) hn rfl
    have c1 := cell_of_block (o := 1) hn rfl
    have hlt1 := (Array.getElem?_eq_some_iff.1 hn).1
    have HBr := Lib.hid hb
    have HNr := Lib.hid hn
    clear hb hn
    by_cases hlt : k < C.length
    case pos =>
      have hd : decide (k < C.length) = true := decide_eq_true hlt
      obtain ⟨g, cc, e0, hg, q0, q1, q2, q3⟩ := (H.out wr HBr.out).at hlt
      have e1 : ad = some ⟨g, 0, none⟩ := by injection e0
      subst e1
      have HS := Lib.hid (fold_take (ratStep x) (boundU first) C chgD hlt)
      generalize (C.take k).foldl (ratStep x) (boundU first) = z at *
      have hw1 : IntKind.i64.wrap ((k : Int) + 1) = ((k + 1 : Nat) : Int) := by rw [IntKind.wrap_i64]; omega
      have hix : (k : Int) < (C.length : Int) := by omega
      generalize C.getD k chgD = c at *
      obtain ⟨cf, ct, cs, cn⟩ := c
      simp only at q0 q1 q2 q3
      go_wp2_with fail
      refine (KH.out cf ct x _).mono ?_
      rintro e w2 ⟨rfl, hb2⟩
      have HB2 := Lib.hid (below_next HBr.out hb2)
      have n2 := (hb2.block _ hlt1).trans HNr.out
      have HN2 := Lib.hid n2
      have c0 := cell_of_block (o := 0) n2 rfl
      have c1 := cell_of_block (o := 1) n2 rfl
      have q2 := (hb2.cell (p := ⟨g, k * 4 + 2, none⟩) hg).trans q2
      have q3 := (hb2.cell (p := ⟨g, k * 4 + 3, none⟩) hg).trans q3
      clear hb2 n2 q0 q1
      cases hh : holdsI (cf, ct) x with
      | false =>
        have HV := Lib.hid (show ratStep x z ⟨cf, ct, cs, cn⟩ = z by unfold ratStep; simp only; rw [hh]; rfl)
        go_wp2_with fail
        exact ⟨⟨k + 1, by omega, rfl, by rw [HS.out, HV.out], HB2.out, HN2.out⟩, by show C.length - (((k + 1 : Nat) : Int)).toNat < C.length - ((k : Int)).toNat; omega⟩
      | true =>
        cases cs with
        | true =>
          have HV := Lib.hid (show ratStep x z ⟨cf, ct, true, cn⟩ = boundU cn by unfold ratStep; simp only; rw [hh]; rfl)
          go_wp2_with fail
          refine (rclampU_any cn _).mono ?_
          rintro e w' ⟨rfl, rfl⟩
          go_wp2_with fail
          exact ⟨⟨k + 1, by omega, rfl, by rw [HS.out, HV.out], HB2.out, HN2.out⟩, by show C.length - (((k + 1 : Nat) : Int)).toNat < C.length - ((k : Int)).toNat; omega⟩
        | false =>
          have HV := Lib.hid (show ratStep x z ⟨cf, ct, false, cn⟩ = boundU (wrap64 (z + byU cn)) by unfold ratStep addF; simp only; rw [hh, w64_eq]; simp)
          go_wp2_with fail
          refine (rclamp2_any cn _).mono ?_
          rintro e w' ⟨rfl, rfl⟩
          go_wp2_with fail
          refine (rclampU_any _ _).mono ?_
          rintro e w' ⟨rfl, rfl⟩
          go_wp2_with fail
          exact ⟨⟨k + 1, by omega, rfl, by rw [HS.out, HV.out], HB2.out, HN2.out⟩, by show C.length - (((k + 1 : Nat) : Int)).toNat < C.length - ((k : Int)).toNat; omega⟩
    case neg =>
      have hd : decide (k < C.length) = false := decide_eq_false hlt
      obtain rfl : k = C.length := by omega
      have HE := Lib.hid (show (C.take C.length).foldl (ratStep x) (boundU first) = res by rw [HR.out, List.take_length])
      rw [HE.out]
      go_wp2_with fail
      go_ret
      exact ⟨rfl, HBr.out⟩
theorem info_chg : (Try.prog.info? 175).map (fun i => (i.zero, i.size, i.bytes)) = some (some (.agg #[.int .i64 0, .int .i64 0, .bool false, .int .i64 0]), 4, 32) := by kernel_rfl
theorem eltC : Ap.Elt Try.prog 26 175 4 32 :=
  ⟨Try.underlying26, by obtain ⟨i, h1, h2, h3, h4⟩ := info_parts3 info_chg; exact ⟨i, _, h1, h2, h3, h4, rfl⟩, by decide⟩
theorem RowC.keep {w w' : World} {v x y : Value} {C : List ChgC} {B : Nat} {T : TypeId} (h : RowC w v C) (hB : w.heap[B]? = some (.cells #[x, y] T (0, 0))) (hy : (∃ a n c, y = .slice a n c) ∨ ∃ a n c, x = .slice a n c) (hs : w.heap.size ≤ w'.heap.size) (hk : ∀ g, g < w.heap.size → g ≠ B → w'.heap[g]? = w.heap[g]?) : RowC w' v C := by
  refine h.mono hs fun g hg hc hp => hk g hg ?_
  rintro rfl
  have hf := flatC_get C 0 hp
  have h0 := hc _ _ hf.1
  have h1 := hc _ _ hf.2.1
  have e0 := cell_of_block (o := 0) hB rfl
  have e1 := cell_of_block (o := 1) hB rfl
  rw [show 0 * 4 = 0 by omega] at h0
  rw [show 0 * 4 + 1 = 1 by omega] at h1
  rcases hy with ⟨a, n, c, rfl⟩ | ⟨a, n, c, rfl⟩
  · rw [h1] at e1; cases e1
  · rw [h0] at e0; cases e0
theorem RowC.keep1 {w w' : World} {v x : Value} {C : List ChgC} {B : Nat} {T : TypeId} (h : RowC w v C) (hB : w.heap[B]? = some (.cells #[x] T (0, 0))) (hy : ∃ a n c, x = .slice a n c) (hs : w.heap.size ≤ w'.heap.size) (hk : ∀ g, g < w.heap.size → g ≠ B → w'.heap[g]? = w.heap[g]?) : RowC w' v C := by
  refine h.mono hs fun g hg hc hp => hk g hg ?_
  rintro rfl
  have hf := flatC_get C 0 hp
  have h0 := hc _ _ hf.1
  have e0 := cell_of_block (o := 0) hB rfl
  rw [show 0 * 4 = 0 by omega] at h0
  obtain ⟨a, n, c, rfl⟩ := hy
  rw [h0] at e0; cases e0
end Go.Proofs.Ytbhnjmdlagjfbaa
namespace Go.Proofs.Ytbhnjmdlagjfbaa
set_option linter.unusedVariables false
open Go.ChangeShapes Go.WideShapes Go.ChangeAt Go.RowKit
/-- the document's levels -/
def LikeU (first : Int) (L : List (Int × Int)) (C : List ChgC) : Prop := ∀ x, 0 ≤ x → x < 1099511627776 → lvl 0 L x = C.foldl (ratStep x) (boundU first)
theorem holdsI_iff {f t x : Int} (h0 : 0 ≤ x) (h1 : x < 1099511627776) : holdsI (f, t) x = true ↔ (clampI f < clampI t ∧ f ≤ x ∧ x < t) := by
  unfold holdsI
  simp only
  rw [clampI_of h0 (by omega), Bool.and_eq_true, decide_eq_true_eq, decide_eq_true_eq]
  rcases clamp_facts f with ⟨a, b⟩ | ⟨a, c, b⟩ | ⟨a, b⟩ <;> rcases clamp_facts t with ⟨a', b'⟩ | ⟨a', c', b'⟩ | ⟨a', b'⟩ <;> rw [b, b'] <;> omega
theorem ratStep_iff (x v : Int) (c : ChgC) (h0 : 0 ≤ x) (h1 : x < 1099511627776) : ratStep x v c = if clampI c.f < clampI c.t ∧ c.f ≤ x ∧ x < c.t then (if c.set then boundU c.n else addF (byU c.n) v) else v := by
  unfold ratStep
  by_cases h : clampI c.f < clampI c.t ∧ c.f ≤ x ∧ x < c.t
  · rw [if_pos h, (holdsI_iff h0 h1).2 h]; rfl
  · rw [if_neg h]
    have : holdsI (c.f, c.t) x = false := by
      rw [Bool.eq_false_iff]
      exact fun hh => h ((holdsI_iff h0 h1).1 hh)
    rw [this]; rfl
theorem like_flat (first : Int) : LikeU first [(0, boundU first)] [] := fun x h0 _ => by
  simp only [lvl, List.foldl_nil]
  rw [if_neg (by omega)]
theorem like_add {first : Int} {L : List (Int × Int)} {C : List ChgC} (h : LikeU first L C) (hr : RightU L) (f t n : Int) : LikeU first (changeU (addF (byU n)) L (f, t)) (C ++ [⟨f, t, false, n⟩]) := fun x h0 h1 => by
  rw [(change_right hr (addF_in (byU n)) f t).2 x h0 h1, List.foldl_append, List.foldl_cons, List.foldl_nil, ratStep_iff _ _ _ h0 h1, h x h0 h1]
  simp
theorem like_set {first : Int} {L : List (Int × Int)} {C : List ChgC} (h : LikeU first L C) (hr : RightU L) (f t n : Int) : LikeU first (changeU (fun _ => boundU n) L (f, t)) (C ++ [⟨f, t, true, n⟩]) := fun x h0 h1 => by
  rw [(change_right hr (fun _ => boundU_in n) f t).2 x h0 h1, List.foldl_append, List.foldl_cons, List.foldl_nil, ratStep_iff _ _ _ h0 h1, h x h0 h1]
  simp
/-- what the document's Forget makes of the changes -/
def rforgetU (first : Int) (C : List ChgC) (t : Int) : List ChgC := if t ≥ 1099511627776 then C else C ++ [⟨0, t, true, ratU first C t⟩]
theorem like_at {first : Int} {L : List (Int × Int)} {C : List ChgC} (h : LikeU first L C) (hr : RightU L) (t : Int) : atU L t = ratU first C t := by
  have hb := clampI_bounds t
  rw [at_spec hr, h _ (by omega) (by omega)]
  unfold ratU
  by_cases e : clampI t = 1099511627776
  · rw [if_pos e, e]; rfl
  · rw [if_neg e, show min (clampI t) 1099511627775 = clampI t by omega]
theorem like_forget {first : Int} {L : List (Int × Int)} {C : List ChgC} (h : LikeU first L C) (hr : RightU L) (t : Int) : LikeU first (forgetU L t) (rforgetU first C t) := by
  have hb := clampI_bounds t
  have ht : t ≥ 1099511627776 ↔ clampI t = 1099511627776 := by rcases clamp_facts t with ⟨a', b'⟩ | ⟨a', c', b'⟩ | ⟨a', b'⟩ <;> rw [b'] <;> omega
  unfold forgetU rforgetU
  by_cases e : clampI t = 1099511627776
  · rw [if_pos e, if_pos (ht.2 e)]; exact h
  · rw [if_neg e, if_neg (fun hh => e (ht.1 hh))]
    intro x h0 h1
    have e0 : clampI 0 = 0 := by decide +kernel
    have ha : atU L (clampI t) = ratU first C t := by
      rw [like_at h hr]
      unfold ratU
      rw [clampI_clampI]
    rw [(change_right hr (fun _ => boundU_in _) 0 (clampI t)).2 x h0 h1, List.foldl_append, List.foldl_cons, List.foldl_nil, ratStep_iff _ _ _ h0 h1, h x h0 h1, ha, clampI_clampI, e0]
    simp only [e0]
    by_cases hx : 0 < clampI t ∧ 0 ≤ x ∧ x < clampI t
    · rw [if_pos hx, if_pos ⟨hx.1, hx.2.1, by rcases clamp_facts t with ⟨a', b'⟩ | ⟨a', c', b'⟩ | ⟨a', b'⟩ <;> omega⟩]; simp
    · rw [if_neg hx, if_neg (fun hh => hx ⟨hh.1, hh.2.1, by rcases clamp_facts t with ⟨a', b'⟩ | ⟨a', c', b'⟩ | ⟨a', b'⟩ <;> omega⟩)]
theorem rforgetU_len (first : Int) (C : List ChgC) (t : Int) : (rforgetU first C t).length ≤ C.length + 1 := by
  unfold rforgetU
  split
  · omega
  · simp
end Go.Proofs.Ytbhnjmdlagjfbaa
