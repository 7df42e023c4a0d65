/- Laws that belong together: Room (layer 11), plainly: the spans of all times from one on from which a width is free for so many times. No condition but that the steps are right.; Room (layer 11): Fits, Widest, levels. Conditions: the lengths' bounds.; Room (layer 11): Starts: the iterator that it makes. Conditions: the lengths' bounds.; Levels (layer 10), the document's: what was done to levels in memory; At, Add, Set, Forget. Condition: at most 2^32 changes.; Levels (layer 10): those that steps lead to have the document's level at each time, plainly. Conditions: the steps are right.; Levels (layer 10), the document's: Add, Set. Condition: at most 2^32 changes.; Levels (layer 10), the document's, plainly: the times at which levels may turn, the steps that they tell. No condition but that the steps are right.; Levels (layer 10), the document's, plainly: In tells each level of a span, and of how many times it is. No condition but that the steps are right.; Levels (layer 10), the document's, plainly: what In tells comes to the least, the greatest and the area that the program tells. No condition but that the steps are right. -/
import Derived.Test.YtdamemdfehopeaaDoorMag
import Derived.Test.YtdamemdfehopeaaDoorMAppTwo
namespace Go.Proofs.YtdamemdfehopeaaDoor
set_option linter.unusedVariables false
open Go.ChangeShapes Go.WideShapes Go.ChangeAt Go.RowKit
/-- from a time on a width is free for m times -/
def GoodF (g : Int → Int) (m W y : Int) : Prop := ∀ x, y ≤ x → x < y + m → x < 1099511627776 → W ≤ g x
/-- what is told of runs to come; the second: where a stretch of enough width has begun -/
def startsGo (F m W : Int) : List (Int × Int × Int) → Option Int → List (Int × Int)
  | [], none => []
  | [], some a => if max a F < 1099511627776 then [(max a F, 1099511627776)] else []
  | r :: rs, none => startsGo F m W rs (if W ≤ r.2.2 then some r.1 else none)
  | r :: rs, some a => if W ≤ r.2.2 then startsGo F m W rs (some a) else (if r.1 - m + 1 ≤ max a F then [] else [(max a F, r.1 - m + 1)]) ++ startsGo F m W rs none
def startsU (L : List (Int × Int)) (F m W : Int) : List (Int × Int) := startsGo F m W (runsU L) none
/-- what spans tell of the times from T on (of those from a on, where a stretch is open) -/
structure StartsOk (g : Int → Int) (F m W lo : Int) (R : List (Int × Int)) : Prop where
  iff : ∀ y, lo ≤ y → y < 1099511627776 → ((∃ s ∈ R, s.1 ≤ y ∧ y < s.2) ↔ (F ≤ y ∧ GoodF g m W y))
  low : ∀ s ∈ R, lo ≤ s.1 ∧ F ≤ s.1 ∧ s.1 < s.2 ∧ s.2 ≤ 1099511627776
  rise : R.Pairwise (fun s s' => s.2 < s'.1)
theorem starts_ok {L : List (Int × Int)} (h : RightU L) {F m W : Int} (hF : 0 ≤ F) (hm : 1 ≤ m) : StartsOk (lvl 0 L) F m W 0 (startsU L F m W) := by
  have key : ∀ (n k : Nat) (T : Int), k + n = L.length → (k < L.length → T = (L.getD k (0, 0)).1) → (k = L.length → T = 1099511627776) → 0 ≤ T → T ≤ 1099511627776 →
      StartsOk (lvl 0 L) F m W T (startsGo F m W ((runsU L).drop k) none) ∧ ∀ a, 0 ≤ a → a < T → (∀ x, a ≤ x → x < T → W ≤ lvl 0 L x) → StartsOk (lvl 0 L) F m W a (startsGo F m W ((runsU L).drop k) (some a)) := by
    intro n
    induction n with
    | zero =>
      intro k T hk _ h2 _ _
      have hd : (runsU L).drop k = [] := by apply List.drop_eq_nil_of_le; unfold runsU; simp; omega
      have hT := h2 (by omega)
      rw [hd]
      refine ⟨⟨fun y h0 h1 => by omega, fun s hs => (by cases hs), List.Pairwise.nil⟩, fun a ha haT hw => ?_⟩
      unfold startsGo
      by_cases hc : max a F < 1099511627776
      · rw [if_pos hc]
        refine ⟨fun y h0 h1 => ?_, fun s hs => ?_, by simp⟩
        · simp only [List.mem_singleton, exists_eq_left]
          constructor
          · rintro ⟨q1, q2⟩
            exact ⟨by omega, fun x x1 x2 x3 => hw x (by omega) (by omega)⟩
          · rintro ⟨q1, q2⟩
            exact ⟨by omega, h1⟩
        · simp only [List.mem_singleton] at hs
          subst hs
          exact ⟨by simp only; omega, by simp only; omega, hc, Int.le_refl _⟩
      · rw [if_neg hc]
        refine ⟨fun y h0 h1 => ?_, fun s hs => (by cases hs), List.Pairwise.nil⟩
        constructor
        · rintro ⟨s, hs, _⟩; cases hs
        · rintro ⟨q1, _⟩; omega
    | succ n ih =>
      intro k T hk h1 _ h0 hT
      have hkl : k < L.length := by omega
      rw [runsU_drop' hkl]
      obtain ⟨b0, b1, b2⟩ := toU_le h hkl
      have hl : ∀ x, (L.getD k (0, 0)).1 ≤ x → x < toU L k → lvl 0 L x = (L.getD k (0, 0)).2 := fun x hx hx' => lvl_at h.sorted 0 k x hkl hx fun hk1 => by unfold toU at hx'; rw [if_pos hk1] at hx'; exact hx'
      have e0 := h1 hkl
      obtain ⟨i1, i2⟩ := ih (k + 1) (toU L k) (by omega) (fun hk1 => by unfold toU; rw [if_pos hk1]) (fun hk1 => by unfold toU; rw [if_neg (by omega)]) (by omega) b2
      generalize hA : (L.getD k (0, 0)).1 = A at *
      generalize hV : (L.getD k (0, 0)).2 = V at *
      subst e0
      by_cases hv : W ≤ V
      · constructor
        · unfold startsGo
          simp only
          rw [if_pos hv]
          exact i2 T b0 b1 (fun x x1 x2 => by rw [hl x x1 x2]; exact hv)
        · intro a ha haT hw
          unfold startsGo
          simp only
          rw [if_pos hv]
          exact i2 a ha (by omega) (fun x x1 x2 => by
            by_cases hx : x < T
            · exact hw x x1 hx
            · rw [hl x (by omega) x2]; exact hv)
      · have hbad : ∀ y, T ≤ y → y < toU L k → ¬ GoodF (lvl 0 L) m W y := fun y y1 y2 hg => by
          have := hg y (Int.le_refl _) (by omega) (by omega)
          rw [hl y y1 y2] at this
          exact hv this
        have hnone : StartsOk (lvl 0 L) F m W T (startsGo F m W ((runsU L).drop (k + 1)) none) := by
          refine ⟨fun y y0 y1 => ?_, fun s hs => ?_, i1.rise⟩
          · by_cases hy : toU L k ≤ y
            · exact i1.iff y hy y1
            · constructor
              · rintro ⟨s, hs, q1, q2⟩
                have := (i1.low s hs).1
                omega
              · rintro ⟨_, q2⟩
                exact absurd q2 (hbad y y0 (by omega))
          · obtain ⟨q1, q2, q3, q4⟩ := i1.low s hs
            exact ⟨by omega, q2, q3, q4⟩
        constructor
        · unfold startsGo
          simp only
          rw [if_neg hv]
          exact hnone
        · intro a ha haT hw
          unfold startsGo
          simp only
          rw [if_neg hv]
          have hgood : ∀ y, a ≤ y → y < T → (GoodF (lvl 0 L) m W y ↔ y < T - m + 1) := fun y y0 y1 => by
            constructor
            · intro hg
              refine Classical.byContradiction fun hc => ?_
              have := hg T (by omega) (by omega) (by omega)
              rw [hl T (Int.le_refl _) b1] at this
              exact hv this
            · intro hc x x1 x2 x3
              exact hw x (by omega) (by omega)
          have iffs : ∀ y, a ≤ y → y < 1099511627776 → ((∃ s ∈ (if T - m + 1 ≤ max a F then [] else [(max a F, T - m + 1)]) ++ startsGo F m W ((runsU L).drop (k + 1)) none, s.1 ≤ y ∧ y < s.2) ↔ (F ≤ y ∧ GoodF (lvl 0 L) m W y)) := fun y y0 y1 => by
            by_cases hy : y < T
            · rw [hgood y y0 hy]
              constructor
              · rintro ⟨s, hs, q1, q2⟩
                rcases List.mem_append.1 hs with hs | hs
                · split at hs
                  · cases hs
                  · simp only [List.mem_singleton] at hs
                    subst hs
                    simp only at q1 q2
                    exact ⟨by omega, q2⟩
                · have := (hnone.low s hs).1; omega
              · rintro ⟨q1, q2⟩
                refine ⟨(max a F, T - m + 1), List.mem_append_left _ ?_, by simp only; omega, q2⟩
                rw [if_neg (by omega)]
                exact List.mem_singleton.2 rfl
            · rw [← hnone.iff y (by omega) y1]
              constructor
              · rintro ⟨s, hs, q1, q2⟩
                rcases List.mem_append.1 hs with hs | hs
                · split at hs
                  · cases hs
                  · simp only [List.mem_singleton] at hs
                    subst hs
                    simp only at q2
                    omega
                · exact ⟨s, hs, q1, q2⟩
              · rintro ⟨s, hs, q1, q2⟩
                exact ⟨s, List.mem_append_right _ hs, q1, q2⟩
          refine ⟨iffs, fun s hs => ?_, ?_⟩
          · rcases List.mem_append.1 hs with hs | hs
            · split at hs
              · cases hs
              · simp only [List.mem_singleton] at hs
                subst hs
                exact ⟨by simp only; omega, by simp only; omega, by simp only; omega, by simp only; omega⟩
            · obtain ⟨q1, q2, q3, q4⟩ := hnone.low s hs
              exact ⟨by omega, q2, q3, q4⟩
          · rw [List.pairwise_append]
            refine ⟨by split <;> simp, hnone.rise, fun s hs s' hs' => ?_⟩
            split at hs
            · cases hs
            · simp only [List.mem_singleton] at hs
              subst hs
              -- what comes later begins behind the run that is too low
              have hs1 : toU L k ≤ s'.1 := (i1.low s' hs').1
              simp only
              omega
  have h0 := (key L.length 0 0 (by omega) (fun h0 => by obtain ⟨v, r, e⟩ := h.head; rw [e]; rfl) (fun h0 => by obtain ⟨v, r, e⟩ := h.head; rw [e] at h0; simp at h0) (by omega) (by omega)).1
  rw [List.drop_zero] at h0
  exact h0
/-- the first time, if there is one -/
def firstU (R : List (Int × Int)) : Int := ((R.head?).map (·.1)).getD 1099511627776
theorem first_spec {g : Int → Int} {F m W : Int} {R : List (Int × Int)} (h : StartsOk g F m W 0 R) (hF : 0 ≤ F) : (firstU R < 1099511627776 → F ≤ firstU R ∧ GoodF g m W (firstU R)) ∧ (∀ y, F ≤ y → y < firstU R → y < 1099511627776 → ¬ GoodF g m W y) ∧ 0 ≤ firstU R ∧ firstU R ≤ 1099511627776 := by
  cases R with
  | nil =>
    unfold firstU
    refine ⟨fun hh => by simp at hh, fun y h0 h1 h2 hg => ?_, by simp, by simp⟩
    obtain ⟨s, hs, _⟩ := (h.iff y (by omega) h2).2 ⟨h0, hg⟩
    cases hs
  | cons s r =>
    obtain ⟨q1, q2, q3, q4⟩ := h.low s List.mem_cons_self
    unfold firstU
    simp only [List.head?_cons, Option.map_some, Option.getD_some]
    refine ⟨fun hh => (h.iff s.1 q1 hh).1 ⟨s, List.mem_cons_self, Int.le_refl _, q3⟩, fun y h0 h1 h2 hg => ?_, q1, by omega⟩
    obtain ⟨s', hs', p1, p2⟩ := (h.iff y (by omega) h2).2 ⟨h0, hg⟩
    rcases List.mem_cons.1 hs' with rfl | hs'
    · omega
    · have := (List.pairwise_cons.1 h.rise).1 s' hs'
      omega
end Go.Proofs.YtdamemdfehopeaaDoor
namespace Go.Proofs.YtdamemdfehopeaaDoor
set_option linter.unusedVariables false
open Go.ChangeShapes Go.WideShapes Go.ChangeAt Go.RowKit
attribute [local go_sem ↓] Go.wp_at_zero Go.wp_at_succ comesTo_value_eq comesTo_skip_eq comesTo_enter_eq

/-- what Fits tells -/
def fitsU (L : List (Int × Int)) (f t W : Int) : Bool := decide (clampI t ≤ clampI f) || decide (chooseU minU L (f, t) ≥ W)
set_option maxRecDepth 100000 in
set_option maxHeartbeats 2000000 in
theorem fits_any {w : World} {S : Nat} {L : List (Int × Int)} (h : USt w S L) (f t W : Int) :
    Calls Tryd.prog 55 #[.pointer (some ⟨S, 0, none⟩), .agg #[.int .i64 f, .int .i64 t], .int .i64 W] w fun e w' => e = .returned (.bool (fitsU L f t W)) ∧ Below w.heap.size w w' := by
  have hb0 := below_alloc (Below.refl _ w) (.cells #[.int .i64 f, .int .i64 t] 38)
  have n0 := World.alloc_heap_new w (.cells #[.int .i64 f, .int .i64 t] 38)
  have KL := Lib.hid (fun W (hb : Below w.heap.size w W) => least_any (h.below hb) f t)
  have KE := Lib.hid (fun W => empty_any f t W)
  obtain ⟨res, hres⟩ : ∃ r, r = fitsU L f t W := ⟨_, rfl⟩
  rw [← hres]
  have HR := Lib.hid (show res = (decide (clampI t ≤ clampI f) || decide (chooseU minU L (f, t) ≥ W)) from hres)
  clear h hres
  generalize chooseU minU L (f, t) = cl at *
  go_enter Tryd.func55, Tryd.ntmps55
  go_upto_region 1 with fail
  generalize w.alloc (.cells #[.int .i64 f, .int .i64 t] 38) = W0 at *
  have c0 := cell_of_block (o := 0) n0 rfl
  have c1 := cell_of_block (o := 1) n0 rfl
  go_wp2_with fail
  refine (KE.out _).mono ?_
  rintro e W1 ⟨rfl, hb1⟩
  have n1 := (hb1.block _ (Array.getElem?_eq_some_iff.1 n0).1).trans n0
  have c0 := cell_of_block (o := 0) n1 rfl
  have c1 := cell_of_block (o := 1) n1 rfl
  have HB1 := Lib.hid (below_next hb0 hb1)
  clear hb0 hb1 n0 n1
  cases hd : decide (clampI t ≤ clampI f) with
  | true =>
    have E := HR.out
    rw [hd, Bool.true_or] at E
    subst E
    go_wp2_with fail
    go_ret
    exact ⟨rfl, HB1.out⟩
  | false =>
    have E := Lib.hid (show res = decide (cl ≥ W) by rw [HR.out, hd, Bool.false_or])
    go_wp2_with fail
    refine (KL.out _ HB1.out).mono ?_
    rintro e W2 ⟨rfl, hb2⟩
    have HB2 := Lib.hid (below_next HB1.out hb2)
    clear hb2
    go_wp2_with fail
    go_ret
    exact ⟨by rw [E.out]; rfl, HB2.out⟩
/-- what Widest tells -/
def widestU (L : List (Int × Int)) (from_ many : Int) : Int := if clampI from_ = 1099511627776 then atU L (clampI from_) else chooseU minU L (clampI (clampI from_), addI (clampI from_) (maxU many 1))
set_option maxRecDepth 100000 in
set_option maxHeartbeats 2000000 in
theorem levels_any {w : World} {S : Nat} {L : List (Int × Int)} (h : USt w S L) :
    Calls Tryd.prog 132 #[.pointer (some ⟨S, 0, none⟩)] w fun e w' => ∃ g c, e = .returned (.slice (some ⟨g, 0, none⟩) L.length c) ∧ w.heap.size ≤ g ∧ g < w'.heap.size ∧ L.length ≤ c ∧ URow w' g L ∧ Below w.heap.size w w' := by
  have hpos := h.pos
  have KL := Lib.hid (list_any h)
  clear h
  go_enter Tryd.func132, Tryd.ntmps132
  go_wp2_with fail
  refine KL.out.mono ?_
  rintro e w1 ⟨g, c, rfl, g1, g2, g3, g4, hb1⟩
  have hd : decide ((L.length : Int) > 0) = true := decide_eq_true (by omega)
  have HX := Lib.hid (And.intro g4 hb1)
  clear g4 hb1
  go_wp2_with fail
  go_ret
  exact ⟨g, c, rfl, g1, g2, g3, HX.out.1, HX.out.2⟩
set_option maxRecDepth 100000 in
set_option maxHeartbeats 2000000 in
/-- of levels that nobody made the level is 0 -/
theorem levels_no {w : World} {v : Value} (h : NoU w v) :
    Calls Tryd.prog 132 #[v] w fun e w' => ∃ g c, e = .returned (.slice (some ⟨g, 0, none⟩) 1 c) ∧ w.heap.size ≤ g ∧ g < w'.heap.size ∧ 1 ≤ c ∧ URow w' g [(0, 0)] ∧ Below w.heap.size w w' := by
  have KL := Lib.hid (list_no h)
  have KF := Lib.hid (fun W => (show Calls Tryd.prog 11 #[.int .i64 0] W fun e w' => ∃ S, e = .returned (.pointer (some ⟨S, 0, none⟩)) ∧ W.heap.size ≤ S ∧ USt w' S [(0, 0)] ∧ Below W.heap.size W w' from flat_any 0 W))
  clear h
  go_enter Tryd.func132, Tryd.ntmps132
  go_wp2_with fail
  refine KL.out.mono ?_
  rintro e w1 ⟨rfl, hb1⟩
  have HB1 := Lib.hid hb1
  clear hb1
  go_wp2_with fail
  refine (KF.out _).mono ?_
  rintro e w2 ⟨S, rfl, hS, hu, hb2⟩
  have HU := Lib.hid hu
  have HB2 := Lib.hid (below_next HB1.out hb2)
  clear hu hb2
  go_wp2_with fail
  refine (list_any HU.out).mono ?_
  rintro e w3 ⟨g, c, rfl, g1, g2, g3, g4, hb3⟩
  have HX := Lib.hid (And.intro g4 (below_next HB2.out hb3))
  have hs2 := HB2.out.size
  clear g4 hb3
  go_wp2_with fail
  go_ret
  exact ⟨g, c, rfl, by omega, g2, g3, HX.out.1, HX.out.2⟩
end Go.Proofs.YtdamemdfehopeaaDoor
namespace Go.Proofs.YtdamemdfehopeaaDoor
set_option linter.unusedVariables false
open Go.ChangeShapes Go.WideShapes Go.ChangeAt Go.RowKit
attribute [local go_sem ↓] Go.wp_at_zero Go.wp_at_succ comesTo_value_eq comesTo_skip_eq comesTo_enter_eq

/-- what the iterator has caught: the row of steps, the width, the first time, how many times -/
structure StartsAt (w : World) (lb : Array Value) (B : Nat) (L : List (Int × Int)) (F m W : Int) : Prop where
  at_ : ∃ b0 b1 b2 b3 g c, lb = #[.pointer (some ⟨b0, 0, none⟩), .pointer (some ⟨b1, 0, none⟩), .pointer (some ⟨b2, 0, none⟩), .pointer (some ⟨b3, 0, none⟩)] ∧ B ≤ b0 ∧ B ≤ b1 ∧ B ≤ b2 ∧ B ≤ b3 ∧ B ≤ g ∧ g < w.heap.size ∧
    w.heap[b0]? = some (.cells #[.slice (some ⟨g, 0, none⟩) L.length c] 114 (0, 0)) ∧ w.heap[b1]? = some (.cells #[.int .i64 W] 3 (0, 0)) ∧ w.heap[b2]? = some (.cells #[.int .i64 F] 36 (0, 0)) ∧ w.heap[b3]? = some (.cells #[.int .i64 m] 36 (0, 0)) ∧ URow w g L ∧ L.length ≤ c
set_option maxRecDepth 100000 in
set_option maxHeartbeats 4000000 in
theorem starts_any {w : World} {v : Value} {L : List (Int × Int)} (from_ many W : Int)
    (hL : ∀ X, Below w.heap.size w X → Calls Tryd.prog 132 #[v] X fun e w' => ∃ g c, e = .returned (.slice (some ⟨g, 0, none⟩) L.length c) ∧ X.heap.size ≤ g ∧ g < w'.heap.size ∧ L.length ≤ c ∧ URow w' g L ∧ Below X.heap.size X w') :
    Calls Tryd.prog 101 #[v, .int .i64 from_, .int .i64 many, .int .i64 W] w fun e w' => ∃ lb, e = .returned (.func (.func 133) #[] lb) ∧ StartsAt w' lb w.heap.size L (clampI from_) (maxU (clampI many) 1) W ∧ Below w.heap.size w w' := by
  have hmx : Tryd.prog.follows .mixedOrders = true := by kernel_rfl
  have hb1 := below_alloc (Below.refl _ w) (.cells #[.int .i64 from_] 36)
  have hb2 := below_alloc hb1 (.cells #[.int .i64 many] 36)
  have hb3 := below_alloc hb2 (.cells #[.int .i64 W] 3)
  have e1 : (w.alloc (.cells #[.int .i64 from_] 36)).heap.size = w.heap.size + 1 := by simp
  have e2 : ((w.alloc (.cells #[.int .i64 from_] 36)).alloc (.cells #[.int .i64 many] 36)).heap.size = w.heap.size + 1 + 1 := by simp
  have n3 := World.alloc_heap_new ((w.alloc (.cells #[.int .i64 from_] 36)).alloc (.cells #[.int .i64 many] 36)) (.cells #[.int .i64 W] 3)
  have n2 := ((below_alloc (Below.refl _ ((w.alloc (.cells #[.int .i64 from_] 36)).alloc (.cells #[.int .i64 many] 36))) (.cells #[.int .i64 W] 3)).block (w.heap.size + 1) (by omega)).trans (e1 ▸ World.alloc_heap_new (w.alloc (.cells #[.int .i64 from_] 36)) (.cells #[.int .i64 many] 36))
  have n1 := ((below_alloc (below_alloc (Below.refl _ (w.alloc (.cells #[.int .i64 from_] 36))) (.cells #[.int .i64 many] 36)) (.cells #[.int .i64 W] 3)).block w.heap.size (by omega)).trans (World.alloc_heap_new w (.cells #[.int .i64 from_] 36))
  rw [e2] at n3
  have KL := Lib.hid hL
  have HB3 := Lib.hid hb3
  clear hb1 hb2 hb3 hL e1 e2
  obtain ⟨F, hF⟩ : ∃ F, F = clampI from_ := ⟨_, rfl⟩
  obtain ⟨m, hm⟩ : ∃ m, m = maxU (clampI many) 1 := ⟨_, rfl⟩
  rw [← hF, ← hm]
  have KC1 := Lib.hid (show ∀ X, Calls Tryd.prog 105 #[.int .i64 from_] X fun e w' => e = .returned (.int .i64 F) ∧ X = w' from fun X => hF ▸ clamp_any from_ X)
  obtain ⟨cm, hcm⟩ : ∃ c, c = clampI many := ⟨_, rfl⟩
  have KC2 := Lib.hid (show ∀ X, Calls Tryd.prog 105 #[.int .i64 many] X fun e w' => e = .returned (.int .i64 cm) ∧ X = w' from fun X => hcm ▸ clamp_any many X)
  rw [← hcm] at hm
  have HM := Lib.hid hm
  clear hF hm hcm
  go_enter Tryd.func101, Tryd.ntmps101
  go_upto_region 1 with fail
  generalize ((w.alloc (.cells #[.int .i64 from_] 36)).alloc (.cells #[.int .i64 many] 36)).alloc (.cells #[.int .i64 W] 3) = W3 at *
  have l1 := (Array.getElem?_eq_some_iff.1 n1).1
  have l2 := (Array.getElem?_eq_some_iff.1 n2).1
  have l3 := (Array.getElem?_eq_some_iff.1 n3).1
  go_wp2_with fail
  refine (KL.out _ HB3.out).mono ?_
  rintro e W4 ⟨g, c, rfl, g1, g2, g3, g4, hb4⟩
  have hbA := below_alloc (Below.refl _ W4) (.cells #[.slice (some ⟨g, 0, none⟩) L.length c] 114)
  have nA := World.alloc_heap_new W4 (.cells #[.slice (some ⟨g, 0, none⟩) L.length c] 114)
  have m1 := (hbA.block _ (Nat.lt_of_lt_of_le l1 hb4.size)).trans ((hb4.block _ l1).trans n1)
  have m2 := (hbA.block _ (Nat.lt_of_lt_of_le l2 hb4.size)).trans ((hb4.block _ l2).trans n2)
  have m3 := (hbA.block _ (Nat.lt_of_lt_of_le l3 hb4.size)).trans ((hb4.block _ l3).trans n3)
  have HB5 := Lib.hid (below_next (below_next HB3.out hb4) hbA)
  have hrow := g4.mono (hbA.block _ g2)
  have hR4 : W3.heap.size ≤ W4.heap.size := hb4.size
  have hg5 : g < (W4.alloc (.cells #[.slice (some ⟨g, 0, none⟩) L.length c] 114)).heap.size := Nat.lt_of_lt_of_le g2 hbA.size
  obtain ⟨R, hRe⟩ : ∃ R, R = W4.heap.size := ⟨_, rfl⟩
  have NA := Lib.hid (hRe ▸ nA)
  have HRow := Lib.hid hrow
  clear nA hrow g4 hb4 hbA n1 n2 n3 KL
  go_upto_region 2 with fail
  rw [← hRe] at g2 hR4 ⊢
  clear hRe
  generalize W4.alloc (.cells #[.slice (some ⟨g, 0, none⟩) L.length c] 114) = W5 at *
  have k1 := (Array.getElem?_eq_some_iff.1 m1).1
  have k2 := (Array.getElem?_eq_some_iff.1 m2).1
  have c1 := cell_of_block (o := 0) m1 rfl
  have c2 := cell_of_block (o := 0) m2 rfl
  have v1 := free_of_block 0 m1
  have v2 := free_of_block 0 m2
  have hmm : (cm < 1 ∧ m = 1) ∨ (1 ≤ cm ∧ m = cm) := by rw [HM.out]; unfold maxU; split <;> omega
  have hw := (wrote_refl m1).set 0 (.int .i64 F)
  have hw2 := (wrote_refl ((hw.rest (w.heap.size + 1) (by omega)).trans m2)).set 0 (.int .i64 m)
  have hWB : Below w.heap.size w (((W5.setCell ⟨w.heap.size, 0, none⟩ (.int .i64 F)).setCell ⟨w.heap.size + 1, 0, none⟩ (.int .i64 m)).drew) := Below.drew (hw2.below (hw.below HB5.out (Nat.le_refl _)) (by omega))
  have hX : StartsAt (((W5.setCell ⟨w.heap.size, 0, none⟩ (.int .i64 F)).setCell ⟨w.heap.size + 1, 0, none⟩ (.int .i64 m)).drew) #[.pointer (some ⟨R, 0, none⟩), .pointer (some ⟨w.heap.size + 1 + 1, 0, none⟩), .pointer (some ⟨w.heap.size, 0, none⟩), .pointer (some ⟨w.heap.size + 1, 0, none⟩)] w.heap.size L F m W := by
    have hk : ∀ k, k ≠ w.heap.size → k ≠ w.heap.size + 1 → (((W5.setCell ⟨w.heap.size, 0, none⟩ (.int .i64 F)).setCell ⟨w.heap.size + 1, 0, none⟩ (.int .i64 m)).drew).heap[k]? = W5.heap[k]? := fun k h1 h2 => (hw2.rest k h2).trans (hw.rest k h1)
    have hz : (((W5.setCell ⟨w.heap.size, 0, none⟩ (.int .i64 F)).setCell ⟨w.heap.size + 1, 0, none⟩ (.int .i64 m)).drew).heap.size = W5.heap.size := hw2.size.trans hw.size
    refine ⟨R, w.heap.size + 1 + 1, w.heap.size, w.heap.size + 1, g, c, rfl, by omega, by omega, by omega, by omega, by omega, by rw [hz]; exact hg5, (hk R (by omega) (by omega)).trans NA.out, (hk _ (by omega) (by omega)).trans m3, (hw2.rest w.heap.size (by omega)).trans hw.there, hw2.there, HRow.out.mono (hk g (by omega) (by omega)), g3⟩
  have HX := Lib.hid (And.intro hX hWB)
  clear hw hw2 hWB hX m1 m2 m3 NA HRow
  rcases hmm with ⟨h1, rfl⟩ | ⟨h1, rfl⟩
  all_goals (
    go_region_with (go_at_call 105; first | (refine (KC1.out _).mono ?_; rintro e w' ⟨rfl, rfl⟩) | (refine (KC2.out _).mono ?_; rintro e w' ⟨rfl, rfl⟩))
    all_goals (
      go_wp2_with fail
      go_ret
      exact ⟨_, rfl, HX.out.1, HX.out.2⟩))
end Go.Proofs.YtdamemdfehopeaaDoor
namespace Go.Proofs.YtdamemdfehopeaaDoor
set_option linter.unusedVariables false
open Go.ChangeShapes Go.WideShapes Go.ChangeAt Go.RowKit
attribute [local go_sem ↓] Go.wp_at_zero Go.wp_at_succ comesTo_value_eq comesTo_skip_eq comesTo_enter_eq

structure ChgC where
  f : Int
  t : Int
  set : Bool
  n : Int
def chgD : ChgC := ⟨0, 0, false, 0⟩
def chgV (c : ChgC) : List Value := [.int .i64 c.f, .int .i64 c.t, .bool c.set, .int .i64 c.n]
def flatC : List ChgC → List Value
  | [] => []
  | c :: r => .int .i64 c.f :: .int .i64 c.t :: .bool c.set :: .int .i64 c.n :: flatC r
theorem flatC_length : ∀ l, (flatC l).length = l.length * 4
  | [] => rfl
  | p :: r => by simp [flatC, flatC_length r]; omega
theorem flatC_append : ∀ a b, flatC (a ++ b) = flatC a ++ flatC b
  | [], b => rfl
  | p :: r, b => by simp [flatC, flatC_append r b]
theorem flatC_get : ∀ (l : List ChgC) (k : Nat), k < l.length → (flatC l)[k * 4]? = some (.int .i64 (l.getD k chgD).f) ∧ (flatC l)[k * 4 + 1]? = some (.int .i64 (l.getD k chgD).t) ∧ (flatC l)[k * 4 + 2]? = some (.bool (l.getD k chgD).set) ∧ (flatC l)[k * 4 + 3]? = some (.int .i64 (l.getD k chgD).n)
  | [], k, h => by simp at h
  | p :: r, 0, _ => by simp [flatC]
  | p :: r, k + 1, h => by
    have := flatC_get r k (by simpa using h)
    rw [show (k + 1) * 4 = k * 4 + 1 + 1 + 1 + 1 by omega]
    simpa [flatC] using this
theorem flatC_one (l : List ChgC) : ∀ u ∈ flatC l, u.oneCell' = true := by
  induction l with
  | nil => intro u hu; simp [flatC] at hu
  | cons p r ih =>
    intro u hu
    simp only [flatC, List.mem_cons] at hu
    rcases hu with rfl | rfl | rfl | rfl | hu
    · rfl
    · rfl
    · rfl
    · rfl
    · exact ih u hu
/-- a row of changes that may be read -/
def RowC (w : World) (v : Value) (C : List ChgC) : Prop := ∃ ad c, v = .slice ad C.length c ∧ (ad = none → C.length = 0) ∧ ∀ a, ad = some a → ∃ g, a = ⟨g, 0, none⟩ ∧ (0 < C.length → g < w.heap.size ∧ ∀ j u, (flatC C)[j]? = some u → w.cell? ⟨g, j, none⟩ = some u)
theorem RowC.mono {w w' : World} {v : Value} {C : List ChgC} (h : RowC w v C) (hs : w.heap.size ≤ w'.heap.size) (hk : ∀ g, g < w.heap.size → (∀ j u, (flatC C)[j]? = some u → w.cell? ⟨g, j, none⟩ = some u) → 0 < C.length → w'.heap[g]? = w.heap[g]?) : RowC w' v C := by
  obtain ⟨ad, c, rfl, h0, h1⟩ := h
  refine ⟨ad, c, rfl, h0, fun a ha => ?_⟩
  obtain ⟨g, rfl, hg⟩ := h1 a ha
  refine ⟨g, rfl, fun hp => ?_⟩
  obtain ⟨g1, g2⟩ := hg hp
  refine ⟨Nat.lt_of_lt_of_le g1 hs, fun j u hj => ?_⟩
  have := g2 j u hj
  unfold World.cell? at this ⊢
  simp only [hk g g1 g2 hp]
  exact this
theorem RowC.below {w w' : World} {v : Value} {C : List ChgC} (h : RowC w v C) (hb : Below w.heap.size w w') : RowC w' v C := h.mono hb.size fun g hg _ _ => hb.block g hg
theorem RowC.nil (w : World) : RowC w (.slice none 0 0) [] := ⟨none, 0, rfl, fun _ => rfl, fun a h => by cases h⟩
theorem RowC.rd {w : World} {v : Value} {C : List ChgC} (h : RowC w v C) : Ap.RdG w 4 v C.length (flatC C) := by
  obtain ⟨ad, c, rfl, h0, h1⟩ := h
  refine ⟨⟨ad, c, rfl, h0, fun a ha j u hj => ?_, fun a ha hm => ?_⟩, flatC_length C, flatC_one C⟩
  · obtain ⟨g, rfl, hg⟩ := h1 a ha
    have hm : 0 < C.length := by
      rcases Nat.eq_zero_or_pos C.length with e | e
      · rw [List.eq_nil_of_length_eq_zero e] at hj; simp [flatC] at hj
      · exact e
    have hadd : (⟨g, 0, none⟩ : Addr).add j = ⟨g, j, none⟩ := by unfold Addr.add; split <;> simp_all
    rw [hadd]
    exact (hg hm).2 j u hj
  · obtain ⟨g, rfl, hg⟩ := h1 a ha
    exact (hg hm).1
theorem RowC.own {w : World} {B : Nat} {v : Value} {C : List ChgC} (h : w.ownsRow B 146 4 v C.length (flatC C)) : RowC w v C := by
  have hl := flatC_length C
  rcases h.2 with ⟨rfl, h0⟩ | ⟨g, cap, cur, rfl, hB, hg, hc, _⟩
  · exact ⟨none, 0, by rw [h0], fun _ => h0, fun a ha => by cases ha⟩
  · refine ⟨_, cap, rfl, (fun h => by cases h), fun a ha => ⟨g, (Option.some.inj ha).symm, fun hp => ⟨(Array.getElem?_eq_some_iff.1 hg).1, fun j u hj => ?_⟩⟩⟩
    have hlt : j < (flatC C).length := (List.getElem?_eq_some_iff.1 hj).1
    exact (h.cellAt j (by omega)).trans hj
theorem RowC.at {w : World} {v : Value} {C : List ChgC} (h : RowC w v C) {k : Nat} (hk : k < C.length) : ∃ g c, v = .slice (some ⟨g, 0, none⟩) C.length c ∧ g < w.heap.size ∧ w.cell? ⟨g, k * 4, none⟩ = some (.int .i64 (C.getD k chgD).f) ∧ w.cell? ⟨g, k * 4 + 1, none⟩ = some (.int .i64 (C.getD k chgD).t) ∧ w.cell? ⟨g, k * 4 + 2, none⟩ = some (.bool (C.getD k chgD).set) ∧ w.cell? ⟨g, k * 4 + 3, none⟩ = some (.int .i64 (C.getD k chgD).n) := by
  obtain ⟨ad, c, rfl, h0, h1⟩ := h
  cases ad with
  | none => have := h0 rfl; omega
  | some a =>
    obtain ⟨g, rfl, hg⟩ := h1 a rfl
    obtain ⟨g1, g2⟩ := hg (by omega)
    have hf := flatC_get C k hk
    exact ⟨g, c, rfl, g1, g2 _ _ hf.1, g2 _ _ hf.2.1, g2 _ _ hf.2.2.1, g2 _ _ hf.2.2.2⟩
theorem RowC.form {w : World} {v : Value} {C : List ChgC} (h : RowC w v C) : ∃ ad c, v = .slice ad C.length c := by
  obtain ⟨ad, c, e, _⟩ := h
  exact ⟨ad, c, e⟩
/-- one change more, at a time -/
def ratStep (x : Int) (v : Int) (c : ChgC) : Int := if holdsI (c.f, c.t) x then (if c.set then boundU c.n else addF (byU c.n) v) else v
/-- the document's level at a time -/
def ratU (first : Int) (C : List ChgC) (t : Int) : Int := C.foldl (ratStep (if clampI t = 1099511627776 then 1099511627775 else clampI t)) (boundU first)
theorem w64_eq (n : Int) : IntKind.i64.wrap n = wrap64 n := by rw [IntKind.wrap_i64]; unfold wrap64; rfl
theorem rclampU_any (n : Int) (w : World) : Calls Tryd.prog 138 #[.int .i64 n] w fun e w' => e = .returned (.int .i64 (boundU n)) ∧ w = w' := by
  by_cases h1 : n < -1000000
  · have E : boundU n = -1000000 := by unfold boundU; rw [if_pos h1]
    have h2 : n ≤ 1000000 := by omega
    rw [E]
    go_enter Tryd.func138, Tryd.ntmps138
    go_wp2
    all_goals go_ret
    all_goals first | exact ⟨rfl, rfl⟩ | (refine ⟨ret_int ?_, rfl⟩; omega)
  · by_cases h2 : 1000000 < n
    · have E : boundU n = 1000000 := by unfold boundU; rw [if_neg h1, if_pos h2]
      rw [E]
      go_enter Tryd.func138, Tryd.ntmps138
      go_wp2
      all_goals go_ret
      all_goals first | exact ⟨rfl, rfl⟩ | (refine ⟨ret_int ?_, rfl⟩; omega)
    · have E : boundU n = n := boundU_id (by omega)
      rw [E]
      go_enter Tryd.func138, Tryd.ntmps138
      go_wp2
      all_goals go_ret
      all_goals first | exact ⟨rfl, rfl⟩ | (refine ⟨ret_int ?_, rfl⟩; omega)
theorem rclamp2_any (n : Int) (w : World) : Calls Tryd.prog 140 #[.int .i64 n] w fun e w' => e = .returned (.int .i64 (byU n)) ∧ w = w' := by
  by_cases h1 : n < -2000000
  · have E : byU n = -2000000 := by unfold byU; rw [if_pos h1]
    rw [E]
    go_enter Tryd.func140, Tryd.ntmps140
    go_wp2
    all_goals go_ret
    all_goals first | exact ⟨rfl, rfl⟩ | (refine ⟨ret_int ?_, rfl⟩; omega)
  · by_cases h2 : 2000000 < n
    · have E : byU n = 2000000 := by unfold byU; rw [if_neg h1, if_pos h2]
      rw [E]
      go_enter Tryd.func140, Tryd.ntmps140
      go_wp2
      all_goals go_ret
      all_goals first | exact ⟨rfl, rfl⟩ | (refine ⟨ret_int ?_, rfl⟩; omega)
    · have E : byU n = n := by unfold byU; rw [if_neg h1, if_neg h2]
      rw [E]
      go_enter Tryd.func140, Tryd.ntmps140
      go_wp2
      all_goals go_ret
      all_goals first | exact ⟨rfl, rfl⟩ | (refine ⟨ret_int ?_, rfl⟩; omega)
theorem fold_take {α : Type} (st : Int → α → Int) (z : Int) (C : List α) (d : α) {k : Nat} (hk : k < C.length) : (C.take (k + 1)).foldl st z = st ((C.take k).foldl st z) (C.getD k d) := by
  rw [List.take_add_one, List.foldl_append, List.getElem?_eq_getElem hk, List.getD_eq_getElem?_getD, List.getElem?_eq_getElem hk]
  rfl
set_option maxRecDepth 100000 in
set_option maxHeartbeats 4000000 in
theorem rat_any {w : World} {v : Value} {C : List ChgC} (h : RowC w v C) (hlen : C.length ≤ 4294967296) (first t : Int) :
    Calls Tryd.prog 107 #[.agg #[.int .i64 first, v], .int .i64 t] w fun e w' => e = .returned (.int .i64 (ratU first C t)) ∧ Below w.heap.size w w' := by
  obtain ⟨x, hx⟩ : ∃ x, x = (if clampI t = 1099511627776 then 1099511627775 else clampI t) := ⟨_, rfl⟩
  obtain ⟨res, hres⟩ : ∃ r, r = ratU first C t := ⟨_, rfl⟩
  rw [← hres]
  have HR := Lib.hid (show res = C.foldl (ratStep x) (boundU first) by rw [hres, hx]; rfl)
  have HX := Lib.hid hx
  clear hres hx
  obtain ⟨ad, cp, hv⟩ := h.form
  have hb0 := below_alloc (Below.refl _ w) (.cells #[.int .i64 first, v] 67)
  have n0 := World.alloc_heap_new w (.cells #[.int .i64 first, v] 67)
  have H := Lib.hid (fun W (hb : Below w.heap.size w W) => h.below hb)
  have KH := Lib.hid (fun f t x W => rholds_any f t x W)
  clear h
  subst hv
  go_enter Tryd.func107, Tryd.ntmps107
  go_upto_region 1 with fail
  generalize w.alloc (.cells #[.int .i64 first, .slice ad C.length cp] 67) = W at *
  have c0 := cell_of_block (o := 0) n0 rfl
  have c1 := cell_of_block (o := 1) n0 rfl
  go_wp2_with fail
  refine (rclamp_any t _).mono ?_
  rintro e w' ⟨rfl, rfl⟩
  go_upto_if 10 with fail
  go_cut [1] (fun s wx => s = .int .i64 x ∧ wx = W)
  case first =>
    by_cases hq : clampI t = 1099511627776
    case pos =>
      have hq1 : (clampI t == 1099511627776) = true := beq_iff_eq.2 hq
      have E := HX.out
      rw [if_pos hq] at E
      subst E
      go_wp2_with fail
      go_meet
      exact ⟨rfl, rfl⟩
    case neg =>
      have hq1 : (clampI t == 1099511627776) = false := beq_eq_false_iff_ne.2 hq
      have E := HX.out
      rw [if_neg hq] at E
      subst E
      go_wp2_with fail
      go_meet
      exact ⟨rfl, rfl⟩
  case rest =>
  obtain ⟨rfl, rfl⟩ := hcut
  clear HX
  go_wp2_with fail
  refine (rclampU_any first _).mono ?_
  rintro e w' ⟨rfl, rfl⟩
  have HN := Lib.hid n0
  have HB := Lib.hid hb0
  clear c0 c1 n0 hb0
  go_wp2_with fail
  go_loopw [5, 6] (fun z i wr => ∃ k : Nat, k ≤ C.length ∧ i = .int .i64 k ∧ z = .int .i64 ((C.take k).foldl (ratStep x) (boundU first)) ∧ Below w.heap.size w wr ∧ wr.heap[w.heap.size]? = some (.cells #[.int .i64 first, .slice ad C.length cp] 67 (0, 0))) (fun _ i _ => C.length - (intOf i).toNat)
  case atStart => exact ⟨0, by omega, rfl, rfl, HB.out, HN.out⟩
  case round =>
    obtain ⟨k, hk, rfl, rfl, hb, hn⟩ := hrel
    have c0 := cell_of_block (o := 0) hn rfl
    have c1 := cell_of_block (o := 1) hn rfl
    have hlt1 := (Array.getElem?_eq_some_iff.1 hn).1
    have HBr := Lib.hid hb
    have HNr := Lib.hid hn
    clear hb hn
    by_cases hlt : k < C.length
    case pos =>
      have hd : decide (k < C.length) = true := decide_eq_true hlt
      obtain ⟨g, cc, e0, hg, q0, q1, q2, q3⟩ := (H.out wr HBr.out).at hlt
      have e1 : ad = some ⟨g, 0, none⟩ := by injection e0
      subst e1
      have HS := Lib.hid (fold_take (ratStep x) (boundU first) C chgD hlt)
      generalize (C.take k).foldl (ratStep x) (boundU first) = z at *
      have hw1 : IntKind.i64.wrap ((k : Int) + 1) = ((k + 1 : Nat) : Int) := by rw [IntKind.wrap_i64]; omega
      have hix : (k : Int) < (C.length : Int) := by omega
      generalize C.getD k chgD = c at *
      obtain ⟨cf, ct, cs, cn⟩ := c
      simp only at q0 q1 q2 q3
      go_wp2_with fail
      refine (KH.out cf ct x _).mono ?_
      rintro e w2 ⟨rfl, hb2⟩
      have HB2 := Lib.hid (below_next HBr.out hb2)
      have n2 := (hb2.block _ hlt1).trans HNr.out
      have HN2 := Lib.hid n2
      have c0 := cell_of_block (o := 0) n2 rfl
      have c1 := cell_of_block (o := 1) n2 rfl
      have q2 := (hb2.cell (p := ⟨g, k * 4 + 2, none⟩) hg).trans q2
      have q3 := (hb2.cell (p := ⟨g, k * 4 + 3, none⟩) hg).trans q3
      clear hb2 n2 q0 q1
      cases hh : holdsI (cf, ct) x with
      | false =>
        have HV := Lib.hid (show ratStep x z ⟨cf, ct, cs, cn⟩ = z by unfold ratStep; simp only; rw [hh]; rfl)
        go_wp2_with fail
        exact ⟨⟨k + 1, by omega, rfl, by rw [HS.out, HV.out], HB2.out, HN2.out⟩, by show C.length - (((k + 1 : Nat) : Int)).toNat < C.length - ((k : Int)).toNat; omega⟩
      | true =>
        cases cs with
        | true =>
          have HV := Lib.hid (show ratStep x z ⟨cf, ct, true, cn⟩ = boundU cn by unfold ratStep; simp only; rw [hh]; rfl)
          go_wp2_with fail
          refine (rclampU_any cn _).mono ?_
          rintro e w' ⟨rfl, rfl⟩
          go_wp2_with fail
          exact ⟨⟨k + 1, by omega, rfl, by rw [HS.out, HV.out], HB2.out, HN2.out⟩, by show C.length - (((k + 1 : Nat) : Int)).toNat < C.length - ((k : Int)).toNat; omega⟩
        | false =>
          have HV := Lib.hid (show ratStep x z ⟨cf, ct, false, cn⟩ = boundU (wrap64 (z + byU cn)) by unfold ratStep addF; simp only; rw [hh, w64_eq]; simp)
          go_wp2_with fail
          refine (rclamp2_any cn _).mono ?_
          rintro e w' ⟨rfl, rfl⟩
          go_wp2_with fail
          refine (rclampU_any _ _).mono ?_
          rintro e w' ⟨rfl, rfl⟩
          go_wp2_with fail
          exact ⟨⟨k + 1, by omega, rfl, by rw [HS.out, HV.out], HB2.out, HN2.out⟩, by show C.length - (((k + 1 : Nat) : Int)).toNat < C.length - ((k : Int)).toNat; omega⟩
    case neg =>
      have hd : decide (k < C.length) = false := decide_eq_false hlt
      obtain rfl : k = C.length := by omega
      have HE := Lib.hid (show (C.take C.length).foldl (ratStep x) (boundU first) = res by rw [HR.out, List.take_length])
      rw [HE.out]
      go_wp2_with fail
      go_ret
      exact ⟨rfl, HBr.out⟩
theorem info_chg : (Tryd.prog.info? 146).map (fun i => (i.zero, i.size, i.bytes)) = some (some (.agg #[.int .i64 0, .int .i64 0, .bool false, .int .i64 0]), 4, 32) := by kernel_rfl
theorem eltC : Ap.Elt Tryd.prog 65 146 4 32 :=
  ⟨Tryd.underlying65, by obtain ⟨i, h1, h2, h3, h4⟩ := info_parts3 info_chg; exact ⟨i, _, h1, h2, h3, h4, rfl⟩, by decide⟩
theorem RowC.keep {w w' : World} {v x y : Value} {C : List ChgC} {B : Nat} {T : TypeId} (h : RowC w v C) (hB : w.heap[B]? = some (.cells #[x, y] T (0, 0))) (hy : (∃ a n c, y = .slice a n c) ∨ ∃ a n c, x = .slice a n c) (hs : w.heap.size ≤ w'.heap.size) (hk : ∀ g, g < w.heap.size → g ≠ B → w'.heap[g]? = w.heap[g]?) : RowC w' v C := by
  refine h.mono hs fun g hg hc hp => hk g hg ?_
  rintro rfl
  have hf := flatC_get C 0 hp
  have h0 := hc _ _ hf.1
  have h1 := hc _ _ hf.2.1
  have e0 := cell_of_block (o := 0) hB rfl
  have e1 := cell_of_block (o := 1) hB rfl
  rw [show 0 * 4 = 0 by omega] at h0
  rw [show 0 * 4 + 1 = 1 by omega] at h1
  rcases hy with ⟨a, n, c, rfl⟩ | ⟨a, n, c, rfl⟩
  · rw [h1] at e1; cases e1
  · rw [h0] at e0; cases e0
theorem RowC.keep1 {w w' : World} {v x : Value} {C : List ChgC} {B : Nat} {T : TypeId} (h : RowC w v C) (hB : w.heap[B]? = some (.cells #[x] T (0, 0))) (hy : ∃ a n c, x = .slice a n c) (hs : w.heap.size ≤ w'.heap.size) (hk : ∀ g, g < w.heap.size → g ≠ B → w'.heap[g]? = w.heap[g]?) : RowC w' v C := by
  refine h.mono hs fun g hg hc hp => hk g hg ?_
  rintro rfl
  have hf := flatC_get C 0 hp
  have h0 := hc _ _ hf.1
  have e0 := cell_of_block (o := 0) hB rfl
  rw [show 0 * 4 = 0 by omega] at h0
  obtain ⟨a, n, c, rfl⟩ := hy
  rw [h0] at e0; cases e0
end Go.Proofs.YtdamemdfehopeaaDoor
namespace Go.Proofs.YtdamemdfehopeaaDoor
set_option linter.unusedVariables false
open Go.ChangeShapes Go.WideShapes Go.ChangeAt Go.RowKit
/-- the document's levels -/
def LikeU (first : Int) (L : List (Int × Int)) (C : List ChgC) : Prop := ∀ x, 0 ≤ x → x < 1099511627776 → lvl 0 L x = C.foldl (ratStep x) (boundU first)
theorem holdsI_iff {f t x : Int} (h0 : 0 ≤ x) (h1 : x < 1099511627776) : holdsI (f, t) x = true ↔ (clampI f < clampI t ∧ f ≤ x ∧ x < t) := by
  unfold holdsI
  simp only
  rw [clampI_of h0 (by omega), Bool.and_eq_true, decide_eq_true_eq, decide_eq_true_eq]
  rcases clamp_facts f with ⟨a, b⟩ | ⟨a, c, b⟩ | ⟨a, b⟩ <;> rcases clamp_facts t with ⟨a', b'⟩ | ⟨a', c', b'⟩ | ⟨a', b'⟩ <;> rw [b, b'] <;> omega
theorem ratStep_iff (x v : Int) (c : ChgC) (h0 : 0 ≤ x) (h1 : x < 1099511627776) : ratStep x v c = if clampI c.f < clampI c.t ∧ c.f ≤ x ∧ x < c.t then (if c.set then boundU c.n else addF (byU c.n) v) else v := by
  unfold ratStep
  by_cases h : clampI c.f < clampI c.t ∧ c.f ≤ x ∧ x < c.t
  · rw [if_pos h, (holdsI_iff h0 h1).2 h]; rfl
  · rw [if_neg h]
    have : holdsI (c.f, c.t) x = false := by
      rw [Bool.eq_false_iff]
      exact fun hh => h ((holdsI_iff h0 h1).1 hh)
    rw [this]; rfl
theorem like_flat (first : Int) : LikeU first [(0, boundU first)] [] := fun x h0 _ => by
  simp only [lvl, List.foldl_nil]
  rw [if_neg (by omega)]
theorem like_add {first : Int} {L : List (Int × Int)} {C : List ChgC} (h : LikeU first L C) (hr : RightU L) (f t n : Int) : LikeU first (changeU (addF (byU n)) L (f, t)) (C ++ [⟨f, t, false, n⟩]) := fun x h0 h1 => by
  rw [(change_right hr (addF_in (byU n)) f t).2 x h0 h1, List.foldl_append, List.foldl_cons, List.foldl_nil, ratStep_iff _ _ _ h0 h1, h x h0 h1]
  simp
theorem like_set {first : Int} {L : List (Int × Int)} {C : List ChgC} (h : LikeU first L C) (hr : RightU L) (f t n : Int) : LikeU first (changeU (fun _ => boundU n) L (f, t)) (C ++ [⟨f, t, true, n⟩]) := fun x h0 h1 => by
  rw [(change_right hr (fun _ => boundU_in n) f t).2 x h0 h1, List.foldl_append, List.foldl_cons, List.foldl_nil, ratStep_iff _ _ _ h0 h1, h x h0 h1]
  simp
/-- what the document's Forget makes of the changes -/
def rforgetU (first : Int) (C : List ChgC) (t : Int) : List ChgC := if t ≥ 1099511627776 then C else C ++ [⟨0, t, true, ratU first C t⟩]
theorem like_at {first : Int} {L : List (Int × Int)} {C : List ChgC} (h : LikeU first L C) (hr : RightU L) (t : Int) : atU L t = ratU first C t := by
  have hb := clampI_bounds t
  rw [at_spec hr, h _ (by omega) (by omega)]
  unfold ratU
  by_cases e : clampI t = 1099511627776
  · rw [if_pos e, e]; rfl
  · rw [if_neg e, show min (clampI t) 1099511627775 = clampI t by omega]
theorem like_forget {first : Int} {L : List (Int × Int)} {C : List ChgC} (h : LikeU first L C) (hr : RightU L) (t : Int) : LikeU first (forgetU L t) (rforgetU first C t) := by
  have hb := clampI_bounds t
  have ht : t ≥ 1099511627776 ↔ clampI t = 1099511627776 := by rcases clamp_facts t with ⟨a', b'⟩ | ⟨a', c', b'⟩ | ⟨a', b'⟩ <;> rw [b'] <;> omega
  unfold forgetU rforgetU
  by_cases e : clampI t = 1099511627776
  · rw [if_pos e, if_pos (ht.2 e)]; exact h
  · rw [if_neg e, if_neg (fun hh => e (ht.1 hh))]
    intro x h0 h1
    have e0 : clampI 0 = 0 := by decide +kernel
    have ha : atU L (clampI t) = ratU first C t := by
      rw [like_at h hr]
      unfold ratU
      rw [clampI_clampI]
    rw [(change_right hr (fun _ => boundU_in _) 0 (clampI t)).2 x h0 h1, List.foldl_append, List.foldl_cons, List.foldl_nil, ratStep_iff _ _ _ h0 h1, h x h0 h1, ha, clampI_clampI, e0]
    simp only [e0]
    by_cases hx : 0 < clampI t ∧ 0 ≤ x ∧ x < clampI t
    · rw [if_pos hx, if_pos ⟨hx.1, hx.2.1, by rcases clamp_facts t with ⟨a', b'⟩ | ⟨a', c', b'⟩ | ⟨a', b'⟩ <;> omega⟩]; simp
    · rw [if_neg hx, if_neg (fun hh => hx ⟨hh.1, hh.2.1, by rcases clamp_facts t with ⟨a', b'⟩ | ⟨a', c', b'⟩ | ⟨a', b'⟩ <;> omega⟩)]
theorem rforgetU_len (first : Int) (C : List ChgC) (t : Int) : (rforgetU first C t).length ≤ C.length + 1 := by
  unfold rforgetU
  split
  · omega
  · simp
end Go.Proofs.YtdamemdfehopeaaDoor
namespace Go.Proofs.YtdamemdfehopeaaDoor
set_option linter.unusedVariables false
open Go.ChangeShapes Go.WideShapes Go.ChangeAt Go.RowKit
attribute [local go_sem ↓] Go.wp_at_zero Go.wp_at_succ comesTo_value_eq comesTo_skip_eq comesTo_enter_eq

set_option maxRecDepth 100000 in
set_option maxHeartbeats 8000000 in
theorem rchg_add {w : World} {v : Value} {C : List ChgC} (h : RowC w v C) (hlen : C.length ≤ 4294967296) (first f t n : Int) :
    Calls Tryd.prog 27 #[.agg #[.int .i64 first, v], .agg #[.int .i64 f, .int .i64 t], .int .i64 n] w fun e w' => ∃ v', e = .returned (.agg #[.int .i64 first, v']) ∧ RowC w' v' (C ++ [⟨f, t, false, n⟩]) ∧ Below w.heap.size w w' := by
  have hmx : Tryd.prog.follows .mixedOrders = true := by kernel_rfl
  obtain ⟨ad, cp, hv⟩ := h.form
  have HB := below_alloc (below_alloc (below_alloc (Below.refl _ w) (.cells #[.int .i64 first, v] 67)) (.cells #[.int .i64 f, .int .i64 t] 76)) (.cells #[.int .i64 0, .slice none 0 0] 67)
  have n3 := World.alloc_heap_new ((w.alloc (.cells #[.int .i64 first, v] 67)).alloc (.cells #[.int .i64 f, .int .i64 t] 76)) (.cells #[.int .i64 0, .slice none 0 0] 67)
  have s1 : (w.alloc (.cells #[.int .i64 first, v] 67)).heap.size = w.heap.size + 1 := by simp
  have s2 : ((w.alloc (.cells #[.int .i64 first, v] 67)).alloc (.cells #[.int .i64 f, .int .i64 t] 76)).heap.size = w.heap.size + 1 + 1 := by simp
  rw [s2] at n3
  have n2 := ((below_alloc (Below.refl _ ((w.alloc (.cells #[.int .i64 first, v] 67)).alloc (.cells #[.int .i64 f, .int .i64 t] 76))) (.cells #[.int .i64 0, .slice none 0 0] 67)).block (w.heap.size + 1) (by omega)).trans (s1 ▸ World.alloc_heap_new (w.alloc (.cells #[.int .i64 first, v] 67)) (.cells #[.int .i64 f, .int .i64 t] 76))
  have n1 := ((below_alloc (below_alloc (Below.refl _ (w.alloc (.cells #[.int .i64 first, v] 67))) (.cells #[.int .i64 f, .int .i64 t] 76)) (.cells #[.int .i64 0, .slice none 0 0] 67)).block w.heap.size (by omega)).trans (World.alloc_heap_new w (.cells #[.int .i64 first, v] 67))
  have hr := (h.below HB).rd
  clear h s1 s2
  subst hv
  go_enter Tryd.func27, Tryd.ntmps27
  go_upto_region 1 with fail
  generalize ((w.alloc (.cells #[.int .i64 first, .slice ad C.length cp] 67)).alloc (.cells #[.int .i64 f, .int .i64 t] 76)).alloc (.cells #[.int .i64 0, .slice none 0 0] 67) = W at *
  have k1 := (Array.getElem?_eq_some_iff.1 n1).1
  have k2 := (Array.getElem?_eq_some_iff.1 n2).1
  have k3 := (Array.getElem?_eq_some_iff.1 n3).1
  refine Ap.wp_region_K (S1 := fun X => X.cell? ⟨w.heap.size, 0, none⟩ = some (.int .i64 first) ∧ X.cell? ⟨w.heap.size + 1, 0, none⟩ = some (.int .i64 f) ∧ X.cell? ⟨w.heap.size + 1, 1, none⟩ = some (.int .i64 t)) (S2 := fun X => X.cell? ⟨w.heap.size, 1, none⟩ = some (.slice ad C.length cp)) (js := 3) hmx ?_
  change Ap.wpAnyK _ _ _ _ _ _ _ 11 _ _ W.drew
  have hSS : (fun X : World => X.cell? ⟨w.heap.size, 0, none⟩ = some (.int .i64 first) ∧ X.cell? ⟨w.heap.size + 1, 0, none⟩ = some (.int .i64 f) ∧ X.cell? ⟨w.heap.size + 1, 1, none⟩ = some (.int .i64 t)) W.drew ∧ (fun X : World => X.cell? ⟨w.heap.size, 1, none⟩ = some (.slice ad C.length cp)) W.drew := ⟨⟨cell_of_block n1 rfl, cell_of_block n2 rfl, cell_of_block n2 rfl⟩, cell_of_block n1 rfl⟩
  refine Ap.wpAnyK_take1 (i := 1) (v := .pointer (some ⟨w.heap.size, 1, none⟩)) rfl (by decide) (by decide +kernel) (by decide +kernel) (by decide +kernel) (fun _ _ _ h => h) (.inl ⟨by first | rfl | (go_simp; done), fun X hX => by have hx1 := hX.1; have hx2 := hX.2.1; have hx3 := hX.2.2; clear hX; first | (go_simp; done) | (go_simp; rfl)⟩) hSS ?_
  refine Ap.wpAnyK_take2 (i := 2) (v := .slice ad C.length cp) rfl (by decide) (by decide +kernel) (by decide +kernel) (by decide +kernel) rfl (by decide +kernel) (by decide +kernel) (fun _ _ _ h => h) (.inl ⟨by first | rfl | (go_simp; done), fun X hX => by have hx1 := hX.2; clear hX; first | (go_simp; done) | (go_simp; rfl)⟩) hSS ?_
  refine Ap.wpAnyK_take1 (i := 4) (v := .agg #[.int .i64 f, .int .i64 t]) rfl (by decide) (by decide +kernel) (by decide +kernel) (by decide +kernel) (fun _ _ _ h => h) (.inl ⟨by first | rfl | (go_simp; done), fun X hX => by have hx1 := hX.1; have hx2 := hX.2.1; have hx3 := hX.2.2; clear hX; first | (go_simp; done) | (go_simp; rfl)⟩) hSS ?_
  refine Ap.wpAnyK_take1 (i := 5) (v := .int .i64 n) rfl (by decide) (by decide +kernel) (by decide +kernel) (by decide +kernel) (fun _ _ _ h => h) (.inl ⟨by first | rfl | (go_simp; done), fun X hX => by have hx1 := hX.1; have hx2 := hX.2.1; have hx3 := hX.2.2; clear hX; first | (go_simp; done) | (go_simp; rfl)⟩) hSS ?_
  refine Ap.wpAnyK_take1 (i := 6) (v := .agg #[.int .i64 f, .int .i64 t, .bool false, .int .i64 n]) rfl (by decide) (by decide +kernel) (by decide +kernel) (by decide +kernel) (fun _ _ _ h => h) (.inl ⟨by first | rfl | (go_simp; done), fun X hX => by have hx1 := hX.1; have hx2 := hX.2.1; have hx3 := hX.2.2; clear hX; first | (go_simp; done) | (go_simp; rfl)⟩) hSS ?_
  refine Ap.anyK_app2 (j0 := 0) (j1 := 3) (j2 := 7) (j3 := 8) (fuel := 2) (cs := #[.int .i64 f, .int .i64 t, .bool false, .int .i64 n]) eltC W.heap.size (.inl (by decide +kernel)) (.inl (by decide +kernel)) (by decide +kernel) (by decide +kernel) (by decide +kernel) (by decide +kernel) (by decide) rfl rfl rfl rfl ⟨rfl, rfl, rfl, rfl⟩ (by decide) ⟨rfl, rfl, rfl, rfl⟩ rfl rfl
    (by simp [Act.put]) (fun a' X => by first | (go_simp; done) | (go_simp; rfl)) (.slice ad C.length cp) C.length (flatC C) (fun u0 u2 => ⟨by simp [Act.put, Act.eval], by simp [Act.put, Act.eval]⟩) (hr.mono (Below.refl _ _).drew)
    (fun u0 u1 X => ⟨by first | (go_simp; done) | (go_simp; rfl), by first | (go_simp; done) | (go_simp; rfl), by first | (go_simp; done) | (go_simp; rfl)⟩) rfl (by intro u hu; simp at hu; rcases hu with rfl | rfl | rfl | rfl <;> rfl) (by unfold maxLen; omega) (by omega) (Nat.le_refl _)
    (fun X hb => ⟨⟨(hb.cell (p := ⟨w.heap.size, 0, none⟩) k1).trans hSS.1.1, (hb.cell (p := ⟨w.heap.size + 1, 0, none⟩) k2).trans hSS.1.2.1, (hb.cell (p := ⟨w.heap.size + 1, 1, none⟩) k2).trans hSS.1.2.2⟩, (hb.cell (p := ⟨w.heap.size, 1, none⟩) k1).trans hSS.2⟩) ?_
  intro u0 u1 u2 v0 X ho hb
  have hown := RowC.own (C := C ++ [⟨f, t, false, n⟩]) (v := v0) (by rw [flatC_append, List.length_append]; exact ho)
  obtain ⟨ad', n', cp', rfl⟩ : ∃ ad' n' cp', v0 = .slice ad' n' cp' := by obtain ⟨x, y, e⟩ := hown.form; exact ⟨_, _, _, e⟩
  have hS9 : (fun X : World => X.cell? ⟨w.heap.size, 0, none⟩ = some (.int .i64 first) ∧ X.cell? ⟨w.heap.size + 1, 0, none⟩ = some (.int .i64 f) ∧ X.cell? ⟨w.heap.size + 1, 1, none⟩ = some (.int .i64 t)) X ∧ (fun X : World => X.cell? ⟨w.heap.size, 1, none⟩ = some (.slice ad C.length cp)) X := ⟨⟨(hb.cell (p := ⟨w.heap.size, 0, none⟩) k1).trans hSS.1.1, (hb.cell (p := ⟨w.heap.size + 1, 0, none⟩) k2).trans hSS.1.2.1, (hb.cell (p := ⟨w.heap.size + 1, 1, none⟩) k2).trans hSS.1.2.2⟩, (hb.cell (p := ⟨w.heap.size, 1, none⟩) k1).trans hSS.2⟩
  have x1 := (hb.block w.heap.size k1).trans n1
  have x2 := (hb.block (w.heap.size + 1) k2).trans n2
  have x3 := (hb.block (w.heap.size + 1 + 1) k3).trans n3
  have y1 := cell_of_block (o := 1) x1 rfl
  have z1 := free_of_block 1 x1
  have hw := (wrote_refl x1).set 1 (.slice ad' n' cp')
  refine Ap.anyK_val1 (i := 9) (v := .pointer (some ⟨w.heap.size, 1, none⟩)) (w' := X) (by decide +kernel) rfl rfl (by first | (go_simp; done) | (go_simp; rfl)) hS9 ?_
  have hlt : w.heap.size < W.drew.heap.size := k1
  have hown' : RowC (X.setCell ⟨w.heap.size, 1, none⟩ (.slice ad' n' cp')) (.slice ad' n' cp') (C ++ [⟨f, t, false, n⟩]) := hown.keep x1 (.inl ⟨ad, C.length, cp, rfl⟩) (by rw [hw.size]; exact Nat.le_refl _) (fun g _ hne => hw.rest g hne)
  refine Ap.anyK_store (i := 10) (w' := X.setCell ⟨w.heap.size, 1, none⟩ (.slice ad' n' cp')) (by decide +kernel) rfl rfl (by decide +kernel) (by first | (go_simp; done) | (go_simp; rfl)) ⟨(cell_of_block (o := 0) hw.there rfl), (cell_of_block (o := 0) ((hw.rest _ (by omega)).trans x2) rfl), (cell_of_block (o := 1) ((hw.rest _ (by omega)).trans x2) rfl)⟩ ?_
  refine Ap.wpAnyK_done (by decide +kernel) ?_ _
  have q1 := cell_of_block (o := 0) hw.there rfl
  have q2 := cell_of_block (o := 1) hw.there rfl
  have r3 := (hw.rest (w.heap.size + 1 + 1) (by omega)).trans x3
  have r0 := cell_of_block (o := 0) r3 rfl
  have r1 := cell_of_block (o := 1) r3 rfl
  have f0 := free_of_block 0 r3
  have f1 := free_of_block 1 r3
  have HBX := Lib.hid (hw.below (Below.trans (Below.drew HB) (Below.mono hb HB.size)) (Nat.le_refl _))
  have hw3 := ((wrote_refl r3).set 0 (.int .i64 first)).set 1 (.slice ad' n' cp')
  have HO := Lib.hid (hown'.keep r3 (.inl ⟨none, 0, 0, rfl⟩) (by rw [hw3.size]; exact Nat.le_refl _) (fun g _ hne => hw3.rest g hne))
  have HBY := Lib.hid (hw3.below HBX.out (by omega))
  have HT := Lib.hid hw3.there
  clear hSS hS9 hown hown' ho hb HB n1 n2 n3 hr x1 x2 x3 y1 z1 hw hw3 r3
  go_wp2_with fail
  have e0 := cell_of_block (o := 0) HT.out rfl
  have e1 := cell_of_block (o := 1) HT.out rfl
  clear q1 q2 r0 r1 f0 f1
  generalize (((X.setCell ⟨w.heap.size, 1, none⟩ (.slice ad' n' cp')).setCell ⟨w.heap.size + 1 + 1, 0, none⟩ (.int .i64 first)).setCell ⟨w.heap.size + 1 + 1, 1, none⟩ (.slice ad' n' cp')) = Y at *
  exact bodyPost_ret (v := .agg #[.int .i64 first, .slice ad' n' cp']) (by simp [results, Tryd.results27, go_sem]; try go_simp) rfl ⟨_, rfl, HO.out, HBY.out⟩
set_option maxRecDepth 100000 in
set_option maxHeartbeats 8000000 in
theorem rchg_set {w : World} {v : Value} {C : List ChgC} (h : RowC w v C) (hlen : C.length ≤ 4294967296) (first f t n : Int) :
    Calls Tryd.prog 67 #[.agg #[.int .i64 first, v], .agg #[.int .i64 f, .int .i64 t], .int .i64 n] w fun e w' => ∃ v', e = .returned (.agg #[.int .i64 first, v']) ∧ RowC w' v' (C ++ [⟨f, t, true, n⟩]) ∧ Below w.heap.size w w' := by
  have hmx : Tryd.prog.follows .mixedOrders = true := by kernel_rfl
  obtain ⟨ad, cp, hv⟩ := h.form
  have HB := below_alloc (below_alloc (below_alloc (Below.refl _ w) (.cells #[.int .i64 first, v] 67)) (.cells #[.int .i64 f, .int .i64 t] 76)) (.cells #[.int .i64 0, .slice none 0 0] 67)
  have n3 := World.alloc_heap_new ((w.alloc (.cells #[.int .i64 first, v] 67)).alloc (.cells #[.int .i64 f, .int .i64 t] 76)) (.cells #[.int .i64 0, .slice none 0 0] 67)
  have s1 : (w.alloc (.cells #[.int .i64 first, v] 67)).heap.size = w.heap.size + 1 := by simp
  have s2 : ((w.alloc (.cells #[.int .i64 first, v] 67)).alloc (.cells #[.int .i64 f, .int .i64 t] 76)).heap.size = w.heap.size + 1 + 1 := by simp
  rw [s2] at n3
  have n2 := ((below_alloc (Below.refl _ ((w.alloc (.cells #[.int .i64 first, v] 67)).alloc (.cells #[.int .i64 f, .int .i64 t] 76))) (.cells #[.int .i64 0, .slice none 0 0] 67)).block (w.heap.size + 1) (by omega)).trans (s1 ▸ World.alloc_heap_new (w.alloc (.cells #[.int .i64 first, v] 67)) (.cells #[.int .i64 f, .int .i64 t] 76))
  have n1 := ((below_alloc (below_alloc (Below.refl _ (w.alloc (.cells #[.int .i64 first, v] 67))) (.cells #[.int .i64 f, .int .i64 t] 76)) (.cells #[.int .i64 0, .slice none 0 0] 67)).block w.heap.size (by omega)).trans (World.alloc_heap_new w (.cells #[.int .i64 first, v] 67))
  have hr := (h.below HB).rd
  clear h s1 s2
  subst hv
  go_enter Tryd.func67, Tryd.ntmps67
  go_upto_region 1 with fail
  generalize ((w.alloc (.cells #[.int .i64 first, .slice ad C.length cp] 67)).alloc (.cells #[.int .i64 f, .int .i64 t] 76)).alloc (.cells #[.int .i64 0, .slice none 0 0] 67) = W at *
  have k1 := (Array.getElem?_eq_some_iff.1 n1).1
  have k2 := (Array.getElem?_eq_some_iff.1 n2).1
  have k3 := (Array.getElem?_eq_some_iff.1 n3).1
  refine Ap.wp_region_K (S1 := fun X => X.cell? ⟨w.heap.size, 0, none⟩ = some (.int .i64 first) ∧ X.cell? ⟨w.heap.size + 1, 0, none⟩ = some (.int .i64 f) ∧ X.cell? ⟨w.heap.size + 1, 1, none⟩ = some (.int .i64 t)) (S2 := fun X => X.cell? ⟨w.heap.size, 1, none⟩ = some (.slice ad C.length cp)) (js := 3) hmx ?_
  change Ap.wpAnyK _ _ _ _ _ _ _ 11 _ _ W.drew
  have hSS : (fun X : World => X.cell? ⟨w.heap.size, 0, none⟩ = some (.int .i64 first) ∧ X.cell? ⟨w.heap.size + 1, 0, none⟩ = some (.int .i64 f) ∧ X.cell? ⟨w.heap.size + 1, 1, none⟩ = some (.int .i64 t)) W.drew ∧ (fun X : World => X.cell? ⟨w.heap.size, 1, none⟩ = some (.slice ad C.length cp)) W.drew := ⟨⟨cell_of_block n1 rfl, cell_of_block n2 rfl, cell_of_block n2 rfl⟩, cell_of_block n1 rfl⟩
  refine Ap.wpAnyK_take1 (i := 1) (v := .pointer (some ⟨w.heap.size, 1, none⟩)) rfl (by decide) (by decide +kernel) (by decide +kernel) (by decide +kernel) (fun _ _ _ h => h) (.inl ⟨by first | rfl | (go_simp; done), fun X hX => by have hx1 := hX.1; have hx2 := hX.2.1; have hx3 := hX.2.2; clear hX; first | (go_simp; done) | (go_simp; rfl)⟩) hSS ?_
  refine Ap.wpAnyK_take2 (i := 2) (v := .slice ad C.length cp) rfl (by decide) (by decide +kernel) (by decide +kernel) (by decide +kernel) rfl (by decide +kernel) (by decide +kernel) (fun _ _ _ h => h) (.inl ⟨by first | rfl | (go_simp; done), fun X hX => by have hx1 := hX.2; clear hX; first | (go_simp; done) | (go_simp; rfl)⟩) hSS ?_
  refine Ap.wpAnyK_take1 (i := 4) (v := .agg #[.int .i64 f, .int .i64 t]) rfl (by decide) (by decide +kernel) (by decide +kernel) (by decide +kernel) (fun _ _ _ h => h) (.inl ⟨by first | rfl | (go_simp; done), fun X hX => by have hx1 := hX.1; have hx2 := hX.2.1; have hx3 := hX.2.2; clear hX; first | (go_simp; done) | (go_simp; rfl)⟩) hSS ?_
  refine Ap.wpAnyK_take1 (i := 5) (v := .int .i64 n) rfl (by decide) (by decide +kernel) (by decide +kernel) (by decide +kernel) (fun _ _ _ h => h) (.inl ⟨by first | rfl | (go_simp; done), fun X hX => by have hx1 := hX.1; have hx2 := hX.2.1; have hx3 := hX.2.2; clear hX; first | (go_simp; done) | (go_simp; rfl)⟩) hSS ?_
  refine Ap.wpAnyK_take1 (i := 6) (v := .agg #[.int .i64 f, .int .i64 t, .bool true, .int .i64 n]) rfl (by decide) (by decide +kernel) (by decide +kernel) (by decide +kernel) (fun _ _ _ h => h) (.inl ⟨by first | rfl | (go_simp; done), fun X hX => by have hx1 := hX.1; have hx2 := hX.2.1; have hx3 := hX.2.2; clear hX; first | (go_simp; done) | (go_simp; rfl)⟩) hSS ?_
  refine Ap.anyK_app2 (j0 := 0) (j1 := 3) (j2 := 7) (j3 := 8) (fuel := 2) (cs := #[.int .i64 f, .int .i64 t, .bool true, .int .i64 n]) eltC W.heap.size (.inl (by decide +kernel)) (.inl (by decide +kernel)) (by decide +kernel) (by decide +kernel) (by decide +kernel) (by decide +kernel) (by decide) rfl rfl rfl rfl ⟨rfl, rfl, rfl, rfl⟩ (by decide) ⟨rfl, rfl, rfl, rfl⟩ rfl rfl
    (by simp [Act.put]) (fun a' X => by first | (go_simp; done) | (go_simp; rfl)) (.slice ad C.length cp) C.length (flatC C) (fun u0 u2 => ⟨by simp [Act.put, Act.eval], by simp [Act.put, Act.eval]⟩) (hr.mono (Below.refl _ _).drew)
    (fun u0 u1 X => ⟨by first | (go_simp; done) | (go_simp; rfl), by first | (go_simp; done) | (go_simp; rfl), by first | (go_simp; done) | (go_simp; rfl)⟩) rfl (by intro u hu; simp at hu; rcases hu with rfl | rfl | rfl | rfl <;> rfl) (by unfold maxLen; omega) (by omega) (Nat.le_refl _)
    (fun X hb => ⟨⟨(hb.cell (p := ⟨w.heap.size, 0, none⟩) k1).trans hSS.1.1, (hb.cell (p := ⟨w.heap.size + 1, 0, none⟩) k2).trans hSS.1.2.1, (hb.cell (p := ⟨w.heap.size + 1, 1, none⟩) k2).trans hSS.1.2.2⟩, (hb.cell (p := ⟨w.heap.size, 1, none⟩) k1).trans hSS.2⟩) ?_
  intro u0 u1 u2 v0 X ho hb
  have hown := RowC.own (C := C ++ [⟨f, t, true, n⟩]) (v := v0) (by rw [flatC_append, List.length_append]; exact ho)
  obtain ⟨ad', n', cp', rfl⟩ : ∃ ad' n' cp', v0 = .slice ad' n' cp' := by obtain ⟨x, y, e⟩ := hown.form; exact ⟨_, _, _, e⟩
  have hS9 : (fun X : World => X.cell? ⟨w.heap.size, 0, none⟩ = some (.int .i64 first) ∧ X.cell? ⟨w.heap.size + 1, 0, none⟩ = some (.int .i64 f) ∧ X.cell? ⟨w.heap.size + 1, 1, none⟩ = some (.int .i64 t)) X ∧ (fun X : World => X.cell? ⟨w.heap.size, 1, none⟩ = some (.slice ad C.length cp)) X := ⟨⟨(hb.cell (p := ⟨w.heap.size, 0, none⟩) k1).trans hSS.1.1, (hb.cell (p := ⟨w.heap.size + 1, 0, none⟩) k2).trans hSS.1.2.1, (hb.cell (p := ⟨w.heap.size + 1, 1, none⟩) k2).trans hSS.1.2.2⟩, (hb.cell (p := ⟨w.heap.size, 1, none⟩) k1).trans hSS.2⟩
  have x1 := (hb.block w.heap.size k1).trans n1
  have x2 := (hb.block (w.heap.size + 1) k2).trans n2
  have x3 := (hb.block (w.heap.size + 1 + 1) k3).trans n3
  have y1 := cell_of_block (o := 1) x1 rfl
  have z1 := free_of_block 1 x1
  have hw := (wrote_refl x1).set 1 (.slice ad' n' cp')
  refine Ap.anyK_val1 (i := 9) (v := .pointer (some ⟨w.heap.size, 1, none⟩)) (w' := X) (by decide +kernel) rfl rfl (by first | (go_simp; done) | (go_simp; rfl)) hS9 ?_
  have hlt : w.heap.size < W.drew.heap.size := k1
  have hown' : RowC (X.setCell ⟨w.heap.size, 1, none⟩ (.slice ad' n' cp')) (.slice ad' n' cp') (C ++ [⟨f, t, true, n⟩]) := hown.keep x1 (.inl ⟨ad, C.length, cp, rfl⟩) (by rw [hw.size]; exact Nat.le_refl _) (fun g _ hne => hw.rest g hne)
  refine Ap.anyK_store (i := 10) (w' := X.setCell ⟨w.heap.size, 1, none⟩ (.slice ad' n' cp')) (by decide +kernel) rfl rfl (by decide +kernel) (by first | (go_simp; done) | (go_simp; rfl)) ⟨(cell_of_block (o := 0) hw.there rfl), (cell_of_block (o := 0) ((hw.rest _ (by omega)).trans x2) rfl), (cell_of_block (o := 1) ((hw.rest _ (by omega)).trans x2) rfl)⟩ ?_
  refine Ap.wpAnyK_done (by decide +kernel) ?_ _
  have q1 := cell_of_block (o := 0) hw.there rfl
  have q2 := cell_of_block (o := 1) hw.there rfl
  have r3 := (hw.rest (w.heap.size + 1 + 1) (by omega)).trans x3
  have r0 := cell_of_block (o := 0) r3 rfl
  have r1 := cell_of_block (o := 1) r3 rfl
  have f0 := free_of_block 0 r3
  have f1 := free_of_block 1 r3
  have HBX := Lib.hid (hw.below (Below.trans (Below.drew HB) (Below.mono hb HB.size)) (Nat.le_refl _))
  have hw3 := ((wrote_refl r3).set 0 (.int .i64 first)).set 1 (.slice ad' n' cp')
  have HO := Lib.hid (hown'.keep r3 (.inl ⟨none, 0, 0, rfl⟩) (by rw [hw3.size]; exact Nat.le_refl _) (fun g _ hne => hw3.rest g hne))
  have HBY := Lib.hid (hw3.below HBX.out (by omega))
  have HT := Lib.hid hw3.there
  clear hSS hS9 hown hown' ho hb HB n1 n2 n3 hr x1 x2 x3 y1 z1 hw hw3 r3
  go_wp2_with fail
  have e0 := cell_of_block (o := 0) HT.out rfl
  have e1 := cell_of_block (o := 1) HT.out rfl
  clear q1 q2 r0 r1 f0 f1
  generalize (((X.setCell ⟨w.heap.size, 1, none⟩ (.slice ad' n' cp')).setCell ⟨w.heap.size + 1 + 1, 0, none⟩ (.int .i64 first)).setCell ⟨w.heap.size + 1 + 1, 1, none⟩ (.slice ad' n' cp')) = Y at *
  exact bodyPost_ret (v := .agg #[.int .i64 first, .slice ad' n' cp']) (by simp [results, Tryd.results67, go_sem]; try go_simp) rfl ⟨_, rfl, HO.out, HBY.out⟩
set_option maxRecDepth 100000 in
set_option maxHeartbeats 8000000 in
theorem rchg_forget {w : World} {v : Value} {C : List ChgC} (h : RowC w v C) (hlen : C.length ≤ 4294967296) (first t : Int) :
    Calls Tryd.prog 69 #[.agg #[.int .i64 first, v], .int .i64 t] w fun e w' => ∃ v', e = .returned (.agg #[.int .i64 first, v']) ∧ RowC w' v' (rforgetU first C t) ∧ Below w.heap.size w w' := by
  have hmx : Tryd.prog.follows .mixedOrders = true := by kernel_rfl
  obtain ⟨ad, cp, hv⟩ := h.form
  have HB := below_alloc (below_alloc (Below.refl _ w) (.cells #[.int .i64 first, v] 67)) (.cells #[.int .i64 0, .slice none 0 0] 67)
  have n2 := World.alloc_heap_new (w.alloc (.cells #[.int .i64 first, v] 67)) (.cells #[.int .i64 0, .slice none 0 0] 67)
  have s1 : (w.alloc (.cells #[.int .i64 first, v] 67)).heap.size = w.heap.size + 1 := by simp
  rw [s1] at n2
  have n1 := ((below_alloc (Below.refl _ (w.alloc (.cells #[.int .i64 first, v] 67))) (.cells #[.int .i64 0, .slice none 0 0] 67)).block w.heap.size (by omega)).trans (World.alloc_heap_new w (.cells #[.int .i64 first, v] 67))
  have HR := Lib.hid (h.below HB)
  have HBW := Lib.hid HB
  clear h s1 HB
  subst hv
  go_enter Tryd.func69, Tryd.ntmps69
  go_upto_region 1 with fail
  generalize (w.alloc (.cells #[.int .i64 first, .slice ad C.length cp] 67)).alloc (.cells #[.int .i64 0, .slice none 0 0] 67) = W at *
  have k1 := (Array.getElem?_eq_some_iff.1 n1).1
  have k2 := (Array.getElem?_eq_some_iff.1 n2).1
  have c0 := cell_of_block (o := 0) n1 rfl
  have c1 := cell_of_block (o := 1) n1 rfl
  by_cases ht : t ≥ 1099511627776
  case pos =>
    have hd : decide (t ≥ 1099511627776) = true := decide_eq_true ht
    have E := Lib.hid (show rforgetU first C t = C by unfold rforgetU; rw [if_pos ht])
    have f0 := free_of_block 0 n2
    have f1 := free_of_block 1 n2
    have d0 := cell_of_block (o := 0) n2 rfl
    have d1 := cell_of_block (o := 1) n2 rfl
    have hw3 := ((wrote_refl n2).set 0 (.int .i64 first)).set 1 (.slice ad C.length cp)
    have HO := Lib.hid (HR.out.keep n2 (.inl ⟨none, 0, 0, rfl⟩) (by rw [hw3.size]; exact Nat.le_refl _) (fun g _ hne => hw3.rest g hne))
    have HBY := Lib.hid (hw3.below HBW.out (by omega))
    have HT := Lib.hid hw3.there
    clear hw3
    go_wp2_with fail
    have e0 := cell_of_block (o := 0) HT.out rfl
    have e1 := cell_of_block (o := 1) HT.out rfl
    clear c0 c1 d0 d1 f0 f1
    generalize ((W.setCell ⟨w.heap.size + 1, 0, none⟩ (.int .i64 first)).setCell ⟨w.heap.size + 1, 1, none⟩ (.slice ad C.length cp)) = Y at *
    exact bodyPost_ret (v := .agg #[.int .i64 first, .slice ad C.length cp]) (by simp [results, Tryd.results69, go_sem]; try go_simp) rfl ⟨_, rfl, by rw [E.out]; exact HO.out, HBY.out⟩
  case neg =>
    have hd : decide (t ≥ 1099511627776) = false := decide_eq_false ht
    have E := Lib.hid (show rforgetU first C t = C ++ [⟨0, t, true, ratU first C t⟩] by unfold rforgetU; rw [if_neg ht])
    obtain ⟨y, hy⟩ : ∃ y, y = ratU first C t := ⟨_, rfl⟩
    go_upto_region 3 with fail
    refine Ap.wp_region_K (S1 := fun X => X.cell? ⟨w.heap.size, 0, none⟩ = some (.int .i64 first) ∧ X.cell? ⟨w.heap.size, 1, none⟩ = some (.slice ad C.length cp)) (S2 := fun _ => True) (js := 7) hmx ?_
    change Ap.wpAnyK _ _ _ _ _ _ _ 8 _ _ W.drew
    have hSS : (fun X : World => X.cell? ⟨w.heap.size, 0, none⟩ = some (.int .i64 first) ∧ X.cell? ⟨w.heap.size, 1, none⟩ = some (.slice ad C.length cp)) W.drew ∧ (fun _ : World => True) W.drew := ⟨⟨c0, c1⟩, trivial⟩
    clear c0 c1
    refine Ap.wpAnyK_take1 (i := 0) (v := .agg #[.int .i64 first, .slice ad C.length cp]) rfl (by decide) (by decide +kernel) (by decide +kernel) (by decide +kernel) (fun _ _ _ h => h) (.inl ⟨by first | rfl | (go_simp; done), fun X hX => by have hx1 := hX.1; have hx2 := hX.2; clear hX; first | (go_simp; done) | (go_simp; rfl)⟩) hSS ?_
    refine Ap.wpAnyK_take1 (i := 1) (v := .int .i64 t) rfl (by decide) (by decide +kernel) (by decide +kernel) (by decide +kernel) (fun _ _ _ h => h) (.inl ⟨by first | rfl | (go_simp; done), fun X hX => by have hx1 := hX.1; have hx2 := hX.2; clear hX; first | (go_simp; done) | (go_simp; rfl)⟩) hSS ?_
    refine Ap.wpAnyK_take1 (i := 2) (v := .agg #[.int .i64 0, .int .i64 t]) rfl (by decide) (by decide +kernel) (by decide +kernel) (by decide +kernel) (fun _ _ _ h => h) (.inl ⟨by first | rfl | (go_simp; done), fun X hX => by have hx1 := hX.1; have hx2 := hX.2; clear hX; first | (go_simp; done) | (go_simp; rfl)⟩) hSS ?_
    refine Ap.wpAnyK_take1 (i := 3) (v := .agg #[.int .i64 first, .slice ad C.length cp]) rfl (by decide) (by decide +kernel) (by decide +kernel) (by decide +kernel) (fun _ _ _ h => h) (.inl ⟨by first | rfl | (go_simp; done), fun X hX => by have hx1 := hX.1; have hx2 := hX.2; clear hX; first | (go_simp; done) | (go_simp; rfl)⟩) hSS ?_
    refine Ap.wpAnyK_take1 (i := 4) (v := .int .i64 t) rfl (by decide) (by decide +kernel) (by decide +kernel) (by decide +kernel) (fun _ _ _ h => h) (.inl ⟨by first | rfl | (go_simp; done), fun X hX => by have hx1 := hX.1; have hx2 := hX.2; clear hX; first | (go_simp; done) | (go_simp; rfl)⟩) hSS ?_
    refine Ap.anyK_call (i := 5) (by decide +kernel) rfl rfl (by go_simp) (rat_any (HR.out.below (Below.refl _ _).drew) hlen first t) ?_
    rintro e X ⟨rfl, hb⟩
    rw [← hy]
    have x1 := (hb.block w.heap.size k1).trans n1
    have hS5 : (fun X : World => X.cell? ⟨w.heap.size, 0, none⟩ = some (.int .i64 first) ∧ X.cell? ⟨w.heap.size, 1, none⟩ = some (.slice ad C.length cp)) X := ⟨cell_of_block x1 rfl, cell_of_block x1 rfl⟩
    refine ⟨_, rfl, ⟨hS5, fun _ => trivial⟩, ?_⟩
    refine Ap.anyK_call (i := 6) (by decide +kernel) rfl rfl (by go_simp) (rchg_set ((HR.out.below (Below.refl _ _).drew).below hb) hlen first 0 t y) ?_
    rintro e X2 ⟨v', rfl, hr2, hb2⟩
    obtain ⟨ad', n', cp', rfl⟩ : ∃ ad' n' cp', v' = .slice ad' n' cp' := by obtain ⟨x, z, e⟩ := hr2.form; exact ⟨_, _, _, e⟩
    have hx1 : W.heap.size ≤ X.heap.size := hb.size
    have x2 := (hb2.block w.heap.size (by omega)).trans x1
    have y2 := (hb2.block (w.heap.size + 1) (by omega)).trans ((hb.block (w.heap.size + 1) k2).trans n2)
    refine ⟨_, rfl, ⟨⟨cell_of_block x2 rfl, cell_of_block x2 rfl⟩, fun _ => trivial⟩, ?_⟩
    have f0 := free_of_block 0 y2
    have f1 := free_of_block 1 y2
    have d0 := cell_of_block (o := 0) y2 rfl
    have d1 := cell_of_block (o := 1) y2 rfl
    have hw3 := ((wrote_refl y2).set 0 (.int .i64 first)).set 1 (.slice ad' n' cp')
    have HO := Lib.hid (hr2.keep y2 (.inl ⟨none, 0, 0, rfl⟩) (by rw [hw3.size]; exact Nat.le_refl _) (fun g _ hne => hw3.rest g hne))
    have HBY := Lib.hid (hw3.below (below_next (below_next (Below.drew HBW.out) hb) hb2) (by omega))
    have HT := Lib.hid hw3.there
    have z0 := (hw3.rest w.heap.size (by omega)).trans x2
    refine Ap.anyK_store (i := 7) (w' := (X2.setCell ⟨w.heap.size + 1, 0, none⟩ (.int .i64 first)).setCell ⟨w.heap.size + 1, 1, none⟩ (.slice ad' n' cp')) (by decide +kernel) rfl rfl (by decide +kernel) (by first | (go_simp; done) | (go_simp; rfl)) ⟨cell_of_block z0 rfl, cell_of_block z0 rfl⟩ ?_
    refine Ap.wpAnyK_done (by decide +kernel) ?_ _
    clear hw3 f0 f1 d0 d1 hSS hS5 x1 x2 y2 hb hb2 hr2 z0
    have e0 := cell_of_block (o := 0) HT.out rfl
    have e1 := cell_of_block (o := 1) HT.out rfl
    generalize ((X2.setCell ⟨w.heap.size + 1, 0, none⟩ (.int .i64 first)).setCell ⟨w.heap.size + 1, 1, none⟩ (.slice ad' n' cp')) = Y at *
    go_wp2_with fail
    exact bodyPost_ret (v := .agg #[.int .i64 first, .slice ad' n' cp']) (by simp [results, Tryd.results69, go_sem]; try go_simp) rfl ⟨_, rfl, by rw [E.out, ← hy]; exact HO.out, HBY.out⟩
end Go.Proofs.YtdamemdfehopeaaDoor
namespace Go.Proofs.YtdamemdfehopeaaDoor
set_option linter.unusedVariables false
open Go.ChangeShapes Go.WideShapes Go.ChangeAt Go.RowKit
/-- a time more, where it belongs, once -/
def insT : List Int → Int → List Int
  | [], t => [t]
  | x :: r, t => if x < t then x :: insT r t else if x = t then x :: r else t :: x :: r
def putT (l : List Int) (t : Int) : List Int := if t ≥ 1099511627776 then l else insT l t
theorem insT_mem : ∀ (l : List Int) (t x : Int), x ∈ insT l t ↔ x = t ∨ x ∈ l
  | [], t, x => by simp [insT]
  | y :: r, t, x => by
    unfold insT
    have ih := insT_mem r t x
    split
    · simp only [List.mem_cons, ih]
      constructor
      · rintro (h | h | h)
        · exact .inr (.inl h)
        · exact .inl h
        · exact .inr (.inr h)
      · rintro (h | h | h)
        · exact .inr (.inl h)
        · exact .inl h
        · exact .inr (.inr h)
    · split
      · rename_i h1 h2
        subst h2
        simp only [List.mem_cons]
        constructor
        · exact fun h => .inr h
        · rintro (h | h)
          · exact .inl h
          · exact h
      · simp only [List.mem_cons]
theorem insT_sorted : ∀ (l : List Int) (t : Int), l.Pairwise (· < ·) → (insT l t).Pairwise (· < ·)
  | [], t, _ => by simp [insT]
  | y :: r, t, h => by
    obtain ⟨h1, h2⟩ := List.pairwise_cons.1 h
    unfold insT
    split
    · rename_i hy
      refine List.pairwise_cons.2 ⟨fun z hz => ?_, insT_sorted r t h2⟩
      rcases (insT_mem r t z).1 hz with rfl | hz
      · exact hy
      · exact h1 z hz
    · split
      · exact h
      · refine List.pairwise_cons.2 ⟨fun z hz => ?_, h⟩
        rcases List.mem_cons.1 hz with rfl | hz
        · omega
        · have := h1 z hz; omega
theorem insT_len (l : List Int) (t : Int) : (insT l t).length ≤ l.length + 1 := by
  induction l with
  | nil => simp [insT]
  | cons y r ih =>
    unfold insT
    split
    · simp only [List.length_cons]; omega
    · split <;> simp
/-- times that rise, from 0 on -/
structure TimesU (l : List Int) : Prop where
  sorted : l.Pairwise (· < ·)
  zero : l.head? = some 0
  hi : ∀ x ∈ l, 0 ≤ x ∧ x < 1099511627776
theorem TimesU.one : TimesU [0] := ⟨by simp, rfl, fun x hx => by simp at hx; subst hx; decide⟩
theorem TimesU.put {l : List Int} (h : TimesU l) {t : Int} (h0 : 0 ≤ t) : TimesU (putT l t) := by
  unfold putT
  split
  · exact h
  · refine ⟨insT_sorted l t h.sorted, ?_, fun x hx => ?_⟩
    · cases l with
      | nil => have := h.zero; simp at this
      | cons y r =>
        have hy : y = 0 := by simpa using h.zero
        subst hy
        unfold insT
        split
        · rfl
        · split
          · rfl
          · rename_i h1 h2; omega
    · rcases (insT_mem l t x).1 hx with rfl | hx
      · exact ⟨h0, by omega⟩
      · exact h.hi x hx
theorem putT_mem {l : List Int} {t x : Int} : x ∈ putT l t ↔ (x = t ∧ t < 1099511627776) ∨ x ∈ l := by
  unfold putT
  split
  · constructor
    · exact fun h => .inr h
    · rintro (h | h)
      · omega
      · exact h
  · rw [insT_mem]
    constructor
    · rintro (h | h)
      · exact .inl ⟨h, by omega⟩
      · exact .inr h
    · rintro (h | h)
      · exact .inl h.1
      · exact .inr h
/-- the document's times -/
def timesU (C : List ChgC) : List Int := C.foldl (fun l c => putT (putT l (cleanI (c.f, c.t)).1) (cleanI (c.f, c.t)).2) [0]
theorem clean_nonneg (f t : Int) : 0 ≤ (cleanI (f, t)).1 ∧ 0 ≤ (cleanI (f, t)).2 := by
  have h1 := clampI_bounds f
  have h2 := clampI_bounds t
  unfold cleanI
  split
  · exact ⟨Int.le_refl _, Int.le_refl _⟩
  · exact ⟨h1.1, h2.1⟩
theorem times_fold (C : List ChgC) : ∀ l, TimesU l → TimesU (C.foldl (fun l c => putT (putT l (cleanI (c.f, c.t)).1) (cleanI (c.f, c.t)).2) l) ∧ (∀ x ∈ l, x ∈ C.foldl (fun l c => putT (putT l (cleanI (c.f, c.t)).1) (cleanI (c.f, c.t)).2) l) ∧ ∀ c ∈ C, clampI c.f < clampI c.t → (clampI c.f ∈ C.foldl (fun l c => putT (putT l (cleanI (c.f, c.t)).1) (cleanI (c.f, c.t)).2) l) ∧ (clampI c.t < 1099511627776 → clampI c.t ∈ C.foldl (fun l c => putT (putT l (cleanI (c.f, c.t)).1) (cleanI (c.f, c.t)).2) l) := by
  induction C with
  | nil => exact fun l h => ⟨h, fun x hx => hx, fun c hc => by cases hc⟩
  | cons d r ih =>
    intro l h
    obtain ⟨i1, i2, i3⟩ := ih _ ((h.put (clean_nonneg d.f d.t).1).put (clean_nonneg d.f d.t).2)
    rw [List.foldl_cons]
    refine ⟨i1, fun x hx => i2 x (putT_mem.2 (.inr (putT_mem.2 (.inr hx)))), fun c hc hft => ?_⟩
    rcases List.mem_cons.1 hc with rfl | hc
    · have hcl : cleanI (c.f, c.t) = (clampI c.f, clampI c.t) := by unfold cleanI; simp only; rw [if_neg (by omega)]
      have hb := clampI_bounds c.t
      refine ⟨i2 _ ?_, fun h2 => i2 _ ?_⟩
      · rw [hcl]; exact putT_mem.2 (.inr (putT_mem.2 (.inl ⟨rfl, by simp only; omega⟩)))
      · rw [hcl]; exact putT_mem.2 (.inl ⟨rfl, h2⟩)
    · exact i3 c hc hft
theorem timesU_times (C : List ChgC) : TimesU (timesU C) := (times_fold C [0] TimesU.one).1
/-- between two times nothing turns -/
theorem same_between {C : List ChgC} {first x y : Int} (hx : 0 ≤ x) (hxy : x ≤ y) (hy : y < 1099511627776) (h : ∀ p ∈ timesU C, ¬ (x < p ∧ p ≤ y)) : C.foldl (ratStep y) (boundU first) = C.foldl (ratStep x) (boundU first) := by
  have key : ∀ (D : List ChgC), (∀ c ∈ D, c ∈ C) → ∀ v, D.foldl (ratStep y) v = D.foldl (ratStep x) v := by
    intro D
    induction D with
    | nil => intro _ v; rfl
    | cons c r ih =>
      intro hD v
      rw [List.foldl_cons, List.foldl_cons]
      have hs : ratStep y v c = ratStep x v c := by
        rw [ratStep_iff _ _ _ (by omega) hy, ratStep_iff _ _ _ hx (by omega)]
        by_cases hft : clampI c.f < clampI c.t
        · have hm := (times_fold C [0] TimesU.one).2.2 c (hD c List.mem_cons_self) hft
          have h1 := h _ hm.1
          have h2 : clampI c.t < 1099511627776 → ¬ (x < clampI c.t ∧ clampI c.t ≤ y) := fun hl => h _ (hm.2 hl)
          have hiff : (clampI c.f < clampI c.t ∧ c.f ≤ y ∧ y < c.t) ↔ (clampI c.f < clampI c.t ∧ c.f ≤ x ∧ x < c.t) := by
            rcases clamp_facts c.f with ⟨a, b⟩ | ⟨a, d, b⟩ | ⟨a, b⟩ <;> rcases clamp_facts c.t with ⟨a', b'⟩ | ⟨a', d', b'⟩ | ⟨a', b'⟩ <;> rw [b] at h1 ⊢ <;> rw [b'] at h2 ⊢ <;> omega
          by_cases hc : clampI c.f < clampI c.t ∧ c.f ≤ x ∧ x < c.t
          · rw [if_pos hc, if_pos (hiff.2 hc)]
          · rw [if_neg hc, if_neg (fun hh => hc (hiff.1 hh))]
        · rw [if_neg (fun hh => hft hh.1), if_neg (fun hh => hft hh.1)]
      rw [hs]
      exact ih (fun d hd => hD d (List.mem_cons_of_mem _ hd)) _
  exact key C (fun c hc => hc) _
/-- the document's steps -/
def listR (first : Int) (C : List ChgC) : List (Int × Int) := (timesU C).foldl (fun l t => layU l t (ratU first C t)) []
theorem ratU_fold {first : Int} {C : List ChgC} {t : Int} (h0 : 0 ≤ t) (h1 : t < 1099511627776) : ratU first C t = C.foldl (ratStep t) (boundU first) := by
  unfold ratU
  rw [clampI_of h0 (by omega), if_neg (by omega)]
/-- what has been laid of times that rise -/
theorem lay_rep {g : Int → Int} : ∀ (r : List Int) (l : List (Int × Int)) (T : Int), 0 ≤ T → T < 1099511627776 → (T :: r).Pairwise (· < ·) → (∀ x ∈ r, x < 1099511627776) → RepU l g T →
    (∀ a b : List Int, ∀ x y : Int, T :: r = a ++ x :: y :: b → ∀ z, x ≤ z → z < y → g z = g x) → (∀ x, (T :: r).getLast? = some x → ∀ z, x ≤ z → z < 1099511627776 → g z = g x) → RepU ((T :: r).foldl (fun l t => layU l t (g t)) l) g 1099511627776
  | [], l, T, h0, h1, _, _, hr, _, hl => by
    rw [List.foldl_cons, List.foldl_nil]
    exact hr.lay h0 h1 (hl T rfl)
  | y :: r, l, T, h0, h1, hs, hh, hr, hg, hl => by
    rw [List.foldl_cons]
    obtain ⟨s1, s2⟩ := List.pairwise_cons.1 hs
    have hTy := s1 y List.mem_cons_self
    refine lay_rep r _ y (by omega) (hh y List.mem_cons_self) s2 (fun x hx => hh x (List.mem_cons_of_mem _ hx)) (hr.lay h0 hTy (hg [] r T y rfl)) (fun a b x z e => hg (T :: a) b x z (by rw [e]; rfl)) (fun x hx => hl x (by rw [List.getLast?_cons_cons]; exact hx))
theorem sorted_gap {l : List Int} (h : l.Pairwise (· < ·)) {a b : List Int} {x y : Int} (e : l = a ++ x :: y :: b) : ∀ p ∈ l, ¬ (x < p ∧ p < y) := by
  intro p hp hc
  rw [e] at h hp
  obtain ⟨_, h2, h3⟩ := List.pairwise_append.1 h
  obtain ⟨h4, h5⟩ := List.pairwise_cons.1 h2
  obtain ⟨h6, _⟩ := List.pairwise_cons.1 h5
  rcases List.mem_append.1 hp with hp | hp
  · have := h3 p hp x List.mem_cons_self; omega
  · rcases List.mem_cons.1 hp with rfl | hp
    · omega
    · rcases List.mem_cons.1 hp with rfl | hp
      · omega
      · have := h6 p hp; omega
theorem sorted_last {l : List Int} (h : l.Pairwise (· < ·)) {x : Int} (e : l.getLast? = some x) : ∀ p ∈ l, p ≤ x := by
  intro p hp
  obtain ⟨a, rfl⟩ := List.getLast?_eq_some_iff.1 e
  obtain ⟨_, _, h3⟩ := List.pairwise_append.1 h
  rcases List.mem_append.1 hp with hp | hp
  · have := h3 p hp x (by simp); omega
  · simp at hp; omega
theorem list_rep (first : Int) (C : List ChgC) : RepU (listR first C) (fun x => C.foldl (ratStep x) (boundU first)) 1099511627776 := by
  have ht := timesU_times C
  have hf : listR first C = (timesU C).foldl (fun l t => layU l t ((fun x => C.foldl (ratStep x) (boundU first)) t)) [] := by
    unfold listR
    have : ∀ (m : List Int) (l : List (Int × Int)), (∀ x ∈ m, 0 ≤ x ∧ x < 1099511627776) → m.foldl (fun l t => layU l t (ratU first C t)) l = m.foldl (fun l t => layU l t ((fun x => C.foldl (ratStep x) (boundU first)) t)) l := by
      intro m
      induction m with
      | nil => intro l _; rfl
      | cons x r ih =>
        intro l hm
        have hx := hm x List.mem_cons_self
        rw [List.foldl_cons, List.foldl_cons, ratU_fold hx.1 hx.2]
        exact ih _ (fun y hy => hm y (List.mem_cons_of_mem _ hy))
    exact this _ _ ht.hi
  rw [hf]
  have hz := ht.zero
  have hgap : ∀ a b : List Int, ∀ x y : Int, timesU C = a ++ x :: y :: b → ∀ z, x ≤ z → z < y → C.foldl (ratStep z) (boundU first) = C.foldl (ratStep x) (boundU first) := fun a b x y e z h1 h2 => by
    have hx := ht.hi x (by rw [e]; simp)
    have hy := ht.hi y (by rw [e]; simp)
    exact same_between hx.1 h1 (by omega) (fun p hp hc => sorted_gap ht.sorted e p hp ⟨hc.1, by omega⟩)
  have hlast : ∀ x, (timesU C).getLast? = some x → ∀ z, x ≤ z → z < 1099511627776 → C.foldl (ratStep z) (boundU first) = C.foldl (ratStep x) (boundU first) := fun x e z h1 h2 => by
    have hx := ht.hi x (List.mem_of_getLast? e)
    exact same_between hx.1 h1 h2 (fun p hp hc => by have := sorted_last ht.sorted e p hp; omega)
  cases hl : timesU C with
  | nil => rw [hl] at hz; simp at hz
  | cons T r =>
    rw [hl] at hz hgap hlast
    have hT : T = 0 := by simpa using hz
    subst hT
    exact lay_rep r [] 0 (by decide) (by decide) (hl ▸ ht.sorted) (fun x hx => (ht.hi x (by rw [hl]; exact List.mem_cons_of_mem _ hx)).2) ⟨fun _ => rfl, (fun p hp => by simp at hp), by simp, (fun a b p q e => by simp at e), (fun p hp => by cases hp), fun x h0 h1 => by omega⟩ hgap hlast
/-- the document's steps are those -/
theorem like_list {first : Int} {L : List (Int × Int)} {C : List ChgC} (h : LikeU first L C) (hr : RightU L) : listR first C = L := by
  have hrep := list_rep first C
  have hb : ∀ x, 0 ≤ x → x < 1099511627776 → -1000000 ≤ C.foldl (ratStep x) (boundU first) ∧ C.foldl (ratStep x) (boundU first) ≤ 1000000 := by
    intro x h0 h1
    have : ∀ (D : List ChgC) (v : Int), (-1000000 ≤ v ∧ v ≤ 1000000) → -1000000 ≤ D.foldl (ratStep x) v ∧ D.foldl (ratStep x) v ≤ 1000000 := by
      intro D
      induction D with
      | nil => intro v hv; exact hv
      | cons c r ih =>
        intro v hv
        rw [List.foldl_cons]
        refine ih _ ?_
        rw [ratStep_iff _ _ _ h0 h1]
        split
        · split
          · exact boundU_in _
          · exact addF_in _ _
        · exact hv
    exact this C _ (boundU_in _)
  refine right_same_steps (rep_right hrep hb) hr fun x h0 h1 => ?_
  rw [hrep.val x h0 h1, h x h0 h1]
end Go.Proofs.YtdamemdfehopeaaDoor
namespace Go.Proofs.YtdamemdfehopeaaDoor
set_option linter.unusedVariables false
open Go.ChangeShapes Go.WideShapes Go.ChangeAt Go.RowKit
/-- where the part that begins at a list's head ends -/
def endT (r : List Int) : Int := (r.head?).getD 1099511627776
/-- what In tells of one part -/
def inStep (first : Int) (C : List ChgC) (P : Int × Int) (x e : Int) : List (Int × Int) :=
  if (cutI P (x, e)).1 < (cutI P (x, e)).2 then [(ratU first C (cutI P (x, e)).1, (cutI P (x, e)).2 - (cutI P (x, e)).1)] else []
def inU (first : Int) (C : List ChgC) (P : Int × Int) : List Int → List (Int × Int)
  | [] => []
  | x :: r => inStep first C P x (endT r) ++ inU first C P r
/-- the sum of the levels above 0 -/
def sumP (M : List (Int × Int)) : Int := M.foldl (fun s p => s + maxU p.1 0 * p.2) 0
theorem sumP_from : ∀ (M : List (Int × Int)) (s : Int), M.foldl (fun s p => s + maxU p.1 0 * p.2) s = s + sumP M
  | [], s => by simp [sumP]
  | p :: r, s => by
    unfold sumP
    rw [List.foldl_cons, List.foldl_cons, sumP_from r (s + _), sumP_from r (0 + _)]
    omega
theorem sumP_append (M N : List (Int × Int)) : sumP (M ++ N) = sumP M + sumP N := by
  unfold sumP
  rw [List.foldl_append]
  exact sumP_from N _
theorem cut_in {F T x e : Int} (hF : 0 ≤ F ∧ F ≤ 1099511627776) (hT : 0 ≤ T ∧ T ≤ 1099511627776) (hx : 0 ≤ x) (he : x < e) (he' : e ≤ 1099511627776) : cutI (F, T) (x, e) = if min T e ≤ max F x then (0, 0) else (max F x, min T e) := by
  unfold cutI bothT bothF
  simp only
  rw [clampI_of hF.1 hF.2, clampI_of hT.1 hT.2, clampI_of hx (by omega), clampI_of (by omega) he']
/-- what In tells of the times from a part's beginning on -/
structure InOk (g : Int → Int) (F T x : Int) (M : List (Int × Int)) : Prop where
  all : ∀ y, x ≤ y → y < 1099511627776 → F ≤ y → y < T → ∃ p ∈ M, p.1 = g y
  ex : ∀ p ∈ M, 0 < p.2 ∧ p.2 ≤ 1099511627776 ∧ ∃ y, x ≤ y ∧ y < 1099511627776 ∧ F ≤ y ∧ y < T ∧ g y = p.1
  sum : sumP M = areaS (fun y => maxU (g y) 0) (max x F) T
theorem in_ok {first : Int} {C : List ChgC} {F T : Int} (hF : 0 ≤ F ∧ F ≤ 1099511627776) (hT : 0 ≤ T ∧ T ≤ 1099511627776) {g : Int → Int} (hg0 : g = fun x => C.foldl (ratStep x) (boundU first)) : ∀ (r : List Int) (x : Int), 0 ≤ x → x < 1099511627776 → (x :: r).Pairwise (· < ·) → (∀ y ∈ r, y < 1099511627776) →
    (∀ a b : List Int, ∀ u y : Int, x :: r = a ++ u :: y :: b → ∀ z, u ≤ z → z < y → g z = g u) → (∀ u, (x :: r).getLast? = some u → ∀ z, u ≤ z → z < 1099511627776 → g z = g u) → InOk g F T x (inU first C (F, T) (x :: r)) := by
  have base : ∀ (x e : Int) (M : List (Int × Int)), 0 ≤ x → x < e → e ≤ 1099511627776 → (∀ z, x ≤ z → z < e → g z = g x) → (e < 1099511627776 → InOk g F T e M) → (e = 1099511627776 → M = []) → InOk g F T x (inStep first C (F, T) x e ++ M) := by
    intro x e M hx he he' hc hM hM0
    have hsum : sumP M = areaS (fun y => maxU (g y) 0) (max e F) T := by
      rcases Int.lt_or_le e 1099511627776 with h | h
      · exact (hM h).sum
      · rw [hM0 (by omega), areaS_none _ (by omega)]; rfl
    have hin : inStep first C (F, T) x e = if min T e ≤ max F x then [] else [(g x, min T e - max F x)] := by
      unfold inStep
      rw [cut_in hF hT hx he he']
      by_cases h : min T e ≤ max F x
      · rw [if_pos h, if_pos h, if_neg (by simp)]
      · rw [if_neg h, if_neg h]
        simp only
        rw [if_pos (by omega), ratU_fold (by omega) (by omega)]
        have := hc (max F x) (by omega) (by omega)
        rw [hg0] at this ⊢
        simp only at this ⊢
        rw [this]
    rw [hin]
    by_cases h : min T e ≤ max F x
    · rw [if_pos h, List.nil_append]
      refine ⟨fun y h1 h2 h3 h4 => ?_, fun p hp => ?_, ?_⟩
      · have hye : e ≤ y := by omega
        exact (hM (by omega)).all y hye h2 h3 h4
      · rcases Int.lt_or_le e 1099511627776 with h' | h'
        · obtain ⟨q0, q00, y, q1, q2, q3, q4, q5⟩ := (hM h').ex p hp
          exact ⟨q0, q00, y, by omega, q2, q3, q4, q5⟩
        · rw [hM0 (by omega)] at hp; cases hp
      · rw [hsum]
        by_cases hTF : T ≤ max x F
        · rw [areaS_none _ (by omega), areaS_none _ hTF]
        · rw [show max e F = max x F by omega]
    · rw [if_neg h]
      refine ⟨fun y h1 h2 h3 h4 => ?_, fun p hp => ?_, ?_⟩
      · by_cases hye : y < e
        · exact ⟨_, List.mem_cons_self, (hc y h1 hye).symm⟩
        · obtain ⟨p, hp, e'⟩ := (hM (by omega)).all y (by omega) h2 h3 h4
          exact ⟨p, List.mem_cons_of_mem _ hp, e'⟩
      · rcases List.mem_cons.1 hp with rfl | hp
        · exact ⟨by simp only; omega, by simp only; omega, max F x, by omega, by omega, by omega, by omega, hc _ (by omega) (by omega)⟩
        · rcases Int.lt_or_le e 1099511627776 with h' | h'
          · obtain ⟨q0, q00, y, q1, q2, q3, q4, q5⟩ := (hM h').ex p hp
            exact ⟨q0, q00, y, by omega, q2, q3, q4, q5⟩
          · rw [hM0 (by omega)] at hp; cases hp
      · rw [show [(g x, min T e - max F x)] ++ M = [(g x, min T e - max F x)] ++ M from rfl, sumP_append, hsum]
        have h1 : sumP [(g x, min T e - max F x)] = areaS (fun y => maxU (g y) 0) (max x F) (min T e) := by
          unfold sumP areaS
          rw [List.foldl_cons, List.foldl_nil, sumS_const (v := maxU (g x) 0) fun y hy hy' => by rw [hc y (by omega) (by omega)]]
          rw [show max F x = max x F by omega]
          rw [Int.zero_add, Int.mul_comm, show (((min T e - max x F).toNat : Nat) : Int) = min T e - max x F by omega]
        rw [h1]
        by_cases hTe : T ≤ e
        · rw [show min T e = T by omega, areaS_none _ (show T ≤ max e F by omega), Int.add_zero]
        · rw [show min T e = e by omega, show max e F = e by omega]
          exact (areaS_split _ (by omega) (by omega)).symm
  intro r
  induction r with
  | nil =>
    intro x h0 h1 _ _ _ hl
    unfold inU
    exact base x 1099511627776 [] h0 h1 (by decide) (hl x rfl) (fun h => absurd h (by decide)) (fun _ => rfl)
  | cons y r ih =>
    intro x h0 h1 hs hh hg hl
    obtain ⟨s1, s2⟩ := List.pairwise_cons.1 hs
    have hxy := s1 y List.mem_cons_self
    have hy := hh y List.mem_cons_self
    unfold inU
    exact base x y _ h0 hxy (by omega) (hg [] r x y rfl) (fun _ => ih y (by omega) hy s2 (fun z hz => hh z (List.mem_cons_of_mem _ hz)) (fun a b u z e => hg (x :: a) b u z (by rw [e]; rfl)) (fun u hu => hl u (by rw [List.getLast?_cons_cons]; exact hu))) (fun e => by omega)
/-- the least and the greatest of what was told, as the law goes through it -/
def pickL (lt : Int → Int → Bool) : List Int → Int
  | [] => 0
  | x :: r => r.foldl (fun m y => if lt y m then y else m) x
theorem pick_spec (lt : Int → Int → Bool) (le : Int → Int → Prop) (hrefl : ∀ a, le a a) (htr : ∀ a b c, le a b → le b c → le a c) (h1 : ∀ a b, lt a b = true → le a b) (h2 : ∀ a b, lt a b = false → le b a) : ∀ (r : List Int) (x : Int), (r.foldl (fun m y => if lt y m then y else m) x ∈ x :: r) ∧ ∀ y ∈ x :: r, le (r.foldl (fun m y => if lt y m then y else m) x) y
  | [], x => ⟨by simp, fun y hy => by simp at hy; subst hy; exact hrefl _⟩
  | z :: r, x => by
    rw [List.foldl_cons]
    cases hz : lt z x with
    | true =>
      simp only [if_true]
      obtain ⟨i1, i2⟩ := pick_spec lt le hrefl htr h1 h2 r z
      refine ⟨List.mem_cons_of_mem _ i1, fun y hy => ?_⟩
      rcases List.mem_cons.1 hy with rfl | hy
      · exact htr _ _ _ (i2 z List.mem_cons_self) (h1 _ _ hz)
      · exact i2 y hy
    | false =>
      simp only [Bool.false_eq_true, if_false]
      obtain ⟨i1, i2⟩ := pick_spec lt le hrefl htr h1 h2 r x
      refine ⟨?_, fun y hy => ?_⟩
      · rcases List.mem_cons.1 i1 with e | e
        · rw [e]; exact List.mem_cons_self
        · exact List.mem_cons_of_mem _ (List.mem_cons_of_mem _ e)
      · rcases List.mem_cons.1 hy with rfl | hy
        · exact i2 y List.mem_cons_self
        · rcases List.mem_cons.1 hy with rfl | hy
          · exact htr _ _ _ (i2 x List.mem_cons_self) (h2 _ _ hz)
          · exact i2 y (List.mem_cons_of_mem _ hy)
theorem pickL_snoc (lt : Int → Int → Bool) (l : List Int) (y : Int) : pickL lt (l ++ [y]) = if l = [] ∨ lt y (pickL lt l) = true then y else pickL lt l := by
  cases l with
  | nil => simp [pickL]
  | cons x r =>
    simp only [List.cons_append, pickL, List.foldl_append, List.foldl_cons, List.foldl_nil]
    simp
/-- the law's area: a sum that stops at Never -/
def satU (s v n : Int) : Int := if v > 0 ∧ s < 1099511627776 then (if n > 1099511627776 / v then 1099511627776 else (if 1099511627776 < s + n * v then 1099511627776 else s + n * v)) else s
theorem sat_fold : ∀ (M : List (Int × Int)) (s S : Int), (∀ p ∈ M, 0 < p.2) → 0 ≤ S → s = minU S 1099511627776 → M.foldl (fun s p => satU s p.1 p.2) s = minU (M.foldl (fun s p => s + maxU p.1 0 * p.2) S) 1099511627776
  | [], s, S, _, _, h => h
  | p :: r, s, S, hp, h0, h => by
    rw [List.foldl_cons, List.foldl_cons]
    have hn := hp p List.mem_cons_self
    obtain ⟨v, n⟩ := p
    simp only at hn ⊢
    have hm0 : 0 ≤ maxU v 0 := by unfold maxU; split <;> omega
    have hmn : 0 ≤ maxU v 0 * n := Int.mul_nonneg hm0 (by omega)
    refine sat_fold r _ _ (fun q hq => hp q (List.mem_cons_of_mem _ hq)) (by omega) ?_
    unfold satU
    by_cases hv : v > 0
    · have e1 : maxU v 0 = v := by unfold maxU; rw [if_neg (by omega)]
      rw [e1] at hmn ⊢
      by_cases hs : s < 1099511627776
      · have eS : s = S := by rw [h]; unfold minU; rw [h] at hs; unfold minU at hs; split <;> (try rfl); rename_i h9; rw [if_neg h9] at hs; omega
        rw [if_pos ⟨hv, hs⟩]
        by_cases hq : n > 1099511627776 / v
        · rw [if_pos hq]
          have : 1099511627776 < v * n := by
            have := (Int.ediv_lt_iff_lt_mul hv).1 hq
            rw [Int.mul_comm]; exact this
          unfold minU
          rw [if_neg (by omega)]
        · rw [if_neg hq, Int.mul_comm n v, eS]
          unfold minU
          by_cases h9 : 1099511627776 < S + v * n
          · rw [if_pos h9, if_neg (by omega)]
          · rw [if_neg h9, if_pos (by omega)]
      · rw [if_neg (fun hh => hs hh.2)]
        have hS : 1099511627776 ≤ S := by unfold minU at h; split at h <;> omega
        have es : s = 1099511627776 := by unfold minU at h; split at h <;> omega
        rw [es]
        unfold minU
        split <;> omega
    · have e1 : maxU v 0 = 0 := by unfold maxU; split <;> omega
      rw [if_neg (fun hh => hv hh.1), e1, Int.zero_mul, Int.add_zero]
      exact h
end Go.Proofs.YtdamemdfehopeaaDoor
namespace Go.Proofs.YtdamemdfehopeaaDoor
set_option linter.unusedVariables false
open Go.ChangeShapes Go.WideShapes Go.ChangeAt Go.RowKit
theorem in_none (first : Int) (C : List ChgC) : ∀ l : List Int, inU first C (0, 0) l = []
  | [] => rfl
  | x :: r => by
    unfold inU inStep
    have : cutI (0, 0) (x, endT r) = (0, 0) := by
      unfold cutI bothT bothF
      simp only
      have h1 := clampI_bounds x
      have h2 := clampI_bounds (endT r)
      have e0 : clampI 0 = 0 := by decide +kernel
      rw [e0, if_pos (by omega)]
    rw [this, if_neg (by simp), List.nil_append]
    exact in_none first C r
theorem choose_none {L : List (Int × Int)} (bt : Int → Int → Int) {f t : Int} (h : clampI t ≤ clampI f) : chooseU bt L (f, t) = 0 := by
  have : ∀ (rs : List (Int × Int × Int)) (st : Int × Bool), chooseGo bt (f, t) rs st = st := by
    intro rs
    induction rs with
    | nil => intro st; rfl
    | cons r rs ih =>
      intro st
      have hm : meetsU (r.1, r.2.1) (f, t) = false := by
        unfold meetsU bothT bothF
        simp only [Bool.not_eq_false', decide_eq_true_eq]
        omega
      unfold chooseGo
      simp only [hm, Bool.false_eq_true, if_false]
      rw [ih]
      split <;> rfl
  unfold chooseU
  rw [this]
/-- the list that In goes through -/
def inL (first : Int) (C : List ChgC) (f t : Int) : List (Int × Int) := inU first C (cleanI (f, t)) (putT (timesU C) (cleanI (f, t)).1)
theorem inL_ok {first : Int} {C : List ChgC} {f t : Int} (h : clampI f < clampI t) : InOk (fun x => C.foldl (ratStep x) (boundU first)) (clampI f) (clampI t) 0 (inL first C f t) := by
  have hcl : cleanI (f, t) = (clampI f, clampI t) := by unfold cleanI; simp only; rw [if_neg (by omega)]
  have hF := clampI_bounds f
  have hT := clampI_bounds t
  have ht := (timesU_times C).put (t := clampI f) hF.1
  unfold inL
  rw [hcl]
  simp only
  have hsub : ∀ p ∈ timesU C, p ∈ putT (timesU C) (clampI f) := fun p hp => putT_mem.2 (.inr hp)
  have hz := ht.zero
  have hgap : ∀ a b : List Int, ∀ x y : Int, putT (timesU C) (clampI f) = a ++ x :: y :: b → ∀ z, x ≤ z → z < y → C.foldl (ratStep z) (boundU first) = C.foldl (ratStep x) (boundU first) := fun a b x y e z h1 h2 => by
    have hx := ht.hi x (by rw [e]; simp)
    have hy := ht.hi y (by rw [e]; simp)
    exact same_between hx.1 h1 (by omega) (fun p hp hc => sorted_gap ht.sorted e p (hsub p hp) ⟨hc.1, by omega⟩)
  have hlast : ∀ x, (putT (timesU C) (clampI f)).getLast? = some x → ∀ z, x ≤ z → z < 1099511627776 → C.foldl (ratStep z) (boundU first) = C.foldl (ratStep x) (boundU first) := fun x e z h1 h2 => by
    have hx := ht.hi x (List.mem_of_getLast? e)
    exact same_between hx.1 h1 h2 (fun p hp hc => by have := sorted_last ht.sorted e p (hsub p hp); omega)
  cases hl : putT (timesU C) (clampI f) with
  | nil => rw [hl] at hz; simp at hz
  | cons T r =>
    have hs := ht.sorted
    have hh := ht.hi
    rw [hl] at hz hgap hlast hs hh
    have hT0 : T = 0 := by simpa using hz
    subst hT0
    exact in_ok hF hT rfl r 0 (by decide) (by decide) hs (fun y hy => (hh y (List.mem_cons_of_mem _ hy)).2) hgap hlast
theorem in_least {first : Int} {L : List (Int × Int)} {C : List ChgC} (hlk : LikeU first L C) (hr : RightU L) (f t : Int) :
    pickL (fun a b => decide (a < b)) ((inL first C f t).map (·.1)) = chooseU minU L (f, t) ∧ pickL (fun a b => decide (a > b)) ((inL first C f t).map (·.1)) = chooseU maxU L (f, t) ∧ (inL first C f t).foldl (fun s p => satU s p.1 p.2) 0 = areaU L (f, t) ∧ ∀ p ∈ inL first C f t, 0 < p.2 ∧ p.2 ≤ 1099511627776 := by
  by_cases h : clampI f < clampI t
  · have hk := inL_ok (first := first) (C := C) h
    have hF := clampI_bounds f
    have hT := clampI_bounds t
    have hlv : ∀ y, 0 ≤ y → y < 1099511627776 → lvl 0 L y = C.foldl (ratStep y) (boundU first) := hlk
    generalize inL first C f t = M at *
    obtain ⟨p0, hp0, _⟩ := hk.all (clampI f) hF.1 (by omega) (by omega) h
    have hmem : ∀ y, 0 ≤ y → y < 1099511627776 → clampI f ≤ y → y < clampI t → lvl 0 L y ∈ M.map (·.1) := fun y h1 h2 h3 h4 => by
      obtain ⟨p, hp, e⟩ := hk.all y h1 h2 h3 h4
      rw [hlv y h1 h2]
      exact List.mem_map.2 ⟨p, hp, e⟩
    have hval : ∀ v ∈ M.map (·.1), ∃ y, 0 ≤ y ∧ y < 1099511627776 ∧ clampI f ≤ y ∧ y < clampI t ∧ lvl 0 L y = v := fun v hv => by
      obtain ⟨p, hp, rfl⟩ := List.mem_map.1 hv
      obtain ⟨_, _, y, q1, q2, q3, q4, q5⟩ := hk.ex p hp
      exact ⟨y, q1, q2, q3, q4, by rw [hlv y q1 q2]; exact q5⟩
    have hne : M.map (·.1) ≠ [] := fun e => by
      have := hmem (clampI f) hF.1 (by omega) (by omega) h
      rw [e] at this; cases this
    refine ⟨?_, ?_, ?_, fun p hp => ⟨(hk.ex p hp).1, (hk.ex p hp).2.1⟩⟩
    · obtain ⟨⟨x, x0, x1, x2, x3, x4⟩, hb⟩ := least_spec hr h
      cases hM : M.map (·.1) with
      | nil => exact absurd hM hne
      | cons v vs =>
        obtain ⟨i1, i2⟩ := pick_spec (fun a b => decide (a < b)) (· ≤ ·) (fun a => Int.le_refl a) (fun a b c => Int.le_trans) (fun a b h => by have := of_decide_eq_true h; omega) (fun a b h => by have := of_decide_eq_false h; omega) vs v
        unfold pickL
        simp only
        rw [← hM] at i1 i2
        obtain ⟨y, y0, y1, y2, y3, y4⟩ := hval _ i1
        have h1 := hb y y0 y1 y2 y3
        have h2 := i2 _ (hmem x x0 x1 x2 x3)
        rw [y4] at h1
        rw [x4] at h2
        omega
    · obtain ⟨⟨x, x0, x1, x2, x3, x4⟩, hb⟩ := most_spec hr h
      cases hM : M.map (·.1) with
      | nil => exact absurd hM hne
      | cons v vs =>
        obtain ⟨i1, i2⟩ := pick_spec (fun a b => decide (a > b)) (fun a b => b ≤ a) (fun a => Int.le_refl a) (fun a b c h k => Int.le_trans k h) (fun a b h => by have := of_decide_eq_true h; omega) (fun a b h => by have := of_decide_eq_false h; omega) vs v
        unfold pickL
        simp only
        rw [← hM] at i1 i2
        obtain ⟨y, y0, y1, y2, y3, y4⟩ := hval _ i1
        have h1 := hb y y0 y1 y2 y3
        have h2 := i2 _ (hmem x x0 x1 x2 x3)
        rw [y4] at h1
        rw [x4] at h2
        omega
    · rw [sat_fold M 0 0 (fun p hp => (hk.ex p hp).1) (by decide) (by decide +kernel), area_eq hr]
      have hs := hk.sum
      unfold sumP at hs
      rw [hs, show max 0 (clampI f) = clampI f by omega]
      congr 1
      unfold areaS
      refine sumS_congr fun y hy hy' => ?_
      unfold posL
      rw [hlv y (by omega) (by omega)]
  · have hcl : cleanI (f, t) = (0, 0) := by unfold cleanI; simp only; rw [if_pos (by omega)]
    have hM : inL first C f t = [] := by unfold inL; rw [hcl]; exact in_none _ _ _
    rw [hM, choose_none minU (by omega), choose_none maxU (by omega), area_eq hr, areaS_none _ (by omega)]
    exact ⟨rfl, rfl, by decide +kernel, fun p hp => by cases hp⟩
end Go.Proofs.YtdamemdfehopeaaDoor
