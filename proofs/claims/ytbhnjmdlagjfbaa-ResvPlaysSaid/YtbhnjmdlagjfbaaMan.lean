/- Laws that belong together: Room (layer 11): FitLess walked. Conditions: the acts that came in; the numbers' bounds.; Room (layer 11), plainly: what FitSpans asks of the spans that are told and of the last time. No condition but that the steps are right.; Room (layer 11), the document's: add. Condition: the lengths' bounds.; Room (layer 11), the document's, plainly: the times at which a time may be good, or not; the first good one. No condition but that the steps are right and like the document's.; Room (layer 11), the document's: Times walked. Condition: few changes, the numbers' bounds.; Room (layer 11), the document's: Least, Good, Earliest walked. Conditions: few changes, levels that are like the document's, the numbers' bounds.; Reservations (layer 18), the document's: Lower, Find. Conditions: the lengths' bounds; reservations that may be.; Reservations (layer 18): what the document asks of a new one is what the program asks, plainly. No condition.; Reservations (layer 18), the document's: New, Find. Conditions: the lengths' bounds; reservations that may be. -/
import Derived.Test.YtbhnjmdlagjfbaaMal
import Derived.Test.YtbhnjmdlagjfbaaMUrc
import Derived.Test.YtbhnjmdlagjfbaaMask
import Derived.Test.YtbhnjmdlagjfbaaMab
import Derived.Test.YtbhnjmdlagjfbaaMam
import Derived.Test.YtbhnjmdlagjfbaaMak
import Derived.Test.YtbhnjmdlagjfbaaMUrn
import Derived.Test.YtbhnjmdlagjfbaaMad
import Derived.Deep.CutBlock
namespace Go.Proofs.Ytbhnjmdlagjfbaa
set_option linter.unusedVariables false
open Go.ChangeShapes Go.WideShapes Go.ChangeAt Go.RowKit
attribute [local go_sem ↓] Go.wp_at_zero Go.wp_at_succ comesTo_value_eq comesTo_skip_eq comesTo_enter_eq

/-- what Earliest tells -/
def earlU (L : List (Int × Int)) (from_ many W : Int) : Int := firstU (startsU L (clampI from_) (maxU (clampI many) 1) W)
theorem early_at {X : World} {S : Nat} {L : List (Int × Int)} (h : USt X S L) (hr : RightU L) (from_ many W : Int) : Calls Try.prog 72 #[.pointer (some ⟨S, 0, none⟩), .int .i64 from_, .int .i64 many, .int .i64 W] X fun e w' => e = .returned (.int .i64 (earlU L from_ many W)) ∧ Below X.heap.size X w' :=
  earliest_any from_ many W hr h.len (fun _ hb => levels_any (h.below hb))
theorem early_no {X : World} {v : Value} (h : NoU X v) (from_ many W : Int) : Calls Try.prog 72 #[v, .int .i64 from_, .int .i64 many, .int .i64 W] X fun e w' => e = .returned (.int .i64 (earlU [(0, 0)] from_ many W)) ∧ Below X.heap.size X w' :=
  earliest_any from_ many W (right_flat 0) (by decide) (fun _ hb => levels_no (h.below hb))
theorem early_spec {L : List (Int × Int)} (hr : RightU L) (from_ many W : Int) : (earlU L from_ many W < 1099511627776 → clampI from_ ≤ earlU L from_ many W ∧ GoodF (lvl 0 L) (maxU (clampI many) 1) W (earlU L from_ many W)) ∧ (∀ y, clampI from_ ≤ y → y < earlU L from_ many W → y < 1099511627776 → ¬ GoodF (lvl 0 L) (maxU (clampI many) 1) W y) ∧ 0 ≤ earlU L from_ many W ∧ earlU L from_ many W ≤ 1099511627776 :=
  first_spec (starts_ok hr (clampI_le from_).1 (maxU_le many).1) (clampI_le from_).1
/-- what is good for one is good for the other: it is found as early -/
theorem early_le {L M : List (Int × Int)} (hl : RightU L) (hm : RightU M) {f f' n n' W W' : Int} (hf : clampI f' ≤ clampI f)
    (hg : ∀ y, 0 ≤ y → y < 1099511627776 → GoodF (lvl 0 L) (maxU (clampI n) 1) W y → GoodF (lvl 0 M) (maxU (clampI n') 1) W' y) : earlU M f' n' W' ≤ earlU L f n W := by
  obtain ⟨a1, a2, a3, a4⟩ := early_spec hl f n W
  obtain ⟨b1, b2, b3, b4⟩ := early_spec hm f' n' W'
  rcases Int.lt_or_le (earlU L f n W) 1099511627776 with h | h
  · obtain ⟨c1, c2⟩ := a1 h
    refine Classical.byContradiction fun hc => ?_
    exact b2 _ (by omega) (by omega) h (hg _ a3 h c2)
  · omega
theorem lvl_in : ∀ (L : List (Int × Int)) (d x : Int), (-1000000 ≤ d ∧ d ≤ 1000000) → (∀ p ∈ L, -1000000 ≤ p.2 ∧ p.2 ≤ 1000000) → -1000000 ≤ lvl d L x ∧ lvl d L x ≤ 1000000
  | [], d, x, hd, _ => hd
  | p :: r, d, x, hd, h => by
    unfold lvl
    split
    · first | exact hd | exact lvl_in r _ x (h p List.mem_cons_self) fun q hq => h q (List.mem_cons_of_mem _ hq)
    · first | exact hd | exact lvl_in r _ x (h p List.mem_cons_self) fun q hq => h q (List.mem_cons_of_mem _ hq)
theorem lvl_bd {L : List (Int × Int)} (h : RightU L) (x : Int) : -1000000 ≤ lvl 0 L x ∧ lvl 0 L x ≤ 1000000 := lvl_in L 0 x (by omega) h.bd
/-- more levels are as good -/
theorem more_good {L : List (Int × Int)} (hl : RightU L) (f t : Int) : ∀ x, 0 ≤ x → x < 1099511627776 → lvl 0 L x ≤ lvl 0 (changeU (addF (byU 2)) L (f, t)) x := by
  intro x h0 h1
  rw [(change_right hl (addF_in (byU 2)) f t).2 x h0 h1]
  split
  · have hb := lvl_bd hl x
    have e2 : byU 2 = 2 := by decide
    have hw : IntKind.i64.wrap (lvl 0 L x + 2) = lvl 0 L x + 2 := by rw [IntKind.wrap_i64]; omega
    unfold addF
    rw [e2, hw]
    unfold boundU
    split <;> (try split) <;> omega
  · exact Int.le_refl _
theorem many_of {n : Int} (h : 1 ≤ n) (h' : n ≤ 1099511627776) : maxU (clampI n) 1 = n := by
  rw [clampI_of (by omega) h']
  unfold maxU
  split <;> omega
set_option maxRecDepth 100000 in
/-- an empty span fits -/
theorem fits_empty (v : Value) (f t W : Int) (he : clampI t ≤ clampI f) (w : World) : Calls Try.prog 67 #[v, .agg #[.int .i64 f, .int .i64 t], .int .i64 W] w fun e w' => e = .returned (.bool true) ∧ Below w.heap.size w w' := by
  have hb0 := below_alloc (Below.refl _ w) (.cells #[.int .i64 f, .int .i64 t] 39)
  have n0 := World.alloc_heap_new w (.cells #[.int .i64 f, .int .i64 t] 39)
  have KE := Lib.hid (fun W => empty_any f t W)
  have hd : decide (clampI t ≤ clampI f) = true := decide_eq_true he
  go_enter Try.func67, Try.ntmps67
  go_upto_region 1 with fail
  generalize w.alloc (.cells #[.int .i64 f, .int .i64 t] 39) = W0 at *
  have c0 := cell_of_block (o := 0) n0 rfl
  have c1 := cell_of_block (o := 1) n0 rfl
  go_wp2_with fail
  refine (KE.out _).mono ?_
  rintro e W1 ⟨rfl, hb1⟩
  have HB1 := Lib.hid (below_next hb0 hb1)
  clear hb0 hb1 n0
  rw [hd]
  go_wp2_with fail
  go_ret
  exact ⟨rfl, HB1.out⟩
theorem actsU_below {w w' : World} {lad : Option Addr} {ll : Nat} {A : Nat → ActU} (hA : ActsU w lad ll A) (hb0 : Below w.heap.size w w') : ActsU w' lad ll A := by
  refine ⟨hA.1, fun hp => ?_⟩
  obtain ⟨b, off, rfl, hc⟩ := hA.2 hp
  refine ⟨b, off, rfl, fun k hk => ?_⟩
  have h := hc k hk
  have hbl : b < w.heap.size := World.block_lt_of_cell? w _ h.c0
  exact ⟨(hb0.cell (p := ⟨b, off + k * 4, none⟩) hbl).trans h.c0, (hb0.cell (p := ⟨b, off + k * 4 + 1, none⟩) hbl).trans h.c1, (hb0.cell (p := ⟨b, off + k * 4 + 2, none⟩) hbl).trans h.c2, (hb0.cell (p := ⟨b, off + k * 4 + 3, none⟩) hbl).trans h.c3, h.n64, h.f64, h.t64⟩
end Go.Proofs.Ytbhnjmdlagjfbaa
namespace Go.Proofs.Ytbhnjmdlagjfbaa
set_option linter.unusedVariables false
open Go.ChangeShapes Go.WideShapes Go.ChangeAt Go.RowKit
theorem startsGo_len (F m W : Int) : ∀ (rs : List (Int × Int × Int)), (startsGo F m W rs none).length ≤ rs.length ∧ ∀ a, (startsGo F m W rs (some a)).length ≤ rs.length + 1
  | [] => ⟨Nat.le_refl _, fun a => by unfold startsGo; split <;> simp⟩
  | r :: rs => by
    obtain ⟨h1, h2⟩ := startsGo_len F m W rs
    constructor
    · unfold startsGo
      simp only [List.length_cons]
      split
      · exact h2 _
      · omega
    · intro a
      unfold startsGo
      simp only [List.length_cons]
      split
      · have := h2 a; omega
      · rw [List.length_append]
        split <;> simp <;> omega
theorem startsU_len (L : List (Int × Int)) (F m W : Int) : (startsU L F m W).length ≤ L.length := by
  unfold startsU
  have := (startsGo_len F m W (runsU L)).1
  have h : (runsU L).length = L.length := by unfold runsU; simp
  omega
/-- is a time in one of the spans? -/
def anyH (R : List (Int × Int)) (T : Int) : Bool := R.any fun s => holdsI s T
theorem anyH_next {R : List (Int × Int)} {k : Nat} (h : k < R.length) (T : Int) : anyH (R.take (k + 1)) T = (anyH (R.take k) T || holdsI (R.getD k (0, 0)) T) := by
  unfold anyH
  rw [List.take_add_one, List.getElem?_eq_getElem h, List.any_append, List.getD_eq_getElem?_getD, List.getElem?_eq_getElem h]
  simp
theorem holds_span {s : Int × Int} {T : Int} (h : 0 ≤ s.1 ∧ s.1 < s.2 ∧ s.2 ≤ 1099511627776) (hT : 0 ≤ T ∧ T ≤ 1099511627776) : holdsI s T = true ↔ s.1 ≤ T ∧ T < s.2 := by
  unfold holdsI
  rw [clampI_of h.1 (by omega), clampI_of (n := s.2) (by omega) h.2.2, clampI_of hT.1 hT.2]
  simp
theorem right_span {s : Int × Int} (h : 0 ≤ s.1 ∧ s.1 < s.2 ∧ s.2 ≤ 1099511627776) : rightI s = true := by
  unfold rightI
  rw [clampI_of h.1 (by omega), clampI_of (n := s.2) (by omega) h.2.2]
  simp
  omega
theorem anyH_good {g : Int → Int} {F m W : Int} {R : List (Int × Int)} (h : StartsOk g F m W 0 R) {T : Int} (hT : 0 ≤ T ∧ T < 1099511627776) : anyH R T = true ↔ F ≤ T ∧ GoodF g m W T := by
  unfold anyH
  rw [List.any_eq_true, ← h.iff T hT.1 hT.2]
  constructor
  · rintro ⟨s, hs, hh⟩
    obtain ⟨q1, q2, q3, q4⟩ := h.low s hs
    exact ⟨s, hs, (holds_span ⟨q1, q3, q4⟩ ⟨hT.1, by omega⟩).1 hh⟩
  · rintro ⟨s, hs, hh⟩
    obtain ⟨q1, q2, q3, q4⟩ := h.low s hs
    exact ⟨s, hs, (holds_span ⟨q1, q3, q4⟩ ⟨hT.1, by omega⟩).2 hh⟩
theorem getD_mem {R : List (Int × Int)} {k : Nat} (h : k < R.length) : R.getD k (0, 0) ∈ R := by
  rw [List.getD_eq_getElem?_getD, List.getElem?_eq_getElem h]; exact List.getElem_mem h
theorem rise_next {g : Int → Int} {F m W : Int} {R : List (Int × Int)} (h : StartsOk g F m W 0 R) {k : Nat} (hk : k + 1 < R.length) : (R.getD k (0, 0)).2 < (R.getD (k + 1) (0, 0)).1 := by
  have := List.pairwise_iff_getElem.1 h.rise k (k + 1) (by omega) hk (by omega)
  rw [getD_of hk, getD_of (show k < R.length by omega)]
  exact this
theorem cutI_in {s T : Int × Int} (h : (cutI s T).1 < (cutI s T).2) : clampI s.1 ≤ (cutI s T).1 ∧ clampI T.1 ≤ (cutI s T).1 ∧ (cutI s T).2 ≤ clampI s.2 ∧ (cutI s T).2 ≤ clampI T.2 ∧ ((cutI s T).2 = clampI s.2 ∨ (cutI s T).2 = clampI T.2) := by
  unfold cutI at *
  split at h
  · simp at h
  · rename_i hc
    rw [if_neg hc]
    unfold bothT bothF
    simp only
    omega
theorem mem_ins {T : Int × Int} : ∀ {R : List (Int × Int)} {s : Int × Int}, s ∈ insU T R → s ∈ R ∧ (cutI s T).1 < (cutI s T).2
  | [], s, h => by unfold insU at h; cases h
  | r :: R, s, h => by
    unfold insU at h
    rw [List.takeWhile_cons] at h
    split at h
    · rename_i hr
      rcases List.mem_cons.1 h with rfl | h
      · exact ⟨List.mem_cons_self, by simpa using hr⟩
      · obtain ⟨h1, h2⟩ := mem_ins (R := R) h
        exact ⟨List.mem_cons_of_mem _ h1, h2⟩
    · cases h
/-- what the law asks of the last time that is told -/
theorem last_spec {L : List (Int × Int)} (hr : RightU L) {g h m W : Int} (hm : 1 ≤ m) {o1 : Int} {o2 : Bool} (ho : accU (g, h) (insU (g, h) (startsU L (clampI g) m W)) = (o1, o2)) :
    (o2 = false → o1 = 0) ∧ (o2 = true → 0 ≤ o1 ∧ o1 < 1099511627776 ∧ holdsI (g, h) o1 = true ∧ GoodF (lvl 0 L) m W o1 ∧ (o1 + 1 < 1099511627776 → holdsI (g, h) (o1 + 1) = true → ¬ GoodF (lvl 0 L) m W (o1 + 1))) := by
  have hS := starts_ok hr (F := clampI g) (W := W) (clampI_le g).1 hm
  unfold accU at ho
  cases hl : (insU (g, h) (startsU L (clampI g) m W)).getLast? with
  | none =>
    rw [hl] at ho
    cases ho
    exact ⟨fun _ => rfl, fun e => by cases e⟩
  | some s =>
    rw [hl] at ho
    injection ho with e1 e2
    subst e2
    obtain ⟨hs, hc⟩ := mem_ins (List.mem_of_getLast? hl)
    obtain ⟨q1, q2, q3, q4⟩ := hS.low s hs
    have hb := cutI_le s (g, h)
    obtain ⟨i1, i2, i3, i4, i5⟩ := cutI_in hc
    have hg := clampI_le g
    have hh := clampI_le h
    rw [clampI_of q1 (by omega)] at i1
    rw [clampI_of (n := s.2) (by omega) q4] at i3 i5
    simp only at i2 i4 i5
    refine ⟨fun e => (by cases e), fun _ => ⟨by omega, by omega, ?_, ?_, fun h1 h2 h3 => ?_⟩⟩
    · unfold holdsI
      simp only
      rw [clampI_of (n := o1) (by omega) (by omega), decide_eq_true (by omega), decide_eq_true (by omega)]
      rfl
    · exact ((hS.iff o1 (by omega) (by omega)).1 ⟨s, hs, by omega, by omega⟩).2
    · unfold holdsI at h2
      simp only [Bool.and_eq_true, decide_eq_true_eq] at h2
      rw [clampI_of (n := o1 + 1) (by omega) (by omega)] at h2
      obtain ⟨s', hs', p1, p2⟩ := (hS.iff (o1 + 1) (by omega) h1).2 ⟨by omega, h3⟩
      have hsame : s.2 = o1 + 1 := by omega
      obtain ⟨i, hi, rfl⟩ := List.mem_iff_getElem.1 hs
      obtain ⟨j, hj, rfl⟩ := List.mem_iff_getElem.1 hs'
      obtain ⟨p3, p4, p5, p6⟩ := hS.low _ hs'
      rcases Nat.lt_trichotomy i j with hij | hij | hij
      · have := List.pairwise_iff_getElem.1 hS.rise i j hi hj hij; omega
      · subst hij; omega
      · have := List.pairwise_iff_getElem.1 hS.rise j i hj hi hij; omega
end Go.Proofs.Ytbhnjmdlagjfbaa
namespace Go.Proofs.Ytbhnjmdlagjfbaa
set_option linter.unusedVariables false
open Go.ChangeShapes Go.WideShapes Go.ChangeAt Go.RowKit
attribute [local go_sem ↓] Go.wp_at_zero Go.wp_at_succ comesTo_value_eq comesTo_skip_eq comesTo_enter_eq

/-- times, rising, with one more, if it is from one on -/
def addT (F : Int) (l : List Int) (t : Int) : List Int := if t < F ∨ t ≥ 1099511627776 then l else insT l t
/-- a row of times, or none at all -/
def RowV (w : World) (v : Value) (l : List Int) : Prop := (l = [] ∧ v = .slice none 0 0) ∨ RowT w v l
theorem RowV.below {w w' : World} {v : Value} {l : List Int} (h : RowV w v l) (hb : Below w.heap.size w w') : RowV w' v l := h.imp id fun h => h.below hb
theorem addT_len (F : Int) (l : List Int) (t : Int) : (addT F l t).length ≤ l.length + 1 := by
  unfold addT
  split
  · omega
  · exact insT_len l t
/-- what is not taken in -/
theorem radd_out {w : World} {v : Value} {l : List Int} (h : RowV w v l) (F t : Int) (ht : t < F ∨ t ≥ 1099511627776) :
    Calls Try.prog 152 #[v, .int .i64 F, .int .i64 t] w fun e w' => ∃ v', e = .returned v' ∧ RowV w' v' (addT F l t) ∧ Below w.heap.size w w' := by
  have E := Lib.hid (show addT F l t = l by unfold addT; rw [if_pos ht])
  have HV := Lib.hid h
  obtain ⟨ad, n, c, rfl⟩ : ∃ ad n c, v = .slice ad n c := by
    rcases h with ⟨_, e⟩ | ⟨g, c, e, _⟩
    · exact ⟨_, _, _, e⟩
    · exact ⟨_, _, _, e⟩
  clear h
  by_cases h1 : t < F
  case pos =>
    have hd : decide (t < F) = true := decide_eq_true h1
    go_enter Try.func152, Try.ntmps152
    go_wp2_with fail
    go_ret
    exact ⟨_, rfl, by rw [E.out]; exact HV.out, Below.refl _ _⟩
  case neg =>
    have hd : decide (t < F) = false := decide_eq_false h1
    have hd2 : decide (t ≥ 1099511627776) = true := decide_eq_true (by omega)
    go_enter Try.func152, Try.ntmps152
    go_wp2_with fail
    go_ret
    exact ⟨_, rfl, by rw [E.out]; exact HV.out, Below.refl _ _⟩
set_option maxRecDepth 100000 in
set_option maxHeartbeats 8000000 in
theorem radd_in {w : World} {v : Value} {l : List Int} (h : RowT w v l) (hlen : l.length ≤ 1073741824) (F t : Int) (ht : ¬ (t < F ∨ t ≥ 1099511627776)) :
    Calls Try.prog 152 #[v, .int .i64 F, .int .i64 t] w fun e w' => ∃ v', e = .returned v' ∧ RowT w' v' (addT F l t) ∧ Below w.heap.size w w' := by
  have hmx : Try.prog.follows .mixedOrders = true := by kernel_rfl
  obtain ⟨g, c, rfl, hc, hg, hr⟩ := h
  have HR := Lib.hid (show RowT w (.slice (some ⟨g, 0, none⟩) l.length c) l from ⟨g, c, rfl, hc, hg, hr⟩)
  have HC := Lib.hid hr
  clear hr
  have hd : decide (t < F) = false := decide_eq_false (by omega)
  have hdd : decide (t ≥ 1099511627776) = false := decide_eq_false (by omega)
  have E := Lib.hid (show addT F l t = insT l t by unfold addT; rw [if_neg ht])
  go_enter Try.func152, Try.ntmps152
  go_wp2_with fail
  go_loopw [7] (fun i wr => ∃ k : Nat, k ≤ l.length ∧ i = .int .i64 k ∧ (∀ j, j < k → l.getD j 0 < t) ∧ wr = w) (fun i _ => l.length - (intOf i).toNat)
  case atStart => exact ⟨0, by omega, rfl, fun j hj => by omega, rfl⟩
  case round =>
    obtain ⟨k, hk, rfl, hkk, rfl⟩ := hrel
    have HK := Lib.hid hkk
    clear hkk
    have hw1 : IntKind.i64.wrap ((k : Int) + 1) = ((k + 1 : Nat) : Int) := by rw [IntKind.wrap_i64]; omega
    by_cases hlt : k < l.length ∧ l.getD k 0 < t
    case pos =>
      have hd1 : decide (k < l.length) = true := decide_eq_true hlt.1
      have hix : (k : Int) < (l.length : Int) := by omega
      have c0 := HC.out k hlt.1
      have hd2 : decide (l.getD k 0 < t) = true := decide_eq_true hlt.2
      have HNX := Lib.hid (show ∀ j, j < k + 1 → l.getD j 0 < t from fun j hj => by rcases Nat.lt_or_ge j k with h | h; exact HK.out j h; rw [show j = k by omega]; exact hlt.2)
      have hkl := hlt.1
      clear hlt
      generalize l.getD k 0 = y at *
      go_wp2_with fail
      exact ⟨⟨k + 1, by omega, rfl, HNX.out, by first | rfl | trivial⟩, by show l.length - (((k + 1 : Nat) : Int)).toNat < l.length - ((k : Int)).toNat; omega⟩
    case neg =>
      have HI := Lib.hid (insT_at l t k hk HK.out (fun h h2 => hlt ⟨h, h2⟩))
      by_cases hkl : k < l.length
      case pos =>
        have hd1 : decide (k < l.length) = true := decide_eq_true hkl
        have hix : (k : Int) < (l.length : Int) := by omega
        have c0 := HC.out k hkl
        have hd2 : decide (l.getD k 0 < t) = false := decide_eq_false (fun h => hlt ⟨hkl, h⟩)
        by_cases he : l.getD k 0 = t
        case pos =>
          have E2 := Lib.hid (show addT F l t = l by rw [E.out, HI.out, if_pos ⟨hkl, he⟩])
          have hq : (l.getD k 0 == t) = true := beq_iff_eq.2 he
          clear he hlt
          generalize l.getD k 0 = y at *
          go_wp2_with fail
          go_ret
          exact ⟨_, rfl, by rw [E2.out]; exact HR.out, Below.refl _ _⟩
        case neg =>
          have E2 := Lib.hid (show addT F l t = l.take k ++ t :: l.drop k by rw [E.out, HI.out, if_neg (fun hh => he hh.2)])
          have hq : (l.getD k 0 == t) = false := beq_false_of_ne he
          clear he hlt
          have HCC := Lib.hid HC.out
          clear HC HI
          generalize l.getD k 0 = y at *
          have hs1 : (k : Int) ≤ (c : Int) := by omega
          have hs2 : (k : Int) ≤ (l.length : Int) := by omega
          go_upto_region 8 with fail
          clear c0
          refine Ap.wp_region_K (S1 := fun _ => True) (S2 := fun _ => True) (js := 12) hmx ?_
          change Ap.wpAnyK _ _ _ _ _ _ _ 13 _ _ wr.drew
          refine Ap.wpAnyK_take1 (i := 1) (v := .slice (some ⟨g, 0, none⟩) l.length c) rfl (by decide) (by decide +kernel) (by decide +kernel) (by decide +kernel) (fun _ _ _ h => h) (.inl ⟨by first | rfl | (go_simp; done), fun X hX => by clear hX; first | (go_simp; done) | (go_simp; rfl)⟩) ⟨trivial, trivial⟩ ?_
          refine Ap.wpAnyK_take1 (i := 2) (v := .int .i64 k) rfl (by decide) (by decide +kernel) (by decide +kernel) (by decide +kernel) (fun _ _ _ h => h) (.inl ⟨by first | rfl | (go_simp; done), fun X hX => by clear hX; first | (go_simp; done) | (go_simp; rfl)⟩) ⟨trivial, trivial⟩ ?_
          refine Ap.wpAnyK_take1 (i := 3) (v := .slice (some ⟨g, 0, none⟩) k c) rfl (by decide) (by decide +kernel) (by decide +kernel) (by decide +kernel) (fun _ _ _ h => h) (.inl ⟨by first | rfl | (go_simp; done), fun X hX => by clear hX; first | (go_simp; done) | (go_simp; rfl)⟩) ⟨trivial, trivial⟩ ?_
          refine Ap.wpAnyK_take1 (i := 5) (v := .int .i64 t) rfl (by decide) (by decide +kernel) (by decide +kernel) (by decide +kernel) (fun _ _ _ h => h) (.inl ⟨by first | rfl | (go_simp; done), fun X hX => by clear hX; first | (go_simp; done) | (go_simp; rfl)⟩) ⟨trivial, trivial⟩ ?_
          refine Ap.wpAnyK_take1 (i := 8) (v := .slice (some ⟨g, 0, none⟩) l.length c) rfl (by decide) (by decide +kernel) (by decide +kernel) (by decide +kernel) (fun _ _ _ h => h) (.inl ⟨by first | rfl | (go_simp; done), fun X hX => by clear hX; first | (go_simp; done) | (go_simp; rfl)⟩) ⟨trivial, trivial⟩ ?_
          refine Ap.wpAnyK_take1 (i := 9) (v := .int .i64 k) rfl (by decide) (by decide +kernel) (by decide +kernel) (by decide +kernel) (fun _ _ _ h => h) (.inl ⟨by first | rfl | (go_simp; done), fun X hX => by clear hX; first | (go_simp; done) | (go_simp; rfl)⟩) ⟨trivial, trivial⟩ ?_
          refine Ap.wpAnyK_take1 (i := 10) (v := .slice (if c = k then some ⟨g, 0, none⟩ else some ⟨g, k, none⟩) (l.length - k) (c - k)) rfl (by decide) (by decide +kernel) (by decide +kernel) (by decide +kernel) (fun _ _ _ h => h) (.inl ⟨by first | rfl | (go_simp; done), fun X hX => by clear hX; first | (go_simp; done) | (go_simp; rfl)⟩) ⟨trivial, trivial⟩ ?_
          have rd1 : Ap.RdG wr 1 (.slice (some ⟨g, 0, none⟩) k c) k (flatT (l.take k)) := rd_part hg HCC.out (by rw [List.length_take]; omega) (fun j hj => ⟨by omega, by simp [List.getD_eq_getElem?_getD, List.getElem?_take, hj]⟩)
          have rd2 : Ap.RdG wr 1 (.slice (if c = k then some ⟨g, 0, none⟩ else some ⟨g, k, none⟩) (l.length - k) (c - k)) (l.length - k) (flatT (l.drop k)) := by
            by_cases hck : c = k
            · rw [if_pos hck]; exact rd_part hg HCC.out (by rw [List.length_drop]) (fun j hj => by omega)
            · rw [if_neg hck]; exact rd_part hg HCC.out (by rw [List.length_drop]) (fun j hj => ⟨by omega, by simp [List.getD_eq_getElem?_getD, List.getElem?_drop]⟩)
          refine Ap.anyK_app2 (j0 := 0) (j1 := 4) (j2 := 6) (j3 := 7) (fuel := 2) (cs := #[.int .i64 t]) eltT wr.heap.size (.inl (by decide +kernel)) (.inl (by decide +kernel)) (by decide +kernel) (by decide +kernel) (by decide +kernel) (by decide +kernel) (by decide) rfl rfl rfl rfl ⟨rfl, rfl, rfl, rfl⟩ (by decide) ⟨rfl, rfl, rfl, rfl⟩ rfl rfl
            (by simp [Act.put]) (fun a' X => by first | (go_simp; done) | (go_simp; rfl)) (.slice (some ⟨g, 0, none⟩) k c) k (flatT (l.take k)) (fun u0 u2 => ⟨by simp [Act.put, Act.eval], by simp [Act.put, Act.eval]⟩) (rd1.mono (Below.refl _ _).drew)
            (fun u0 u1 X => ⟨by first | (go_simp; done) | (go_simp; rfl), by first | (go_simp; done) | (go_simp; rfl), by first | (go_simp; done) | (go_simp; rfl)⟩) rfl (by intro u hu; simp at hu; subst hu; rfl) (by unfold maxLen; omega) (by omega) (Nat.le_refl _)
            (fun X hb => ⟨trivial, trivial⟩) ?_
          intro u0 u1 u2 v0 X ho hb
          obtain ⟨v1, X1, hrun, hown, _, hbel⟩ := Ap.run_app eltT 113 wr.heap.size v0 (k + 1) _ ho _ (l.length - k) _ ((rd2.mono (Below.refl _ _).drew).mono hb) (by unfold maxLen; omega) (by omega) (hb.size)
          refine Ap.anyK_val1 (i := 11) (v := v1) (w' := X1) (by decide +kernel) rfl rfl (Ap.exec_app rfl (by simp [Act.put, Act.eval]) (by simp [Act.put, Act.eval]) hrun) ⟨trivial, trivial⟩ ?_
          have hl2 : k + 1 + (l.length - k) = (l.take k ++ t :: l.drop k).length := by simp; omega
          have hf2 : flatT (l.take k) ++ [Value.int .i64 t] ++ flatT (l.drop k) = flatT (l.take k ++ t :: l.drop k) := by simp [flatT]
          have hO := Lib.hid (show RowT X1 v1 (addT F l t) from by
            rw [E2.out]
            refine RowT.own (B := wr.heap.size) ?_ (by simp; omega)
            rw [← hl2, ← hf2]
            exact hown)
          have hB := Lib.hid (show Below wr.heap.size wr X1 from Below.trans (Below.drew (Below.refl _ _)) (Below.trans hb hbel))
          clear hown hrun hbel ho hb rd1 rd2 hl2 hf2
          obtain ⟨ga, ca, hva, _⟩ := hO.out
          obtain ⟨na, hna⟩ : ∃ n, n = (addT F l t).length := ⟨_, rfl⟩
          rw [← hna] at hva
          clear hna
          subst hva
          refine Ap.anyK_val1 (i := 12) (v := .slice (some ⟨ga, 0, none⟩) na ca) (w' := X1) (by decide +kernel) rfl rfl (by first | (go_simp; done) | (go_simp; rfl)) ⟨trivial, trivial⟩ ?_
          refine Ap.wpAnyK_done (by decide +kernel) ?_ _
          go_wp2_with fail
          all_goals (
            go_ret
            exact ⟨_, rfl, hO.out, hB.out⟩)
      case neg =>
        have hd1 : decide (k < l.length) = false := decide_eq_false hkl
        have E2 := Lib.hid (show addT F l t = l.take k ++ t :: l.drop k by rw [E.out, HI.out, if_neg (fun hh => hkl hh.1)])
        clear hlt
        have HCC := Lib.hid HC.out
        clear HC HI
        have hs1 : (k : Int) ≤ (c : Int) := by omega
        have hs2 : (k : Int) ≤ (l.length : Int) := by omega
        go_upto_region 8 with fail
        refine Ap.wp_region_K (S1 := fun _ => True) (S2 := fun _ => True) (js := 12) hmx ?_
        change Ap.wpAnyK _ _ _ _ _ _ _ 13 _ _ wr.drew
        refine Ap.wpAnyK_take1 (i := 1) (v := .slice (some ⟨g, 0, none⟩) l.length c) rfl (by decide) (by decide +kernel) (by decide +kernel) (by decide +kernel) (fun _ _ _ h => h) (.inl ⟨by first | rfl | (go_simp; done), fun X hX => by clear hX; first | (go_simp; done) | (go_simp; rfl)⟩) ⟨trivial, trivial⟩ ?_
        refine Ap.wpAnyK_take1 (i := 2) (v := .int .i64 k) rfl (by decide) (by decide +kernel) (by decide +kernel) (by decide +kernel) (fun _ _ _ h => h) (.inl ⟨by first | rfl | (go_simp; done), fun X hX => by clear hX; first | (go_simp; done) | (go_simp; rfl)⟩) ⟨trivial, trivial⟩ ?_
        refine Ap.wpAnyK_take1 (i := 3) (v := .slice (some ⟨g, 0, none⟩) k c) rfl (by decide) (by decide +kernel) (by decide +kernel) (by decide +kernel) (fun _ _ _ h => h) (.inl ⟨by first | rfl | (go_simp; done), fun X hX => by clear hX; first | (go_simp; done) | (go_simp; rfl)⟩) ⟨trivial, trivial⟩ ?_
        refine Ap.wpAnyK_take1 (i := 5) (v := .int .i64 t) rfl (by decide) (by decide +kernel) (by decide +kernel) (by decide +kernel) (fun _ _ _ h => h) (.inl ⟨by first | rfl | (go_simp; done), fun X hX => by clear hX; first | (go_simp; done) | (go_simp; rfl)⟩) ⟨trivial, trivial⟩ ?_
        refine Ap.wpAnyK_take1 (i := 8) (v := .slice (some ⟨g, 0, none⟩) l.length c) rfl (by decide) (by decide +kernel) (by decide +kernel) (by decide +kernel) (fun _ _ _ h => h) (.inl ⟨by first | rfl | (go_simp; done), fun X hX => by clear hX; first | (go_simp; done) | (go_simp; rfl)⟩) ⟨trivial, trivial⟩ ?_
        refine Ap.wpAnyK_take1 (i := 9) (v := .int .i64 k) rfl (by decide) (by decide +kernel) (by decide +kernel) (by decide +kernel) (fun _ _ _ h => h) (.inl ⟨by first | rfl | (go_simp; done), fun X hX => by clear hX; first | (go_simp; done) | (go_simp; rfl)⟩) ⟨trivial, trivial⟩ ?_
        refine Ap.wpAnyK_take1 (i := 10) (v := .slice (if c = k then some ⟨g, 0, none⟩ else some ⟨g, k, none⟩) (l.length - k) (c - k)) rfl (by decide) (by decide +kernel) (by decide +kernel) (by decide +kernel) (fun _ _ _ h => h) (.inl ⟨by first | rfl | (go_simp; done), fun X hX => by clear hX; first | (go_simp; done) | (go_simp; rfl)⟩) ⟨trivial, trivial⟩ ?_
        have rd1 : Ap.RdG wr 1 (.slice (some ⟨g, 0, none⟩) k c) k (flatT (l.take k)) := rd_part hg HCC.out (by rw [List.length_take]; omega) (fun j hj => ⟨by omega, by simp [List.getD_eq_getElem?_getD, List.getElem?_take, hj]⟩)
        have rd2 : Ap.RdG wr 1 (.slice (if c = k then some ⟨g, 0, none⟩ else some ⟨g, k, none⟩) (l.length - k) (c - k)) (l.length - k) (flatT (l.drop k)) := by
          by_cases hck : c = k
          · rw [if_pos hck]; exact rd_part hg HCC.out (by rw [List.length_drop]) (fun j hj => by omega)
          · rw [if_neg hck]; exact rd_part hg HCC.out (by rw [List.length_drop]) (fun j hj => ⟨by omega, by simp [List.getD_eq_getElem?_getD, List.getElem?_drop]⟩)
        refine Ap.anyK_app2 (j0 := 0) (j1 := 4) (j2 := 6) (j3 := 7) (fuel := 2) (cs := #[.int .i64 t]) eltT wr.heap.size (.inl (by decide +kernel)) (.inl (by decide +kernel)) (by decide +kernel) (by decide +kernel) (by decide +kernel) (by decide +kernel) (by decide) rfl rfl rfl rfl ⟨rfl, rfl, rfl, rfl⟩ (by decide) ⟨rfl, rfl, rfl, rfl⟩ rfl rfl
          (by simp [Act.put]) (fun a' X => by first | (go_simp; done) | (go_simp; rfl)) (.slice (some ⟨g, 0, none⟩) k c) k (flatT (l.take k)) (fun u0 u2 => ⟨by simp [Act.put, Act.eval], by simp [Act.put, Act.eval]⟩) (rd1.mono (Below.refl _ _).drew)
          (fun u0 u1 X => ⟨by first | (go_simp; done) | (go_simp; rfl), by first | (go_simp; done) | (go_simp; rfl), by first | (go_simp; done) | (go_simp; rfl)⟩) rfl (by intro u hu; simp at hu; subst hu; rfl) (by unfold maxLen; omega) (by omega) (Nat.le_refl _)
          (fun X hb => ⟨trivial, trivial⟩) ?_
        intro u0 u1 u2 v0 X ho hb
        obtain ⟨v1, X1, hrun, hown, _, hbel⟩ := Ap.run_app eltT 113 wr.heap.size v0 (k + 1) _ ho _ (l.length - k) _ ((rd2.mono (Below.refl _ _).drew).mono hb) (by unfold maxLen; omega) (by omega) (hb.size)
        refine Ap.anyK_val1 (i := 11) (v := v1) (w' := X1) (by decide +kernel) rfl rfl (Ap.exec_app rfl (by simp [Act.put, Act.eval]) (by simp [Act.put, Act.eval]) hrun) ⟨trivial, trivial⟩ ?_
        have hl2 : k + 1 + (l.length - k) = (l.take k ++ t :: l.drop k).length := by simp; omega
        have hf2 : flatT (l.take k) ++ [Value.int .i64 t] ++ flatT (l.drop k) = flatT (l.take k ++ t :: l.drop k) := by simp [flatT]
        have hO := Lib.hid (show RowT X1 v1 (addT F l t) from by
          rw [E2.out]
          refine RowT.own (B := wr.heap.size) ?_ (by simp; omega)
          rw [← hl2, ← hf2]
          exact hown)
        have hB := Lib.hid (show Below wr.heap.size wr X1 from Below.trans (Below.drew (Below.refl _ _)) (Below.trans hb hbel))
        clear hown hrun hbel ho hb rd1 rd2 hl2 hf2
        obtain ⟨ga, ca, hva, _⟩ := hO.out
        obtain ⟨na, hna⟩ : ∃ n, n = (addT F l t).length := ⟨_, rfl⟩
        rw [← hna] at hva
        clear hna
        subst hva
        refine Ap.anyK_val1 (i := 12) (v := .slice (some ⟨ga, 0, none⟩) na ca) (w' := X1) (by decide +kernel) rfl rfl (by first | (go_simp; done) | (go_simp; rfl)) ⟨trivial, trivial⟩ ?_
        refine Ap.wpAnyK_done (by decide +kernel) ?_ _
        go_wp2_with fail
        all_goals (
          go_ret
          exact ⟨_, rfl, hO.out, hB.out⟩)
set_option maxRecDepth 100000 in
set_option maxHeartbeats 8000000 in
theorem radd_nil (F t : Int) (w : World) (ht : ¬ (t < F ∨ t ≥ 1099511627776)) :
    Calls Try.prog 152 #[.slice none 0 0, .int .i64 F, .int .i64 t] w fun e w' => ∃ v', e = .returned v' ∧ RowT w' v' (addT F [] t) ∧ Below w.heap.size w w' := by
  have hmx : Try.prog.follows .mixedOrders = true := by kernel_rfl
  have hd : decide (t < F) = false := decide_eq_false (by omega)
  have hdd : decide (t ≥ 1099511627776) = false := decide_eq_false (by omega)
  have E2 := Lib.hid (show addT F [] t = [].take 0 ++ t :: [].drop 0 by unfold addT; rw [if_neg ht]; rfl)
  go_enter Try.func152, Try.ntmps152
  go_wp2_with fail
  go_loopw [7] (fun i wr => i = .int .i64 0 ∧ wr = w) (fun _ _ => 0)
  case atStart => exact ⟨rfl, rfl⟩
  case round =>
    obtain ⟨rfl, rfl⟩ := hrel
    go_upto_region 8 with fail
    refine Ap.wp_region_K (S1 := fun _ => True) (S2 := fun _ => True) (js := 12) hmx ?_
    change Ap.wpAnyK _ _ _ _ _ _ _ 13 _ _ wr.drew
    refine Ap.wpAnyK_take1 (i := 1) (v := .slice none 0 0) rfl (by decide) (by decide +kernel) (by decide +kernel) (by decide +kernel) (fun _ _ _ h => h) (.inl ⟨by first | rfl | (go_simp; done), fun X hX => by clear hX; first | (go_simp; done) | (go_simp; rfl)⟩) ⟨trivial, trivial⟩ ?_
    refine Ap.wpAnyK_take1 (i := 2) (v := .int .i64 0) rfl (by decide) (by decide +kernel) (by decide +kernel) (by decide +kernel) (fun _ _ _ h => h) (.inl ⟨by first | rfl | (go_simp; done), fun X hX => by clear hX; first | (go_simp; done) | (go_simp; rfl)⟩) ⟨trivial, trivial⟩ ?_
    refine Ap.wpAnyK_take1 (i := 3) (v := .slice none 0 0) rfl (by decide) (by decide +kernel) (by decide +kernel) (by decide +kernel) (fun _ _ _ h => h) (.inl ⟨by first | rfl | (go_simp; done), fun X hX => by clear hX; first | (go_simp; done) | (go_simp; rfl)⟩) ⟨trivial, trivial⟩ ?_
    refine Ap.wpAnyK_take1 (i := 5) (v := .int .i64 t) rfl (by decide) (by decide +kernel) (by decide +kernel) (by decide +kernel) (fun _ _ _ h => h) (.inl ⟨by first | rfl | (go_simp; done), fun X hX => by clear hX; first | (go_simp; done) | (go_simp; rfl)⟩) ⟨trivial, trivial⟩ ?_
    refine Ap.wpAnyK_take1 (i := 8) (v := .slice none 0 0) rfl (by decide) (by decide +kernel) (by decide +kernel) (by decide +kernel) (fun _ _ _ h => h) (.inl ⟨by first | rfl | (go_simp; done), fun X hX => by clear hX; first | (go_simp; done) | (go_simp; rfl)⟩) ⟨trivial, trivial⟩ ?_
    refine Ap.wpAnyK_take1 (i := 9) (v := .int .i64 0) rfl (by decide) (by decide +kernel) (by decide +kernel) (by decide +kernel) (fun _ _ _ h => h) (.inl ⟨by first | rfl | (go_simp; done), fun X hX => by clear hX; first | (go_simp; done) | (go_simp; rfl)⟩) ⟨trivial, trivial⟩ ?_
    refine Ap.wpAnyK_take1 (i := 10) (v := .slice none 0 0) rfl (by decide) (by decide +kernel) (by decide +kernel) (by decide +kernel) (fun _ _ _ h => h) (.inl ⟨by first | rfl | (go_simp; done), fun X hX => by clear hX; first | (go_simp; done) | (go_simp; rfl)⟩) ⟨trivial, trivial⟩ ?_
    have rd1 : Ap.RdG wr 1 (.slice none 0 0) 0 (flatT ([].take 0)) := ⟨⟨none, 0, rfl, fun _ => rfl, fun a ha => (by cases ha), fun a ha => (by cases ha)⟩, rfl, fun u hu => (by cases hu)⟩
    have rd2 : Ap.RdG wr 1 (.slice none 0 0) 0 (flatT ([].drop 0)) := ⟨⟨none, 0, rfl, fun _ => rfl, fun a ha => (by cases ha), fun a ha => (by cases ha)⟩, rfl, fun u hu => (by cases hu)⟩
    refine Ap.anyK_app2 (j0 := 0) (j1 := 4) (j2 := 6) (j3 := 7) (fuel := 2) (cs := #[.int .i64 t]) eltT wr.heap.size (.inl (by decide +kernel)) (.inl (by decide +kernel)) (by decide +kernel) (by decide +kernel) (by decide +kernel) (by decide +kernel) (by decide) rfl rfl rfl rfl ⟨rfl, rfl, rfl, rfl⟩ (by decide) ⟨rfl, rfl, rfl, rfl⟩ rfl rfl
      (by simp [Act.put]) (fun a' X => by first | (go_simp; done) | (go_simp; rfl)) (.slice none 0 0) 0 (flatT ([].take 0)) (fun u0 u2 => ⟨by simp [Act.put, Act.eval], by simp [Act.put, Act.eval]⟩) (rd1.mono (Below.refl _ _).drew)
      (fun u0 u1 X => ⟨by first | (go_simp; done) | (go_simp; rfl), by first | (go_simp; done) | (go_simp; rfl), by first | (go_simp; done) | (go_simp; rfl)⟩) rfl (by intro u hu; simp at hu; subst hu; rfl) (by unfold maxLen; omega) (by omega) (Nat.le_refl _)
      (fun X hb => ⟨trivial, trivial⟩) ?_
    intro u0 u1 u2 v0 X ho hb
    obtain ⟨v1, X1, hrun, hown, _, hbel⟩ := Ap.run_app eltT 113 wr.heap.size v0 (0 + 1) _ ho _ 0 _ ((rd2.mono (Below.refl _ _).drew).mono hb) (by unfold maxLen; omega) (by omega) (hb.size)
    refine Ap.anyK_val1 (i := 11) (v := v1) (w' := X1) (by decide +kernel) rfl rfl (Ap.exec_app rfl (by simp [Act.put, Act.eval]) (by simp [Act.put, Act.eval]) hrun) ⟨trivial, trivial⟩ ?_
    have hl2 : 0 + 1 + 0 = (([] : List Int).take 0 ++ t :: [].drop 0).length := by simp
    have hf2 : flatT ([].take 0) ++ [Value.int .i64 t] ++ flatT ([].drop 0) = flatT (([] : List Int).take 0 ++ t :: [].drop 0) := by simp [flatT]
    have hO := Lib.hid (show RowT X1 v1 (addT F [] t) from by
      rw [E2.out]
      refine RowT.own (B := wr.heap.size) ?_ (by simp)
      rw [← hl2, ← hf2]
      exact hown)
    have hB := Lib.hid (show Below wr.heap.size wr X1 from Below.trans (Below.drew (Below.refl _ _)) (Below.trans hb hbel))
    clear hown hrun hbel ho hb rd1 rd2 hl2 hf2
    obtain ⟨ga, ca, hva, hrest⟩ := hO.out
    clear hrest ht hd hdd E2
    obtain ⟨na, hna⟩ : ∃ n, n = (addT F [] t).length := ⟨_, rfl⟩
    rw [← hna] at hva
    clear hna
    subst hva
    refine Ap.anyK_val1 (i := 12) (v := .slice (some ⟨ga, 0, none⟩) na ca) (w' := X1) (by decide +kernel) rfl rfl (by first | (go_simp; done) | (go_simp; rfl)) ⟨trivial, trivial⟩ ?_
    refine Ap.wpAnyK_done (by decide +kernel) ?_ _
    go_wp2_with fail
    all_goals (
      go_ret
      refine ⟨.slice (some ⟨ga, 0, none⟩) na ca, ?_, hO.out, hB.out⟩
      first | (simp [Act.put]; done) | rfl)
theorem raddT_any {w : World} {v : Value} {l : List Int} (h : RowV w v l) (hlen : l.length ≤ 1073741824) (F t : Int) :
    Calls Try.prog 152 #[v, .int .i64 F, .int .i64 t] w fun e w' => ∃ v', e = .returned v' ∧ RowV w' v' (addT F l t) ∧ Below w.heap.size w w' := by
  by_cases ht : t < F ∨ t ≥ 1099511627776
  · exact radd_out h F t ht
  · rcases h with ⟨rfl, rfl⟩ | h
    · exact (radd_nil F t w ht).mono fun e w' ⟨v', h1, h2, h3⟩ => ⟨v', h1, .inr h2, h3⟩
    · exact (radd_in h hlen F t ht).mono fun e w' ⟨v', h1, h2, h3⟩ => ⟨v', h1, .inr h2, h3⟩
end Go.Proofs.Ytbhnjmdlagjfbaa
namespace Go.Proofs.Ytbhnjmdlagjfbaa
set_option linter.unusedVariables false
open Go.ChangeShapes Go.WideShapes Go.ChangeAt Go.RowKit
theorem addT_mem (F : Int) (l : List Int) (t x : Int) : x ∈ addT F l t ↔ x ∈ l ∨ (x = t ∧ F ≤ t ∧ t < 1099511627776) := by
  unfold addT
  split
  · rename_i h
    constructor
    · exact .inl
    · rintro (h1 | ⟨_, h2, h3⟩)
      · exact h1
      · omega
  · rename_i h
    rw [insT_mem]
    constructor
    · rintro (h1 | h1)
      · exact .inr ⟨h1, by omega, by omega⟩
      · exact .inl h1
    · rintro (h1 | ⟨h1, _, _⟩)
      · exact .inr h1
      · exact .inl h1
theorem addT_sorted (F : Int) (l : List Int) (t : Int) (h : l.Pairwise (· < ·)) : (addT F l t).Pairwise (· < ·) := by
  unfold addT
  split
  · exact h
  · exact insT_sorted l t h
/-- what a beginning of a step adds -/
def threeT (F m : Int) (out : List Int) (b : Int) : List Int := addT F (addT F (addT F out b) (b - m)) (b - m + 1)
/-- the document's times -/
def timesF (C : List ChgC) (F m : Int) : List Int := (timesU C).foldl (threeT F m) (addT F [] F)
theorem threeT_mem (F m : Int) (out : List Int) (b x : Int) : x ∈ threeT F m out b ↔ x ∈ out ∨ ((x = b ∨ x = b - m ∨ x = b - m + 1) ∧ F ≤ x ∧ x < 1099511627776) := by
  unfold threeT
  rw [addT_mem, addT_mem, addT_mem]
  constructor
  · rintro (((h | ⟨h1, h2, h3⟩) | ⟨h1, h2, h3⟩) | ⟨h1, h2, h3⟩)
    · exact .inl h
    · exact .inr ⟨.inl h1, by omega, by omega⟩
    · exact .inr ⟨.inr (.inl h1), by omega, by omega⟩
    · exact .inr ⟨.inr (.inr h1), by omega, by omega⟩
  · rintro (h | ⟨h1 | h1 | h1, h2, h3⟩)
    · exact .inl (.inl (.inl h))
    · exact .inl (.inl (.inr ⟨h1, by omega, by omega⟩))
    · exact .inl (.inr ⟨h1, by omega, by omega⟩)
    · exact .inr ⟨h1, by omega, by omega⟩
theorem three_fold (F m : Int) : ∀ (T out : List Int) (x : Int), x ∈ T.foldl (threeT F m) out ↔ x ∈ out ∨ ((∃ b ∈ T, x = b ∨ x = b - m ∨ x = b - m + 1) ∧ F ≤ x ∧ x < 1099511627776)
  | [], out, x => by simp
  | b :: T, out, x => by
    rw [List.foldl_cons, three_fold F m T, threeT_mem]
    constructor
    · rintro ((h | ⟨h1, h2⟩) | ⟨⟨c, hc, h1⟩, h2⟩)
      · exact .inl h
      · exact .inr ⟨⟨b, List.mem_cons_self, h1⟩, h2⟩
      · exact .inr ⟨⟨c, List.mem_cons_of_mem _ hc, h1⟩, h2⟩
    · rintro (h | ⟨⟨c, hc, h1⟩, h2⟩)
      · exact .inl (.inl h)
      · rcases List.mem_cons.1 hc with rfl | hc
        · exact .inl (.inr ⟨h1, h2⟩)
        · exact .inr ⟨⟨c, hc, h1⟩, h2⟩
theorem timesF_mem (C : List ChgC) (F m x : Int) : x ∈ timesF C F m ↔ F ≤ x ∧ x < 1099511627776 ∧ (x = F ∨ ∃ b ∈ timesU C, x = b ∨ x = b - m ∨ x = b - m + 1) := by
  unfold timesF
  rw [three_fold, addT_mem]
  constructor
  · rintro ((h | ⟨h1, h2, h3⟩) | ⟨h1, h2, h3⟩)
    · cases h
    · exact ⟨by omega, by omega, .inl h1⟩
    · exact ⟨h2, h3, .inr h1⟩
  · rintro ⟨h1, h2, h3 | h3⟩
    · exact .inl (.inr ⟨h3, by omega, by omega⟩)
    · exact .inr ⟨h3, h1, h2⟩
theorem timesF_sorted (C : List ChgC) (F m : Int) : (timesF C F m).Pairwise (· < ·) := by
  unfold timesF
  have key : ∀ (T out : List Int), out.Pairwise (· < ·) → (T.foldl (threeT F m) out).Pairwise (· < ·) := by
    intro T
    induction T with
    | nil => exact fun out h => h
    | cons b T ih => exact fun out h => ih _ (addT_sorted _ _ _ (addT_sorted _ _ _ (addT_sorted _ _ _ h)))
  exact key _ _ (addT_sorted _ _ _ List.Pairwise.nil)
theorem three_len (F m : Int) : ∀ (T out : List Int), (T.foldl (threeT F m) out).length ≤ out.length + 3 * T.length
  | [], out => by simp
  | b :: T, out => by
    rw [List.foldl_cons, List.length_cons]
    have h1 := three_len F m T (threeT F m out b)
    have h2 := addT_len F out b
    have h3 := addT_len F (addT F out b) (b - m)
    have h4 := addT_len F (addT F (addT F out b) (b - m)) (b - m + 1)
    unfold threeT at h1
    unfold threeT
    omega
theorem startsGo_ends (F m W : Int) : ∀ (rs : List (Int × Int × Int)) (o : Option Int) (s : Int × Int), s ∈ startsGo F m W rs o → (∃ a, (o = some a ∨ ∃ r ∈ rs, r.1 = a) ∧ s.1 = max a F) ∧ (s.2 = 1099511627776 ∨ ∃ r ∈ rs, s.2 = r.1 - m + 1)
  | [], none, s, h => by unfold startsGo at h; cases h
  | [], some a, s, h => by
    unfold startsGo at h
    split at h
    · simp only [List.mem_singleton] at h
      subst h
      exact ⟨⟨a, .inl rfl, rfl⟩, .inl rfl⟩
    · cases h
  | r :: rs, none, s, h => by
    unfold startsGo at h
    obtain ⟨⟨a, h1, h2⟩, h3⟩ := startsGo_ends F m W rs _ s h
    refine ⟨⟨a, .inr ?_, h2⟩, ?_⟩
    · rcases h1 with h1 | ⟨r', hr', h1⟩
      · split at h1
        · injection h1 with h1; exact ⟨r, List.mem_cons_self, h1⟩
        · cases h1
      · exact ⟨r', List.mem_cons_of_mem _ hr', h1⟩
    · exact h3.imp id fun ⟨r', hr', h3⟩ => ⟨r', List.mem_cons_of_mem _ hr', h3⟩
  | r :: rs, some a, s, h => by
    unfold startsGo at h
    split at h
    · obtain ⟨⟨a', h1, h2⟩, h3⟩ := startsGo_ends F m W rs _ s h
      refine ⟨⟨a', ?_, h2⟩, h3.imp id fun ⟨r', hr', h3⟩ => ⟨r', List.mem_cons_of_mem _ hr', h3⟩⟩
      exact h1.imp id fun ⟨r', hr', h1⟩ => ⟨r', List.mem_cons_of_mem _ hr', h1⟩
    · rcases List.mem_append.1 h with h | h
      · split at h
        · cases h
        · simp only [List.mem_singleton] at h
          subst h
          exact ⟨⟨a, .inl rfl, rfl⟩, .inr ⟨r, List.mem_cons_self, rfl⟩⟩
      · obtain ⟨⟨a', h1, h2⟩, h3⟩ := startsGo_ends F m W rs _ s h
        refine ⟨⟨a', ?_, h2⟩, h3.imp id fun ⟨r', hr', h3⟩ => ⟨r', List.mem_cons_of_mem _ hr', h3⟩⟩
        rcases h1 with h1 | ⟨r', hr', h1⟩
        · cases h1
        · exact .inr ⟨r', List.mem_cons_of_mem _ hr', h1⟩
theorem list_times (first : Int) (C : List ChgC) : ∀ p ∈ listR first C, p.1 ∈ timesU C := by
  unfold listR
  have key : ∀ (ts : List Int) (l : List (Int × Int)), (∀ p ∈ l, p.1 ∈ timesU C) → (∀ t ∈ ts, t ∈ timesU C) → ∀ p ∈ ts.foldl (fun l t => layU l t (ratU first C t)) l, p.1 ∈ timesU C := by
    intro ts
    induction ts with
    | nil => exact fun l hl _ => hl
    | cons t r ih =>
      intro l hl ht
      rw [List.foldl_cons]
      refine ih _ (fun p hp => ?_) fun t' ht' => ht t' (List.mem_cons_of_mem _ ht')
      unfold layU at hp
      split at hp
      · exact hl p hp
      · rcases List.mem_append.1 hp with hp | hp
        · exact hl p hp
        · rw [List.mem_singleton.1 hp]
          exact ht t List.mem_cons_self
  exact key _ _ (fun p hp => by cases hp) fun t ht => ht
theorem runs_mem {L : List (Int × Int)} {r : Int × Int × Int} (h : r ∈ runsU L) : ∃ p ∈ L, p.1 = r.1 := by
  obtain ⟨k, hk, e⟩ := List.mem_iff_getElem.1 h
  have hk' : k < L.length := by unfold runsU at hk; simpa using hk
  have hd := runsU_drop' hk'
  rw [List.drop_eq_getElem_cons hk] at hd
  injection hd with hd _
  refine ⟨L.getD k (0, 0), getD_mem hk', ?_⟩
  rw [← e, hd]
/-- where a span that is told begins and ends -/
theorem ends_times {first : Int} {L : List (Int × Int)} {C : List ChgC} (hlk : LikeU first L C) (hr : RightU L) {F m W : Int} {s : Int × Int} (hs : s ∈ startsU L F m W) (hlow : F ≤ s.1 ∧ s.1 < s.2 ∧ s.2 ≤ 1099511627776) :
    s.1 ∈ timesF C F m ∧ (s.2 = 1099511627776 ∨ s.2 ∈ timesF C F m) := by
  have hT : ∀ r ∈ runsU L, r.1 ∈ timesU C := fun r h => by
    obtain ⟨p, hp, e⟩ := runs_mem h
    rw [← like_list hlk hr] at hp
    rw [← e]
    exact list_times first C p hp
  obtain ⟨⟨a, h1, h2⟩, h3⟩ := startsGo_ends F m W _ _ s hs
  refine ⟨?_, ?_⟩
  · rw [timesF_mem]
    refine ⟨hlow.1, by omega, ?_⟩
    rcases h1 with h1 | ⟨r, hr', h1⟩
    · cases h1
    · by_cases hc : F < a
      · exact .inr ⟨r.1, hT r hr', .inl (by omega)⟩
      · exact .inl (by omega)
  · rcases Int.lt_or_le s.2 1099511627776 with hc | hc
    · right
      rcases h3 with h3 | ⟨r, hr', h3⟩
      · omega
      · rw [timesF_mem]
        exact ⟨by omega, hc, .inr ⟨r.1, hT r hr', .inr (.inr h3)⟩⟩
    · exact .inl (by omega)
/-- the first of the times that is good -/
def findT (p : Int → Bool) (l : List Int) : Int := (l.find? p).getD 1099511627776
theorem find_first {g : Int → Int} {F m W : Int} {R : List (Int × Int)} (hS : StartsOk g F m W 0 R) {T : List Int} (hs : T.Pairwise (· < ·)) (hT : ∀ x ∈ T, 0 ≤ x ∧ F ≤ x ∧ x < 1099511627776) (hR : ∀ s ∈ R, s.1 ∈ T) {p : Int → Bool} (hp : ∀ x ∈ T, p x = true ↔ GoodF g m W x) : findT p T = firstU R := by
  unfold findT
  cases R with
  | nil =>
    have : T.find? p = none := List.find?_eq_none.2 fun x hx h => by
      obtain ⟨h0, h1, h2⟩ := hT x hx
      obtain ⟨s, hs', _⟩ := (hS.iff x h0 h2).2 ⟨h1, (hp x hx).1 h⟩
      cases hs'
    rw [this]
    rfl
  | cons s r =>
    obtain ⟨q1, q2, q3, q4⟩ := hS.low s List.mem_cons_self
    have hsm := hR s List.mem_cons_self
    have hgood : p s.1 = true := (hp s.1 hsm).2 ((hS.iff s.1 q1 (by omega)).1 ⟨s, List.mem_cons_self, Int.le_refl _, q3⟩).2
    have hnot : ∀ x ∈ T, x < s.1 → ¬ p x = true := fun x hx hlt h => by
      obtain ⟨h0, h1, h2⟩ := hT x hx
      obtain ⟨s', hs', p1, p2⟩ := (hS.iff x h0 h2).2 ⟨h1, (hp x hx).1 h⟩
      rcases List.mem_cons.1 hs' with rfl | hs'
      · omega
      · have := (List.pairwise_cons.1 hS.rise).1 s' hs'
        omega
    have key : ∀ (l : List Int), l.Pairwise (· < ·) → s.1 ∈ l → (∀ x ∈ l, x < s.1 → ¬ p x = true) → l.find? p = some s.1 := by
      intro l
      induction l with
      | nil => intro _ h _; cases h
      | cons y l ih =>
        intro hp1 hm hn
        rcases List.mem_cons.1 hm with e | hm
        · rw [← e, List.find?_cons_of_pos hgood]
        · have hy := (List.pairwise_cons.1 hp1).1 _ hm
          rw [List.find?_cons_of_neg (hn y List.mem_cons_self hy)]
          exact ih (List.pairwise_cons.1 hp1).2 hm fun x hx => hn x (List.mem_cons_of_mem _ hx)
    rw [key T hs hsm hnot]
    rfl
end Go.Proofs.Ytbhnjmdlagjfbaa
namespace Go.Proofs.Ytbhnjmdlagjfbaa
set_option linter.unusedVariables false
open Go.ChangeShapes Go.WideShapes Go.ChangeAt Go.RowKit
attribute [local go_sem high] run_mxS
attribute [local go_sem ↓] Go.wp_at_zero Go.wp_at_succ comesTo_value_eq comesTo_skip_eq comesTo_enter_eq

theorem RowV.form {w : World} {v : Value} {l : List Int} (h : RowV w v l) : ∃ ad c, v = .slice ad l.length c ∧ (0 < l.length → ∃ g, ad = some ⟨g, 0, none⟩ ∧ g < w.heap.size ∧ ∀ k, k < l.length → w.cell? ⟨g, k, none⟩ = some (.int .i64 (l.getD k 0))) := by
  rcases h with ⟨rfl, e⟩ | ⟨g, c, e, hc, hg, hr⟩
  · exact ⟨none, 0, e, fun h => absurd h (Nat.lt_irrefl 0)⟩
  · exact ⟨_, c, e, fun _ => ⟨g, rfl, hg, hr⟩⟩
theorem take_next {l : List Int} {k : Nat} (h : k < l.length) {α : Type} (f : α → Int → α) (a : α) : (l.take (k + 1)).foldl f a = f ((l.take k).foldl f a) (l.getD k 0) := by
  rw [List.take_add_one, List.foldl_append, List.getElem?_eq_getElem h, List.getD_eq_getElem?_getD, List.getElem?_eq_getElem h]
  rfl
set_option maxRecDepth 100000 in
set_option maxHeartbeats 4000000 in
theorem rtimesF_any {w : World} {v : Value} {C : List ChgC} (h : RowC w v C) (hlen : C.length ≤ 24) (first F many m : Int) (hm : 1 ≤ m ∧ m ≤ 1099511627776) (hmm : mxS many 1 = m) :
    Calls Try.prog 123 #[.agg #[.int .i64 first, v], .int .i64 F, .int .i64 many] w fun e w' => ∃ v', e = .returned v' ∧ RowV w' v' (timesF C F m) ∧ Below w.heap.size w w' := by
  have hmx : Try.prog.follows .mixedOrders = true := by kernel_rfl
  obtain ⟨ad, cp, hv⟩ := h.form
  have hb0 := below_alloc (Below.refl _ w) (.cells #[.int .i64 first, v] 28)
  have n0 := World.alloc_heap_new w (.cells #[.int .i64 first, v] 28)
  have H := Lib.hid (rtimes_list (h.below hb0) (by omega) first)
  have hT := timesU_times C
  have hTl := timesU_len C
  obtain ⟨B, hB⟩ : ∃ B, B = timesU C := ⟨_, rfl⟩
  obtain ⟨A0, hA0⟩ : ∃ x, x = addT F [] F := ⟨_, rfl⟩
  obtain ⟨res, hres⟩ : ∃ r, r = timesF C F m := ⟨_, rfl⟩
  rw [← hres]
  unfold timesF at hres
  have hA0l := addT_len F [] F
  have KA := Lib.hid (fun W => hA0 ▸ raddT_any (w := W) (v := .slice none 0 0) (l := []) (.inl ⟨rfl, rfl⟩) (by decide) F F)
  rw [← hB, ← hA0] at hres
  rw [← hB] at H hT hTl
  rw [← hA0] at hA0l
  have HRes := Lib.hid hres
  clear h hB hA0 hres
  subst hv
  go_enter Try.func123, Try.ntmps123
  go_upto_region 2 with fail
  generalize w.alloc (.cells #[.int .i64 first, .slice ad C.length cp] 28) = W at *
  have c0 := cell_of_block (o := 0) n0 rfl
  have c1 := cell_of_block (o := 1) n0 rfl
  go_wp2_with fail
  refine H.out.mono ?_
  rintro e W1 ⟨vt, rfl, ⟨g, c, rfl, hcap, hg, hr⟩, hb1⟩
  have HB1 := Lib.hid (below_next hb0 hb1)
  have HRow := Lib.hid hr
  clear hb0 hb1 hr n0 c0 c1 H
  go_wp2_with fail
  refine (KA.out _).mono ?_
  rintro e W2 ⟨v0, rfl, hv0, hb2⟩
  have HB2 := Lib.hid (below_next HB1.out hb2)
  have HR2 := Lib.hid (fun k (hk : k < B.length) => (hb2.cell (p := ⟨g, k, none⟩) hg).trans (HRow.out k hk))
  have hg2 : g < W2.heap.size := Nat.lt_of_lt_of_le hg hb2.size
  have HV0 := Lib.hid hv0
  clear hb2 hv0
  obtain ⟨ad0, c0, e0, hq⟩ := HV0.out.form; clear hq
  subst e0
  clear HRow hg
  go_wp2_with fail
  go_loopw [7, 9] (fun z i wr => ∃ k : Nat, k ≤ B.length ∧ i = .int .i64 k ∧ RowV wr z ((B.take k).foldl (threeT F m) A0) ∧ Below W2.heap.size W2 wr) (fun _ i _ => B.length - (intOf i).toNat)
  case atStart => exact ⟨0, Nat.zero_le _, rfl, HV0.out, Below.refl _ _⟩
  case round =>
    obtain ⟨k, hk, rfl, hz, hbr⟩ := hrel
    have hln := three_len F m (B.take k) A0
    rw [List.length_take] at hln
    simp only [List.length_nil] at hA0l
    have HZ := Lib.hid hz
    obtain ⟨adz, cz, ez, hq⟩ := hz.form; clear hq
    clear hz
    by_cases hlt : k < B.length
    case neg =>
      have hd : decide (k < B.length) = false := decide_eq_false hlt
      obtain rfl : k = B.length := by omega
      rw [List.take_length, ← HRes.out] at HZ ez
      rw [List.take_length] at hln
      obtain ⟨nl, hnl⟩ : ∃ n, n = res.length := ⟨_, rfl⟩
      rw [← hnl] at ez
      subst ez
      go_wp2_with fail
      go_ret
      exact ⟨_, rfl, HZ.out, HB2.out.trans (hbr.mono HB2.out.size)⟩
    case pos =>
      have hd : decide (k < B.length) = true := decide_eq_true hlt
      have hix : (k : Int) < (B.length : Int) := by omega
      have hw1 : IntKind.i64.wrap ((k : Int) + 1) = ((k + 1 : Nat) : Int) := by rw [IntKind.wrap_i64]; omega
      have c0 := (hbr.cell (p := ⟨g, k, none⟩) hg2).trans (HR2.out k hlt)
      have hnx := take_next hlt (threeT F m) A0
      have hbd : 0 ≤ B.getD k 0 ∧ B.getD k 0 < 1099511627776 := by
        have hmem : B.getD k 0 ∈ B := by rw [List.getD_eq_getElem?_getD, List.getElem?_eq_getElem hlt]; exact List.getElem_mem hlt
        exact hT.hi _ hmem
      obtain ⟨b, hbe⟩ : ∃ b, b = B.getD k 0 := ⟨_, rfl⟩
      rw [← hbe] at c0 hnx hbd
      clear hbe
      obtain ⟨l, hl⟩ : ∃ l, l = (B.take k).foldl (threeT F m) A0 := ⟨_, rfl⟩
      rw [← hl] at HZ hnx hln ez
      obtain ⟨nl, hnl⟩ : ∃ n, n = l.length := ⟨_, rfl⟩
      rw [← hnl] at ez
      subst ez
      have l1 := addT_len F l b
      have l2 := addT_len F (addT F l b) (b - m)
      have HNX := Lib.hid (show (B.take (k + 1)).foldl (threeT F m) A0 = addT F (addT F (addT F l b) (b - m)) (b - m + 1) from hnx)
      have hws : IntKind.i64.wrap (b - m) = b - m := by rw [IntKind.wrap_i64]; omega
      have hws2 : IntKind.i64.wrap (b - m + 1) = b - m + 1 := by rw [IntKind.wrap_i64]; omega
      have HLs := Lib.hid (show l.length ≤ 1000 ∧ (addT F l b).length ≤ 1000 ∧ (addT F (addT F l b) (b - m)).length ≤ 1000 by omega)
      clear hnx hl hnl l1 l2 hln hA0l hTl
      go_wp2_with fail
      refine (raddT_any HZ.out (by have := HLs.out; omega) F b).mono ?_
      rintro e X1 ⟨z1, rfl, hz1, hx1⟩
      have d0 := (hx1.cell (p := ⟨g, k, none⟩) (Nat.lt_of_lt_of_le hg2 hbr.size)).trans c0
      have HX1 := Lib.hid (below_next hbr hx1)
      have HZ1 := Lib.hid hz1
      obtain ⟨ad1, c1, e1, hq⟩ := hz1.form; clear hq
      obtain ⟨n1, hn1⟩ : ∃ n, n = (addT F l b).length := ⟨_, rfl⟩
      rw [← hn1] at e1
      subst e1
      clear hn1 hx1 hz1 c0
      go_wp2_with fail
      refine (raddT_any HZ1.out (by have := HLs.out; omega) F (b - m)).mono ?_
      rintro e X2 ⟨z2, rfl, hz2, hx2⟩
      have d1 := (hx2.cell (p := ⟨g, k, none⟩) (Nat.lt_of_lt_of_le hg2 HX1.out.size)).trans d0
      have HX2 := Lib.hid (below_next HX1.out hx2)
      have HZ2 := Lib.hid hz2
      obtain ⟨ad2, c2, e2, hq⟩ := hz2.form; clear hq
      obtain ⟨n2, hn2⟩ : ∃ n, n = (addT F (addT F l b) (b - m)).length := ⟨_, rfl⟩
      rw [← hn2] at e2
      subst e2
      clear hn2 hx2 hz2 d0
      go_wp2_with fail
      refine (raddT_any HZ2.out (by have := HLs.out; omega) F (b - m + 1)).mono ?_
      rintro e X3 ⟨z3, rfl, hz3, hx3⟩
      have HX3 := Lib.hid (below_next HX2.out hx3)
      have HZ3 := Lib.hid hz3
      obtain ⟨ad3, c3, e3, hq⟩ := hz3.form; clear hq
      obtain ⟨n3, hn3⟩ : ∃ n, n = (addT F (addT F (addT F l b) (b - m)) (b - m + 1)).length := ⟨_, rfl⟩
      rw [← hn3] at e3
      subst e3
      clear hn3 hx3 hz3 d1
      go_wp2_with fail
      exact ⟨⟨k + 1, by omega, rfl, by rw [HNX.out]; exact HZ3.out, HX3.out⟩, by show B.length - (((k + 1 : Nat) : Int)).toNat < B.length - ((k : Int)).toNat; omega⟩
end Go.Proofs.Ytbhnjmdlagjfbaa
namespace Go.Proofs.Ytbhnjmdlagjfbaa
set_option linter.unusedVariables false
open Go.ChangeShapes Go.WideShapes Go.ChangeAt Go.RowKit
def mnL (x y : Int) : Int := if y < x then y else x
theorem run_mnL {P : Program} (w : World) (ts : Array TypeId) (t : TypeId) (k k' : IntKind) (x y : Int) : (Builtin.min_ ts t #[.int k x, .int k' y]).run P w = .ok (.int k (mnL x y)) w := run_min_int2 w ts t k k' x y
attribute [local go_sem high] run_mxS run_mnL
attribute [local go_sem ↓] Go.wp_at_zero Go.wp_at_succ comesTo_value_eq comesTo_skip_eq comesTo_enter_eq Rl.comesToR_value_eq Rl.comesToR_skip_eq Rl.comesToR_enter_eq

/-- the least level from a time on, for m times -/
def leastU (L : List (Int × Int)) (t m : Int) : Int := if t = 1099511627776 then atU L t else chooseU minU L (t, addI t m)
theorem rat_like {first : Int} {L : List (Int × Int)} {C : List ChgC} (hlk : LikeU first L C) (hr : RightU L) (t : Int) : ratU first C t = atU L t := by
  have hb := clampI_le t
  rw [at_spec hr t]
  unfold ratU
  rw [hlk (min (clampI t) 1099511627775) (by omega) (by omega)]
  congr 2
  split <;> omega
theorem in_some {first : Int} {L : List (Int × Int)} {C : List ChgC} (hlk : LikeU first L C) {f t : Int} (h : clampI f < clampI t) : inL first C f t ≠ [] := by
  have hk := inL_ok (first := first) (C := C) h
  have hF := clampI_bounds f
  have hT := clampI_bounds t
  obtain ⟨p0, hp0, _⟩ := hk.all (clampI f) hF.1 (by omega) (by omega) h
  intro e
  rw [e] at hp0
  cases hp0
theorem pick_mn (V : List Int) : V.foldl mnL (V.getD 0 0) = pickL (fun a b => decide (a < b)) V := by
  cases V with
  | nil => rfl
  | cons v vs =>
    unfold pickL
    rw [List.getD_cons_zero, List.foldl_cons]
    have h1 : mnL v v = v := by unfold mnL; split <;> rfl
    rw [h1]
    have h2 : (fun m y => if decide (y < m) = true then y else m) = mnL := by
      funext m y
      unfold mnL
      simp only [decide_eq_true_eq]
    rw [← h2]
theorem find_at {p : Int → Bool} : ∀ (T : List Int) (k : Nat), k < T.length → (∀ j, j < k → p (T.getD j 0) = false) → p (T.getD k 0) = true → findT p T = T.getD k 0
  | [], k, h, _, _ => absurd h (Nat.not_lt_zero _)
  | y :: r, 0, _, _, h => by
    unfold findT
    rw [List.getD_cons_zero] at h ⊢
    rw [List.find?_cons_of_pos h]
    rfl
  | y :: r, k + 1, hk, hn, h => by
    have h0 := hn 0 (by omega)
    rw [List.getD_cons_zero] at h0
    have ih := find_at r k (by simpa using hk) (fun j hj => by have := hn (j + 1) (by omega); rwa [List.getD_cons_succ] at this) (by rwa [List.getD_cons_succ] at h)
    unfold findT at ih ⊢
    rw [List.find?_cons_of_neg (by rw [h0]; decide), ih, List.getD_cons_succ]
theorem find_no {p : Int → Bool} {T : List Int} (h : ∀ j, j < T.length → p (T.getD j 0) = false) : findT p T = 1099511627776 := by
  unfold findT
  rw [List.find?_eq_none.2]
  · rfl
  · intro x hx
    obtain ⟨j, hj, rfl⟩ := List.mem_iff_getElem.1 hx
    have := h j hj
    rw [List.getD_eq_getElem?_getD, List.getElem?_eq_getElem hj] at this
    rw [show T[j] = (some T[j]).getD 0 from rfl, this]
    decide
set_option maxRecDepth 100000 in
set_option maxHeartbeats 4000000 in
theorem rleast_any {w : World} {v : Value} {C : List ChgC} {L : List (Int × Int)} (h : RowC w v C) (hlen : C.length ≤ 24) {first : Int} (hlk : LikeU first L C) (hr : RightU L) (t many m : Int) (ht : 0 ≤ t ∧ t ≤ 1099511627776) (hm : 1 ≤ m ∧ m ≤ 1099511627776) (hmm : mxS many 1 = m) :
    Calls Try.prog 153 #[.agg #[.int .i64 first, v], .int .i64 t, .int .i64 many] w fun e w' => e = .returned (.int .i64 (leastU L t m)) ∧ Below w.heap.size w w' := by
  have hmx : Try.prog.follows .mixedOrders = true := by kernel_rfl
  obtain ⟨ad, cp, hv⟩ := h.form
  have hb0 := below_alloc (Below.refl _ w) (.cells #[.int .i64 first, v] 28)
  have n0 := World.alloc_heap_new w (.cells #[.int .i64 first, v] 28)
  have HRow := Lib.hid (h.below hb0)
  clear h
  subst hv
  have e1 : clampI t = t := clampI_of ht.1 ht.2
  have hal : addI t m = if t + m ≤ 1099511627776 then t + m else 1099511627776 := addI_of ht.1 ht.2 (by omega) hm.2
  have e2 : clampI (addI t m) = addI t m := clampI_of (by rw [hal]; split <;> omega) (by rw [hal]; split <;> omega)
  obtain ⟨M, hM⟩ : ∃ M, M = inL first C t (addI t m) := ⟨_, rfl⟩
  have KI := Lib.hid (show ∀ W, RowC W (.slice ad C.length cp) C → Calls Try.prog 58 #[.agg #[.int .i64 first, .slice ad C.length cp], .agg #[.int .i64 t, .int .i64 (addI t m)]] W fun e w' => ∃ v1 v2, e = .returned (.tuple #[v1, v2]) ∧ OwnN w' W.heap.size 3 v1 (M.map (·.1)) ∧ OwnN w' W.heap.size 2 v2 (M.map (·.2)) ∧ Below W.heap.size W w' from fun W hW => hM ▸ rin_any hW (by omega) first t (addI t m))
  have HL := Lib.hid (show M ≠ [] → leastU L t m = pickL (fun a b => decide (a < b)) (M.map (·.1)) from fun hne => by
    unfold leastU
    rw [if_neg (fun e => hne (by
      rw [hM]
      unfold inL
      have : cleanI (t, addI t m) = (0, 0) := by
        unfold cleanI
        simp only
        rw [if_pos]
        rw [e1, e2, hal, e]
        split <;> omega
      rw [this]
      exact in_none first C _)), hM, (in_least hlk hr t (addI t m)).1])
  have HN := Lib.hid (show M = [] → leastU L t m = ratU first C t from fun he => by
    unfold leastU
    by_cases hc : t = 1099511627776
    · rw [if_pos hc, rat_like hlk hr]
    · exact absurd (hM.symm.trans he) (in_some hlk (by rw [e1, e2, hal]; split <;> omega)))
  have hMl : M.length ≤ 1048576 := by
    rw [hM]
    unfold inL
    rw [← inPre_all]
    have h1 := inPre_len first C (cleanI (t, addI t m)) (putT (timesU C) (cleanI (t, addI t m)).1) (putT (timesU C) (cleanI (t, addI t m)).1).length
    have h2 := putT_len (timesU C) (cleanI (t, addI t m)).1
    have h3 := timesU_len C
    omega
  have KA := Lib.hid (fun (W : World) (hW : RowC W (.slice ad C.length cp) C) => rat_any hW (by omega) first t)
  obtain ⟨res, hres⟩ : ∃ r, r = leastU L t m := ⟨_, rfl⟩
  rw [← hres] at HL HN ⊢
  obtain ⟨en, hen⟩ : ∃ x, x = addI t m := ⟨_, rfl⟩
  have KAd := Lib.hid (fun W => hen ▸ radd_any t m W)
  rw [← hen] at KI
  clear hres hM e1 e2 hal hen
  go_enter Try.func153, Try.ntmps153
  go_upto_region 1 with fail
  generalize w.alloc (.cells #[.int .i64 first, .slice ad C.length cp] 28) = W at *
  refine Ap.wp_region_K (S1 := (fun X : World => X.heap[w.heap.size]? = some (.cells #[.int .i64 first, .slice ad C.length cp] 28 (0, 0)))) (S2 := fun _ => True) (js := 12) hmx ?_
  change Ap.wpAnyK _ _ _ _ _ _ _ 13 _ _ W.drew
  have hw0 := (Array.getElem?_eq_some_iff.1 n0).1
  have hSS : (fun X : World => X.heap[w.heap.size]? = some (.cells #[.int .i64 first, .slice ad C.length cp] 28 (0, 0))) W.drew ∧ (fun _ : World => True) W.drew := ⟨n0, trivial⟩
  refine Ap.wpAnyK_take1 (i := 0) (v := .agg #[.int .i64 first, .slice ad C.length cp]) rfl (by decide) (by decide +kernel) (by decide +kernel) (by decide +kernel) (fun _ _ _ h => h) (.inl ⟨by first | rfl | (go_simp; done), fun X hX => by have hx1 := cell_of_block (o := 0) hX rfl; have hx2 := cell_of_block (o := 1) hX rfl; clear hX; first | (go_simp; done) | (go_simp; rfl)⟩) hSS ?_
  refine Ap.wpAnyK_take1 (i := 1) (v := .int .i64 t) rfl (by decide) (by decide +kernel) (by decide +kernel) (by decide +kernel) (fun _ _ _ h => h) (.inl ⟨by first | rfl | (go_simp; done), fun X hX => by have hx1 := cell_of_block (o := 0) hX rfl; have hx2 := cell_of_block (o := 1) hX rfl; clear hX; first | (go_simp; done) | (go_simp; rfl)⟩) hSS ?_
  refine Ap.wpAnyK_take1 (i := 2) (v := .int .i64 t) rfl (by decide) (by decide +kernel) (by decide +kernel) (by decide +kernel) (fun _ _ _ h => h) (.inl ⟨by first | rfl | (go_simp; done), fun X hX => by have hx1 := cell_of_block (o := 0) hX rfl; have hx2 := cell_of_block (o := 1) hX rfl; clear hX; first | (go_simp; done) | (go_simp; rfl)⟩) hSS ?_
  refine Ap.wpAnyK_take1 (i := 3) (v := .int .i64 many) rfl (by decide) (by decide +kernel) (by decide +kernel) (by decide +kernel) (fun _ _ _ h => h) (.inl ⟨by first | rfl | (go_simp; done), fun X hX => by have hx1 := cell_of_block (o := 0) hX rfl; have hx2 := cell_of_block (o := 1) hX rfl; clear hX; first | (go_simp; done) | (go_simp; rfl)⟩) hSS ?_
  refine Ap.wpAnyK_take1 (i := 4) (v := .int .i64 m) rfl (by decide) (by decide +kernel) (by decide +kernel) (by decide +kernel) (fun _ _ _ h => h) (.inl ⟨by first | rfl | (go_simp; done), fun X hX => by have hx1 := cell_of_block (o := 0) hX rfl; have hx2 := cell_of_block (o := 1) hX rfl; clear hX; first | (go_simp; done) | (go_simp; rfl)⟩) hSS ?_
  refine Ap.anyK_call (i := 5) (by decide +kernel) rfl rfl (by go_simp) (KAd.out _) ?_
  rintro e X ⟨rfl, rfl⟩
  refine ⟨_, rfl, ⟨hSS.1, fun _ => trivial⟩, ?_⟩
  refine Ap.wpAnyK_take1 (i := 6) (v := .agg #[.int .i64 t, .int .i64 en]) rfl (by decide) (by decide +kernel) (by decide +kernel) (by decide +kernel) (fun _ _ _ h => h) (.inl ⟨by first | rfl | (go_simp; done), fun X hX => by have hx1 := cell_of_block (o := 0) hX rfl; have hx2 := cell_of_block (o := 1) hX rfl; clear hX; first | (go_simp; done) | (go_simp; rfl)⟩) hSS ?_
  refine Ap.anyK_call (i := 7) (by decide +kernel) rfl rfl (by go_simp) (KI.out _ (HRow.out.below (Below.refl _ _).drew)) ?_
  rintro e X2 ⟨v1, v2, rfl, ho1, ho2, hbx2⟩
  have hSS2 : (fun X : World => X.heap[w.heap.size]? = some (.cells #[.int .i64 first, .slice ad C.length cp] 28 (0, 0))) X2 ∧ (fun _ : World => True) X2 := ⟨(hbx2.block _ hw0).trans n0, trivial⟩
  refine ⟨_, rfl, ⟨hSS2.1, fun _ => trivial⟩, ?_⟩
  obtain ⟨a1, c1, rfl, hf1⟩ := ho1.form
  obtain ⟨a2, c2, rfl, hf2⟩ := ho2.form
  rw [List.length_map] at *
  refine Ap.wpAnyK_take1 (i := 8) (v := .tuple #[.slice a1 M.length c1, .slice a2 M.length c2]) rfl (by decide) (by decide +kernel) (by decide +kernel) (by decide +kernel) (fun _ _ _ h => h) (.inl ⟨by first | rfl | (go_simp; done), fun X hX => by have hx1 := cell_of_block (o := 0) hX rfl; have hx2 := cell_of_block (o := 1) hX rfl; clear hX; first | (go_simp; done) | (go_simp; rfl)⟩) hSS2 ?_
  refine Ap.wpAnyK_take1 (i := 9) (v := .slice a1 M.length c1) rfl (by decide) (by decide +kernel) (by decide +kernel) (by decide +kernel) (fun _ _ _ h => h) (.inl ⟨by first | rfl | (go_simp; done), fun X hX => by have hx1 := cell_of_block (o := 0) hX rfl; have hx2 := cell_of_block (o := 1) hX rfl; clear hX; first | (go_simp; done) | (go_simp; rfl)⟩) hSS2 ?_
  refine Ap.wpAnyK_take1 (i := 10) (v := .slice a2 M.length c2) rfl (by decide) (by decide +kernel) (by decide +kernel) (by decide +kernel) (fun _ _ _ h => h) (.inl ⟨by first | rfl | (go_simp; done), fun X hX => by have hx1 := cell_of_block (o := 0) hX rfl; have hx2 := cell_of_block (o := 1) hX rfl; clear hX; first | (go_simp; done) | (go_simp; rfl)⟩) hSS2 ?_
  refine Ap.wpAnyK_take1 (i := 11) (v := .slice a1 M.length c1) rfl (by decide) (by decide +kernel) (by decide +kernel) (by decide +kernel) (fun _ _ _ h => h) (.inl ⟨by first | rfl | (go_simp; done), fun X hX => by have hx1 := cell_of_block (o := 0) hX rfl; have hx2 := cell_of_block (o := 1) hX rfl; clear hX; first | (go_simp; done) | (go_simp; rfl)⟩) hSS2 ?_
  refine Ap.anyK_val1 (i := 12) (v := .slice a2 M.length c2) (w' := X2) (by decide +kernel) rfl rfl (by first | (go_simp; done) | (go_simp; rfl)) ⟨hSS2.1, trivial⟩ ?_
  refine Ap.wpAnyK_done (by decide +kernel) ?_ _
  have HB2 := Lib.hid (below_next (Below.drew hb0) hbx2)
  have HRow2 := Lib.hid ((HRow.out.below (Below.refl _ _).drew).below hbx2)
  have N2 := Lib.hid hSS2.1
  have HF1 := Lib.hid hf1
  clear hSS hSS2 hbx2 ho1 ho2 hf1 hf2 KI HRow hb0 n0
  by_cases hM0 : M = []
  case pos =>
    have E := HN.out hM0
    subst hM0
    have c0 := cell_of_block (o := 0) N2.out rfl
    have c1 := cell_of_block (o := 1) N2.out rfl
    subst E
    go_wp2_with fail
    refine (KA.out _ HRow2.out).mono ?_
    rintro e X3 ⟨rfl, hb3⟩
    have HB3 := Lib.hid (below_next HB2.out hb3)
    clear hb3
    go_wp2_with fail
    go_ret
    exact ⟨rfl, HB3.out⟩
  case neg =>
    have E := HL.out hM0
    have hpos : 0 < M.length := List.length_pos_iff.2 hM0
    obtain ⟨g1, rfl, _, hg1, hr1⟩ := HF1.out hpos
    obtain ⟨V, hV⟩ : ∃ V, V = M.map (·.1) := ⟨_, rfl⟩
    have hVl : V.length = M.length := by rw [hV, List.length_map]
    rw [← hV, ← pick_mn] at E
    rw [← hV] at hr1
    have hq : ((M.length : Int) == 0) = false := beq_false_of_ne (by omega)
    have h00 : (0 : Int) < (M.length : Int) := by omega
    have c0 := hr1 0 hpos
    have HR1 := Lib.hid hr1
    clear hr1 hV hM0 HL HN KA
    obtain ⟨v0, hv0⟩ : ∃ x, x = V.getD 0 0 := ⟨_, rfl⟩
    rw [← hv0] at c0 E
    clear hv0
    go_wp2_with fail
    go_loopw [9, 10] (fun z i wr => ∃ k : Nat, k ≤ M.length ∧ i = .int .i64 k ∧ z = .int .i64 ((V.take k).foldl mnL v0) ∧ Below X2.heap.size X2 wr) (fun _ i _ => M.length - (intOf i).toNat)
    case atStart => exact ⟨0, Nat.zero_le _, rfl, rfl, Below.refl _ _⟩
    case round =>
      obtain ⟨k, hk, rfl, rfl, hbr⟩ := hrel
      by_cases hlt : k < M.length
      case pos =>
        have hd : decide (k < M.length) = true := decide_eq_true hlt
        have hix : (k : Int) < (M.length : Int) := by omega
        have hw1 : IntKind.i64.wrap ((k : Int) + 1) = ((k + 1 : Nat) : Int) := by rw [IntKind.wrap_i64]; omega
        have q0 := (hbr.cell (p := ⟨g1, k, none⟩) hg1).trans (HR1.out k hlt)
        have HNX := Lib.hid (take_next (l := V) (k := k) (by omega) mnL v0)
        generalize V.getD k 0 = vk at *
        generalize (V.take k).foldl mnL v0 = pk at *
        go_wp2_with fail
        exact ⟨⟨k + 1, by omega, rfl, by rw [HNX.out], hbr⟩, by show M.length - (((k + 1 : Nat) : Int)).toNat < M.length - ((k : Int)).toNat; omega⟩
      case neg =>
        have hd : decide (k < M.length) = false := decide_eq_false hlt
        obtain rfl : k = V.length := by omega
        rw [List.take_length, ← E]
        go_wp2_with fail
        go_ret
        exact ⟨rfl, HB2.out.trans (hbr.mono HB2.out.size)⟩
set_option maxRecDepth 100000 in
theorem rgood_any {w : World} {v : Value} {C : List ChgC} {L : List (Int × Int)} (h : RowC w v C) (hlen : C.length ≤ 24) {first : Int} (hlk : LikeU first L C) (hr : RightU L) (t many m W : Int) (ht : 0 ≤ t ∧ t < 1099511627776) (hm : 1 ≤ m ∧ m ≤ 1099511627776) (hmm : mxS many 1 = m) :
    Calls Try.prog 125 #[.agg #[.int .i64 first, v], .int .i64 t, .int .i64 many, .int .i64 W] w fun e w' => e = .returned (.bool (decide (leastU L t m ≥ W))) ∧ Below w.heap.size w w' := by
  obtain ⟨ad, cp, hv⟩ := h.form
  have hb0 := below_alloc (Below.refl _ w) (.cells #[.int .i64 first, v] 28)
  have n0 := World.alloc_heap_new w (.cells #[.int .i64 first, v] 28)
  have K := Lib.hid (rleast_any (h.below hb0) hlen hlk hr t many m ⟨ht.1, by omega⟩ hm hmm)
  have hd : decide (t < 1099511627776) = true := decide_eq_true ht.2
  clear h
  subst hv
  generalize leastU L t m = lv at *
  go_enter Try.func125, Try.ntmps125
  go_upto_region 1 with fail
  generalize w.alloc (.cells #[.int .i64 first, .slice ad C.length cp] 28) = W0 at *
  have c0 := cell_of_block (o := 0) n0 rfl
  have c1 := cell_of_block (o := 1) n0 rfl
  go_wp2_with fail
  refine K.out.mono ?_
  rintro e W1 ⟨rfl, hb1⟩
  have HB := Lib.hid (below_next hb0 hb1)
  clear hb0 hb1
  go_wp2_with fail
  go_ret
  exact ⟨rfl, HB.out⟩
theorem least_iff {L : List (Int × Int)} (hr : RightU L) {t m W : Int} (h0 : 0 ≤ t) (h1 : t < 1099511627776) (h2 : 1 ≤ m) (h3 : m ≤ 1099511627776) : decide (leastU L t m ≥ W) = true ↔ GoodF (lvl 0 L) m W t := by
  unfold leastU
  rw [if_neg (by omega), decide_eq_true_eq, ← least_good hr h0 h1 h2 h3 (W := W), clampI_of h0 (by omega)]
set_option maxRecDepth 100000 in
set_option maxHeartbeats 4000000 in
theorem rearliest_any {w : World} {v : Value} {C : List ChgC} {L : List (Int × Int)} (h : RowC w v C) (hlen : C.length ≤ 24) {first : Int} (hlk : LikeU first L C) (hr : RightU L) (from_ many m W : Int) (hm : 1 ≤ m ∧ m ≤ 1099511627776) (hmm : mxS many 1 = m) :
    Calls Try.prog 70 #[.agg #[.int .i64 first, v], .int .i64 from_, .int .i64 many, .int .i64 W] w fun e w' => e = .returned (.int .i64 (firstU (startsU L (clampI from_) m W))) ∧ Below w.heap.size w w' := by
  have hmx : Try.prog.follows .mixedOrders = true := by kernel_rfl
  obtain ⟨ad, cp, hv⟩ := h.form
  have hb0 := below_alloc (Below.refl _ w) (.cells #[.int .i64 first, v] 28)
  have n0 := World.alloc_heap_new w (.cells #[.int .i64 first, v] 28)
  have HRow := Lib.hid (h.below hb0)
  clear h
  subst hv
  have hF := clampI_le from_
  have KC := Lib.hid (fun W => rclamp_any from_ W)
  generalize clampI from_ = F at *
  have hS := starts_ok hr (F := F) (W := W) hF.1 hm.1
  obtain ⟨T, hT⟩ : ∃ T, T = timesF C F m := ⟨_, rfl⟩
  have hTm : ∀ x ∈ T, 0 ≤ x ∧ F ≤ x ∧ x < 1099511627776 := fun x hx => by
    rw [hT, timesF_mem] at hx
    exact ⟨by omega, hx.1, hx.2.1⟩
  have hTl : T.length ≤ 1000 := by
    rw [hT]
    unfold timesF
    have h1 := three_len F m (timesU C) (addT F [] F)
    have h2 := addT_len F [] F
    have h3 := timesU_len C
    simp only [List.length_nil] at h2
    omega
  have hfind := find_first hS (T := T) (by rw [hT]; exact timesF_sorted C F m) hTm (fun s hs => by
    rw [hT]
    obtain ⟨q1, q2, q3, q4⟩ := hS.low s hs
    exact (ends_times hlk hr hs ⟨q2, q3, q4⟩).1) (p := fun x => decide (leastU L x m ≥ W)) (fun x hx => least_iff hr (hTm x hx).1 (hTm x hx).2.2 hm.1 hm.2)
  rw [← hfind]
  clear hfind hS
  have KT := Lib.hid (fun (X : World) (hX : RowC X (.slice ad C.length cp) C) => hT ▸ rtimesF_any hX hlen first F many m hm hmm)
  have KG := Lib.hid (fun (X : World) (hX : RowC X (.slice ad C.length cp) C) x (hx : 0 ≤ x ∧ x < 1099511627776) => rgood_any hX hlen hlk hr x many m W hx hm hmm)
  clear hT hmm
  obtain ⟨p, hp⟩ : ∃ p : Int → Bool, p = fun x => decide (leastU L x m ≥ W) := ⟨_, rfl⟩
  rw [← hp]
  have KG2 := Lib.hid (show ∀ (X : World) (hX : RowC X (.slice ad C.length cp) C) x (hx : 0 ≤ x ∧ x < 1099511627776), Calls Try.prog 125 #[.agg #[.int .i64 first, .slice ad C.length cp], .int .i64 x, .int .i64 many, .int .i64 W] X fun e w' => e = .returned (.bool (p x)) ∧ Below X.heap.size X w' from hp ▸ KG.out)
  clear hp KG
  go_enter Try.func70, Try.ntmps70
  go_upto_region 1 with fail
  generalize w.alloc (.cells #[.int .i64 first, .slice ad C.length cp] 28) = W0 at *
  refine Ap.wp_region_K (S1 := (fun X : World => X.heap[w.heap.size]? = some (.cells #[.int .i64 first, .slice ad C.length cp] 28 (0, 0)))) (S2 := fun _ => True) (js := 5) hmx ?_
  change Ap.wpAnyK _ _ _ _ _ _ _ 6 _ _ W0.drew
  have hw0 := (Array.getElem?_eq_some_iff.1 n0).1
  have hSS : (fun X : World => X.heap[w.heap.size]? = some (.cells #[.int .i64 first, .slice ad C.length cp] 28 (0, 0))) W0.drew ∧ (fun _ : World => True) W0.drew := ⟨n0, trivial⟩
  refine Ap.wpAnyK_take1 (i := 0) (v := .agg #[.int .i64 first, .slice ad C.length cp]) rfl (by decide) (by decide +kernel) (by decide +kernel) (by decide +kernel) (fun _ _ _ h => h) (.inl ⟨by first | rfl | (go_simp; done), fun X hX => by have hx1 := cell_of_block (o := 0) hX rfl; have hx2 := cell_of_block (o := 1) hX rfl; clear hX; first | (go_simp; done) | (go_simp; rfl)⟩) hSS ?_
  refine Ap.wpAnyK_take1 (i := 1) (v := .int .i64 from_) rfl (by decide) (by decide +kernel) (by decide +kernel) (by decide +kernel) (fun _ _ _ h => h) (.inl ⟨by first | rfl | (go_simp; done), fun X hX => by have hx1 := cell_of_block (o := 0) hX rfl; have hx2 := cell_of_block (o := 1) hX rfl; clear hX; first | (go_simp; done) | (go_simp; rfl)⟩) hSS ?_
  refine Ap.wpAnyK_take1 (i := 3) (v := .int .i64 many) rfl (by decide) (by decide +kernel) (by decide +kernel) (by decide +kernel) (fun _ _ _ h => h) (.inl ⟨by first | rfl | (go_simp; done), fun X hX => by have hx1 := cell_of_block (o := 0) hX rfl; have hx2 := cell_of_block (o := 1) hX rfl; clear hX; first | (go_simp; done) | (go_simp; rfl)⟩) hSS ?_
  refine Ap.anyK_call (i := 2) (by decide +kernel) rfl rfl (by go_simp) (KC.out _) ?_
  rintro e X ⟨rfl, rfl⟩
  refine ⟨_, rfl, ⟨hSS.1, fun _ => trivial⟩, ?_⟩
  refine Ap.anyK_call (i := 4) (by decide +kernel) rfl rfl (by go_simp) (KT.out _ (HRow.out.below (Below.refl _ _).drew)) ?_
  rintro e X2 ⟨v1, rfl, hv1, hbx2⟩
  have hSS2 : (fun X : World => X.heap[w.heap.size]? = some (.cells #[.int .i64 first, .slice ad C.length cp] 28 (0, 0))) X2 ∧ (fun _ : World => True) X2 := ⟨(hbx2.block _ hw0).trans n0, trivial⟩
  refine ⟨_, rfl, ⟨hSS2.1, fun _ => trivial⟩, ?_⟩
  obtain ⟨a1, c1, rfl, hf1⟩ := hv1.form
  refine Ap.anyK_val1 (i := 5) (v := .slice a1 T.length c1) (w' := X2) (by decide +kernel) rfl rfl (by first | (go_simp; done) | (go_simp; rfl)) ⟨hSS2.1, trivial⟩ ?_
  refine Ap.wpAnyK_done (by decide +kernel) ?_ _
  have HB2 := Lib.hid (below_next (Below.drew hb0) hbx2)
  have HRow2 := Lib.hid ((HRow.out.below (Below.refl _ _).drew).below hbx2)
  have N2 := Lib.hid hSS2.1
  have HF1 := Lib.hid hf1
  have hz2 := (Array.getElem?_eq_some_iff.1 hSS2.1).1
  clear hSS hSS2 hbx2 hv1 hf1 KT HRow hb0 n0 KC
  go_wp2_with fail
  go_loopw [10] (fun i wr => ∃ k : Nat, k ≤ T.length ∧ i = .int .i64 k ∧ (∀ j, j < k → p (T.getD j 0) = false) ∧ Below X2.heap.size X2 wr) (fun i _ => T.length - (intOf i).toNat)
  case atStart => exact ⟨0, Nat.zero_le _, rfl, fun j hj => absurd hj (Nat.not_lt_zero _), Below.refl _ _⟩
  case round =>
    obtain ⟨k, hk, rfl, hno, hbr⟩ := hrel
    have HNo := Lib.hid hno
    clear hno
    by_cases hlt : k < T.length
    case pos =>
      have hd : decide (k < T.length) = true := decide_eq_true hlt
      have hix : (k : Int) < (T.length : Int) := by omega
      have hw1 : IntKind.i64.wrap ((k : Int) + 1) = ((k + 1 : Nat) : Int) := by rw [IntKind.wrap_i64]; omega
      obtain ⟨g1, rfl, hg1, hr1⟩ := HF1.out (by omega)
      have q0 := (hbr.cell (p := ⟨g1, k, none⟩) hg1).trans (hr1 k hlt)
      have hz0 := World.block_lt_of_cell? _ _ q0
      have d0 := cell_of_block (o := 0) ((hbr.block _ hz2).trans N2.out) rfl
      have d1 := cell_of_block (o := 1) ((hbr.block _ hz2).trans N2.out) rfl
      have hz1 := World.block_lt_of_cell? _ _ d0
      have hx : 0 ≤ T.getD k 0 ∧ T.getD k 0 < 1099511627776 := by
        have hmem : T.getD k 0 ∈ T := by rw [List.getD_eq_getElem?_getD, List.getElem?_eq_getElem hlt]; exact List.getElem_mem hlt
        exact ⟨(hTm _ hmem).1, (hTm _ hmem).2.2⟩
      have HRr := Lib.hid (HRow2.out.below hbr)
      have hhit := fun (hp : p (T.getD k 0) = true) => find_at T k hlt HNo.out hp
      have hmiss : p (T.getD k 0) = false → ∀ j, j < k + 1 → p (T.getD j 0) = false := fun hp j hj => by
        rcases Nat.lt_or_ge j k with h | h
        · exact HNo.out j h
        · rw [show j = k by omega]; exact hp
      obtain ⟨x, hxe⟩ : ∃ x, x = T.getD k 0 := ⟨_, rfl⟩
      rw [← hxe] at q0 hx hhit hmiss
      clear hxe hr1
      have HHit := Lib.hid hhit
      have HMiss := Lib.hid hmiss
      have KGx := Lib.hid (fun (X : World) (hX : Below wr.heap.size wr X) => KG2.out X (HRr.out.below hX) x hx)
      clear hhit hmiss
      obtain ⟨b, hb⟩ : ∃ b, b = p x := ⟨_, rfl⟩
      rw [← hb] at KGx HHit HMiss
      clear hb
      go_upto_region 5 with fail
      go_cut [29] (fun s wx => s = .bool b ∧ Below wr.heap.size wr wx)
      case first =>
        refine Rl.wp_region_rel (fun a b => Below a.heap.size a b) wr (fun a b c h h' => below_next h h') (fun a => Below.refl _ _) hmx (by kernel_rfl) (Below.refl _ _).drew ?_
        iterate 7 (refine Rl.textR_run ?_ (fun ρ => ?_) (fun ρ W hS hd => ?_) ?_; rotate_left; (focus go_simp); (focus (obtain ⟨hc, hf⟩ := bcell hS; go_simp; first | exact ⟨rfl, Below.refl _ _⟩ | (refine ⟨?_, Below.refl _ _⟩; rfl))); (try go_simp))
        (refine Rl.textR_run ?_ (fun ρ => ?_) (fun ρ W hS hd => ?_) ?_; rotate_left; (focus go_simp); (focus (obtain ⟨hc, hf⟩ := bcell hS; go_simp; refine (KGx.out _ hS).mono ?_; rintro e w1 ⟨rfl, hb⟩; refine ⟨_, rfl, ?_, hb⟩; rfl)); (try go_simp))
        refine Rl.textR_nil ?_
        intro ρ w1 hg hk1
        dsimp only
        go_wp2_with fail
        go_meet
        exact ⟨rfl, hg⟩
      case rest =>
      obtain ⟨rfl, hby⟩ := hcut
      have q1 := (hby.cell (p := ⟨g1, k, none⟩) hz0).trans q0
      have hbz := below_next hbr hby
      cases b with
      | true =>
        have hh := HHit.out rfl
        go_wp2_with fail
        go_ret
        exact ⟨by first | rfl | (rw [hh]; rfl) | rw [hh], HB2.out.trans (hbz.mono HB2.out.size)⟩
      | false =>
        go_wp2_with fail
        exact ⟨⟨k + 1, by omega, rfl, HMiss.out rfl, hbz⟩, by show T.length - (((k + 1 : Nat) : Int)).toNat < T.length - ((k : Int)).toNat; omega⟩
    case neg =>
      have hd : decide (k < T.length) = false := decide_eq_false hlt
      obtain rfl : k = T.length := by omega
      have hh := find_no HNo.out
      go_wp2_with fail
      go_ret
      exact ⟨by first | rfl | (rw [hh]; rfl) | rw [hh], HB2.out.trans (hbr.mono HB2.out.size)⟩
end Go.Proofs.Ytbhnjmdlagjfbaa
namespace Go.Proofs.Ytbhnjmdlagjfbaa
set_option linter.unusedVariables false
open Go.ChangeShapes Go.WideShapes Go.ChangeAt Go.RowKit
attribute [local go_sem ↓] Go.wp_at_zero Go.wp_at_succ comesTo_value_eq comesTo_skip_eq comesTo_enter_eq

/-- a reservation as a change of the levels -/
def chgR (r : RV) : ChgC := ⟨r.2.1, r.2.2.1, false, -r.2.2.2⟩
theorem lower1_is {r : RV} (h : mayR r.2.1 r.2.2.1 r.2.2.2 = true) (L : List (Int × Int)) : lower1 L r = changeU (addF (byU (-r.2.2.2))) L (r.2.1, r.2.2.1) := by
  have hm := may_is h
  unfold lower1 lowW
  rw [if_neg (by omega), if_neg (by omega)]
theorem like_low {first : Int} : ∀ (l : List RV) {L : List (Int × Int)} {C : List ChgC}, LikeU first L C → RightU L → okW l → LikeU first (lowerU L l) (C ++ l.map chgR)
  | [], L, C, h, _, _ => by rw [List.map_nil, List.append_nil]; exact h
  | r :: l, L, C, h, hr, hw => by
    have h1 := like_add h hr r.2.1 r.2.2.1 (-r.2.2.2)
    rw [← lower1_is (hw r List.mem_cons_self)] at h1
    have h2 := like_low l h1 (lower1_right hr r) hw.tail
    rw [List.append_assoc] at h2
    exact h2
/-- where the lowering stands -/
structure Lw18 (w X : World) (first : Int) (v : Value) (C : List ChgC) : Prop where
  blk : X.heap[w.heap.size]? = some (.cells #[.int .i64 first, v] 28 (0, 0))
  res : X.heap[w.heap.size + 1]? = some (.cells #[.int .i64 0, .slice none 0 0] 28 (0, 0))
  row : RowC X v C
  bel : Below w.heap.size w X
theorem Lw18.below {w X X' : World} {first : Int} {v : Value} {C : List ChgC} (h : Lw18 w X first v C) (hb : Below X.heap.size X X') : Lw18 w X' first v C :=
  ⟨(hb.block _ (Array.getElem?_eq_some_iff.1 h.blk).1).trans h.blk, (hb.block _ (Array.getElem?_eq_some_iff.1 h.res).1).trans h.res, h.row.below hb, below_next h.bel hb⟩
set_option maxRecDepth 100000 in
set_option maxHeartbeats 8000000 in
theorem rlow18_pos {w : World} {v : Value} {C : List ChgC} (hC : RowC w v C) (hc : C.length ≤ 100) {g n c : Nat} {l : List RV} (hn : l.length = n) (hr : RowR w g l) (hg : g < w.heap.size) (hl : n ≤ 8) (hw : okW l) (first : Int) :
    Calls Try.prog 57 #[.agg #[.int .i64 first, v], .slice (some ⟨g, 0, none⟩) n c] w fun e w' => ∃ v', e = .returned (.agg #[.int .i64 first, v']) ∧ RowC w' v' (C ++ l.map chgR) ∧ Below w.heap.size w w' := by
  have hmx : Try.prog.follows .mixedOrders = true := by kernel_rfl
  have HR := Lib.hid (fun (X : World) (hX : X.heap[g]? = w.heap[g]?) => hr.mono hX)
  have HG := Lib.hid hg
  have HL := Lib.hid hl
  have HN := Lib.hid hn
  have HW := Lib.hid hw
  have HC := Lib.hid hc
  obtain ⟨a0, c0, rfl⟩ := hC.form
  have b1 := below_alloc (Below.refl _ w) (.cells #[.int .i64 first, .slice a0 C.length c0] 28)
  have n1 := World.alloc_heap_new w (.cells #[.int .i64 first, .slice a0 C.length c0] 28)
  have b2 := below_alloc (Below.refl _ (w.alloc (.cells #[.int .i64 first, .slice a0 C.length c0] 28))) (.cells #[.int .i64 0, .slice none 0 0] 28)
  have n2 := World.alloc_heap_new (w.alloc (.cells #[.int .i64 first, .slice a0 C.length c0] 28)) (.cells #[.int .i64 0, .slice none 0 0] 28)
  rw [World.size_alloc] at n2
  have hbb := below_next b1 b2
  have HL0 := Lib.hid (show Lw18 w ((w.alloc (.cells #[.int .i64 first, .slice a0 C.length c0] 28)).alloc (.cells #[.int .i64 0, .slice none 0 0] 28)) first (.slice a0 C.length c0) C from
    ⟨(b2.block _ (by simp)).trans n1, n2, hC.below hbb, hbb⟩)
  clear hr hg hl hn hw hc hC b1 n1 b2 n2 hbb
  go_enter Try.func57, Try.ntmps57
  go_upto_region 1 with fail
  generalize (w.alloc (.cells #[.int .i64 first, .slice a0 C.length c0] 28)).alloc (.cells #[.int .i64 0, .slice none 0 0] 28) = W1 at *
  go_wp2_with fail
  go_loopw [5] (fun i wr => ∃ (k : Nat) (v : Value), k ≤ n ∧ i = .int .i64 k ∧ Lw18 w wr first v (C ++ (l.take k).map chgR)) (fun i _ => n - (intOf i).toNat)
  case atStart => exact ⟨0, _, Nat.zero_le _, rfl, by rw [List.take_zero, List.map_nil, List.append_nil]; exact HL0.out⟩
  case round =>
    obtain ⟨k, v, hk, rfl, hlw⟩ := hrel
    by_cases hlt : k < n
    case pos =>
      have hd : decide (k < n) = true := decide_eq_true hlt
      have hd2 : decide ((k : Int) < (n : Int)) = true := decide_eq_true (by omega)
      have hkl : (k : Int) < (n : Int) := by omega
      have hw1 : IntKind.i64.wrap ((k : Int) + 1) = (k : Int) + 1 := by have := HL.out; rw [IntKind.wrap_i64]; omega
      have HK := Lib.hid hlt
      have hkl' : k < l.length := by rw [HN.out]; exact hlt
      obtain ⟨m, hm⟩ : ∃ m, m = (C ++ (l.take k).map chgR).length := ⟨_, rfl⟩
      have HM := Lib.hid (show (C ++ (l.take k).map chgR).length ≤ 4294967296 by
        have := HC.out
        have := HL.out
        rw [List.length_append, List.length_map, List.length_take]
        omega)
      obtain ⟨ax, cx, rfl⟩ := hlw.row.form
      rw [← hm] at hlw
      clear hm
      have HTK := Lib.hid (show C ++ (l.take (k + 1)).map chgR = (C ++ (l.take k).map chgR) ++ [chgR (l.getD k zR)] by
        rw [List.take_succ_eq_append_getElem hkl', List.map_append, List.append_assoc]
        simp [List.getD, List.getElem?_eq_getElem hkl'])
      have HCE := Lib.hid (fun (X : World) (hX : X.heap[g]? = w.heap[g]?) => HR.out X hX k hkl')
      have hcur := HCE.out wr (hlw.bel.block g HG.out)
      have hmay := may_is (HW.out (l.getD k zR) (by simp only [List.getD, List.getElem?_eq_getElem hkl', Option.getD_some]; exact List.getElem_mem hkl'))
      have HLW := Lib.hid hlw
      clear hlw hkl' hk HL0
      generalize l.getD k zR = r at *
      obtain ⟨r1, r2, r3, r4⟩ := r
      dsimp only at hcur HCE hmay
      have hneg : IntKind.i64.wrap (-r4) = -r4 := by rw [IntKind.wrap_i64]; omega
      clear hmay
      go_upto_region 4 with fail
      clear hcur
      refine Ap.wp_region_K (S1 := fun X => X.cell? ⟨g, k * 4, none⟩ = some (.int .i64 r1) ∧ X.cell? ⟨g, k * 4 + 1, none⟩ = some (.int .i64 r2) ∧ X.cell? ⟨g, k * 4 + 2, none⟩ = some (.int .i64 r3) ∧ X.cell? ⟨g, k * 4 + 3, none⟩ = some (.int .i64 r4)) (S2 := fun X => X.cell? ⟨w.heap.size, 0, none⟩ = some (.int .i64 first) ∧ X.cell? ⟨w.heap.size, 1, none⟩ = some (.slice ax m cx)) (js := 13) hmx ?_
      change Ap.wpAnyK _ _ _ _ _ _ _ 14 _ _ wr.drew
      have HLd := Lib.hid (HLW.out.below (show Below wr.heap.size wr wr.drew from (Below.refl _ _).drew))
      clear HLW
      generalize wr.drew = W0 at *
      have hSS : (fun X : World => X.cell? ⟨g, k * 4, none⟩ = some (.int .i64 r1) ∧ X.cell? ⟨g, k * 4 + 1, none⟩ = some (.int .i64 r2) ∧ X.cell? ⟨g, k * 4 + 2, none⟩ = some (.int .i64 r3) ∧ X.cell? ⟨g, k * 4 + 3, none⟩ = some (.int .i64 r4)) W0 ∧ (fun X : World => X.cell? ⟨w.heap.size, 0, none⟩ = some (.int .i64 first) ∧ X.cell? ⟨w.heap.size, 1, none⟩ = some (.slice ax m cx)) W0 := ⟨HCE.out W0 (HLd.out.bel.block g HG.out), cell_of_block (o := 0) HLd.out.blk rfl, cell_of_block (o := 1) HLd.out.blk rfl⟩
      refine Ap.wpAnyK_take2 (i := 0) (v := .agg #[.int .i64 first, .slice ax m cx]) rfl (by decide) (by decide +kernel) (by decide +kernel) (by decide +kernel) rfl (by decide +kernel) (by decide +kernel) (fun _ _ _ h => h) (.inl ⟨by first | rfl | (go_simp; done), fun X hX => by have hx1 := hX.2.1; have hx2 := hX.2.2; clear hX; first | (go_simp; done) | (go_simp; rfl)⟩) hSS ?_
      refine Ap.wpAnyK_take1 (i := 1) (v := .slice (some ⟨g, 0, none⟩) n c) rfl (by decide) (by decide +kernel) (by decide +kernel) (by decide +kernel) (fun _ _ _ h => h) (.inl ⟨by first | rfl | (go_simp; done), fun X hX => by have hx1 := hX.1; have hx2 := hX.2.1; have hx3 := hX.2.2.1; have hx4 := hX.2.2.2; clear hX; first | (go_simp; done) | (go_simp; rfl)⟩) hSS ?_
      refine Ap.wpAnyK_take1 (i := 2) (v := .int .i64 k) rfl (by decide) (by decide +kernel) (by decide +kernel) (by decide +kernel) (fun _ _ _ h => h) (.inl ⟨by first | rfl | (go_simp; done), fun X hX => by have hx1 := hX.1; have hx2 := hX.2.1; have hx3 := hX.2.2.1; have hx4 := hX.2.2.2; clear hX; first | (go_simp; done) | (go_simp; rfl)⟩) hSS ?_
      refine Ap.wpAnyK_take1 (i := 3) (v := .pointer (some ⟨g, k * 4, none⟩)) rfl (by decide) (by decide +kernel) (by decide +kernel) (by decide +kernel) (fun _ _ _ h => h) (.inl ⟨by first | rfl | (go_simp; done), fun X hX => by have hx1 := hX.1; have hx2 := hX.2.1; have hx3 := hX.2.2.1; have hx4 := hX.2.2.2; clear hX; first | (go_simp; done) | (go_simp; rfl)⟩) hSS ?_
      refine Ap.wpAnyK_take1 (i := 4) (v := .pointer (some ⟨g, k * 4 + 1, none⟩)) rfl (by decide) (by decide +kernel) (by decide +kernel) (by decide +kernel) (fun _ _ _ h => h) (.inl ⟨by first | rfl | (go_simp; done), fun X hX => by have hx1 := hX.1; have hx2 := hX.2.1; have hx3 := hX.2.2.1; have hx4 := hX.2.2.2; clear hX; first | (go_simp; done) | (go_simp; rfl)⟩) hSS ?_
      refine Ap.wpAnyK_take1 (i := 5) (v := .agg #[.int .i64 r2, .int .i64 r3]) rfl (by decide) (by decide +kernel) (by decide +kernel) (by decide +kernel) (fun _ _ _ h => h) (.inl ⟨by first | rfl | (go_simp; done), fun X hX => by have hx1 := hX.1; have hx2 := hX.2.1; have hx3 := hX.2.2.1; have hx4 := hX.2.2.2; clear hX; first | (go_simp; done) | (go_simp; rfl)⟩) hSS ?_
      refine Ap.wpAnyK_take1 (i := 6) (v := .slice (some ⟨g, 0, none⟩) n c) rfl (by decide) (by decide +kernel) (by decide +kernel) (by decide +kernel) (fun _ _ _ h => h) (.inl ⟨by first | rfl | (go_simp; done), fun X hX => by have hx1 := hX.1; have hx2 := hX.2.1; have hx3 := hX.2.2.1; have hx4 := hX.2.2.2; clear hX; first | (go_simp; done) | (go_simp; rfl)⟩) hSS ?_
      refine Ap.wpAnyK_take1 (i := 7) (v := .int .i64 k) rfl (by decide) (by decide +kernel) (by decide +kernel) (by decide +kernel) (fun _ _ _ h => h) (.inl ⟨by first | rfl | (go_simp; done), fun X hX => by have hx1 := hX.1; have hx2 := hX.2.1; have hx3 := hX.2.2.1; have hx4 := hX.2.2.2; clear hX; first | (go_simp; done) | (go_simp; rfl)⟩) hSS ?_
      refine Ap.wpAnyK_take1 (i := 8) (v := .pointer (some ⟨g, k * 4, none⟩)) rfl (by decide) (by decide +kernel) (by decide +kernel) (by decide +kernel) (fun _ _ _ h => h) (.inl ⟨by first | rfl | (go_simp; done), fun X hX => by have hx1 := hX.1; have hx2 := hX.2.1; have hx3 := hX.2.2.1; have hx4 := hX.2.2.2; clear hX; first | (go_simp; done) | (go_simp; rfl)⟩) hSS ?_
      refine Ap.wpAnyK_take1 (i := 9) (v := .pointer (some ⟨g, k * 4 + 3, none⟩)) rfl (by decide) (by decide +kernel) (by decide +kernel) (by decide +kernel) (fun _ _ _ h => h) (.inl ⟨by first | rfl | (go_simp; done), fun X hX => by have hx1 := hX.1; have hx2 := hX.2.1; have hx3 := hX.2.2.1; have hx4 := hX.2.2.2; clear hX; first | (go_simp; done) | (go_simp; rfl)⟩) hSS ?_
      refine Ap.wpAnyK_take1 (i := 10) (v := .int .i64 r4) rfl (by decide) (by decide +kernel) (by decide +kernel) (by decide +kernel) (fun _ _ _ h => h) (.inl ⟨by first | rfl | (go_simp; done), fun X hX => by have hx1 := hX.1; have hx2 := hX.2.1; have hx3 := hX.2.2.1; have hx4 := hX.2.2.2; clear hX; first | (go_simp; done) | (go_simp; rfl)⟩) hSS ?_
      refine Ap.wpAnyK_take1 (i := 11) (v := .int .i64 (-r4)) rfl (by decide) (by decide +kernel) (by decide +kernel) (by decide +kernel) (fun _ _ _ h => h) (.inl ⟨by first | rfl | (go_simp; done), fun X hX => by have hx1 := hX.1; have hx2 := hX.2.1; have hx3 := hX.2.2.1; have hx4 := hX.2.2.2; clear hX; first | (go_simp; done) | (go_simp; rfl)⟩) hSS ?_
      clear hSS
      have hrow0 : RowC W0 (.slice ax m cx) (C ++ (l.take k).map chgR) := HLd.out.row
      have KA := Lib.hid (rchg_add hrow0 HM.out first r2 r3 (-r4))
      clear hrow0
      refine Ap.anyK_call (i := 12) (by decide +kernel) rfl rfl (by go_simp) KA.out ?_
      rintro e W2 ⟨v2, rfl, hrow2, hb2⟩
      have HL2 := Lib.hid (HLd.out.below hb2)
      have hS1 := HCE.out W2 (HL2.out.bel.block g HG.out)
      refine ⟨_, rfl, ⟨hS1, fun _ => ⟨cell_of_block (o := 0) HL2.out.blk rfl, cell_of_block (o := 1) HL2.out.blk rfl⟩⟩, ?_⟩
      have hwr := wrote_all HL2.out.blk (l := [.int .i64 first, v2]) rfl
      have hsl2 : ∃ a n c, v2 = .slice a n c := by obtain ⟨a, c, e⟩ := hrow2.form; exact ⟨a, _, c, e⟩
      have HL3 := Lib.hid (show Lw18 w (W2.setCells w.heap.size 0 [.int .i64 first, v2]) first v2 (C ++ (l.take (k + 1)).map chgR) from by
        refine ⟨hwr.there, (hwr.rest _ (by omega)).trans HL2.out.res, ?_, hwr.below HL2.out.bel (Nat.le_refl _)⟩
        rw [HTK.out]
        exact hrow2.keep HL2.out.blk (.inl ⟨ax, m, cx, rfl⟩) (by rw [hwr.size]; exact Nat.le_refl _) (fun g' _ hne => hwr.rest g' hne))
      have hS3 := HCE.out _ ((HL3.out.bel).block g HG.out)
      refine Ap.anyK_store (i := 13) (by decide +kernel) rfl rfl (by decide +kernel) (exec_store_allH 28 _ _ rfl w.heap.size [.int .i64 first, v2] (by go_simp) (by go_simp) HL2.out.blk rfl (by kernel_rfl) (by obtain ⟨a, n, c, rfl⟩ := hsl2; rfl)) hS3 ?_
      clear hwr hS1 hS3 hrow2 hb2 HL2 HLd KA hsl2
      generalize W2.setCells w.heap.size 0 [.int .i64 first, v2] = W3 at *
      refine Ap.wpAnyK_done (by decide +kernel) ?_ _
      go_simp
      go_wp2_with fail
      go_roundw
      case rel => exact ⟨k + 1, v2, by have := HK.out; omega, by go_num, HL3.out⟩
      case measure => have := HK.out; simp [intOf]; omega
    case neg =>
      obtain rfl : k = n := by omega
      have hd : decide (k < k) = false := decide_eq_false (by omega)
      have hd2 : decide ((k : Int) < (k : Int)) = false := decide_eq_false (by omega)
      obtain ⟨ax, cx, rfl⟩ := hlw.row.form
      have htk : l.take k = l := List.take_of_length_le (by rw [HN.out]; exact Nat.le_refl _)
      rw [htk] at hlw
      have HLW := Lib.hid hlw
      clear hlw hlt hk htk HL0
      generalize (C ++ l.map chgR).length = m at *
      go_upto_region 5 with fail
      refine wp_region_lit ?_
      refine wpList_load_all rfl 28 _ rfl w.heap.size [.int .i64 first, .slice ax m cx] _ (by go_simp) HLW.out.blk Try.underlying28 rfl (by kernel_rfl) ?_
      refine wpList_store_all rfl 28 _ _ rfl (w.heap.size + 1) (T := 28) [.int .i64 first, .slice ax m cx] (by go_simp) (by go_simp) HLW.out.res rfl (by kernel_rfl) rfl ?_
      intro w8 hw8
      have HW8 := Lib.hid hw8.there
      have HB8 := Lib.hid (hw8.below HLW.out.bel (by omega))
      have HR8 := Lib.hid (HLW.out.row.keep HLW.out.res (.inl ⟨none, 0, 0, rfl⟩) (by rw [hw8.size]; exact Nat.le_refl _) (fun g' _ hne => hw8.rest g' hne))
      clear hw8
      go_wp2_with fail
      exact bodyPost_ret (results_all [.int .i64 first, .slice ax m cx] _ Try.results57 (by go_simp) HW8.out Try.underlying28 rfl (by kernel_rfl)) rfl ⟨_, rfl, HR8.out, HB8.out⟩
end Go.Proofs.Ytbhnjmdlagjfbaa
namespace Go.Proofs.Ytbhnjmdlagjfbaa
set_option linter.unusedVariables false
open Go Go.RowKit

theorem fits_iff {L : List (Int × Int)} (hr : RightU L) {f t W : Int} (h : clampI f < clampI t) : fitsU L f t W = true ↔ ∀ y, 0 ≤ y → y < 1099511627776 → clampI f ≤ y → y < clampI t → W ≤ lvl 0 L y := by
  obtain ⟨⟨x, x0, x1, x2, x3, ex⟩, hall⟩ := least_spec hr h
  unfold fitsU
  rw [decide_eq_false (by omega), Bool.false_or, decide_eq_true_eq]
  constructor
  · intro hc y y0 y1 y2 y3
    have := hall y y0 y1 y2 y3
    omega
  · intro hc
    have := hc x x0 x1 x2 x3
    omega
theorem in_iff {first : Int} {L : List (Int × Int)} {C : List ChgC} (hlk : LikeU first L C) {f t W : Int} (h : clampI f < clampI t) : (∀ x ∈ (inL first C f t).map (·.1), W ≤ x) ↔ ∀ y, 0 ≤ y → y < 1099511627776 → clampI f ≤ y → y < clampI t → W ≤ lvl 0 L y := by
  have hk := inL_ok (first := first) (C := C) h
  constructor
  · intro hx y y0 y1 y2 y3
    obtain ⟨p, hp, e⟩ := hk.all y y0 y1 y2 y3
    have := hx p.1 (List.mem_map.2 ⟨p, hp, rfl⟩)
    rw [hlk y y0 y1]
    rw [e] at this
    exact this
  · intro hc x hx
    obtain ⟨p, hp, rfl⟩ := List.mem_map.1 hx
    obtain ⟨_, _, y, y0, y1, y2, y3, e⟩ := hk.ex p hp
    have := hc y y0 y1 y2 y3
    rw [hlk y y0 y1] at this
    rw [← e]
    exact this
/-- does a reservation hold a time -/
def holdR (x : Int) (r : RV) : Bool := decide (clampI r.2.1 < clampI r.2.2.1 ∧ r.2.1 ≤ x ∧ x < r.2.2.1)
theorem low_hold : ∀ (l : List RV) {L : List (Int × Int)}, RightU L → ∀ x, 0 ≤ x → x < 1099511627776 → lvl 0 (lowerU L l) x = (l.filter (holdR x)).foldl (fun v r => addF (byU (lowW r.2.2.2)) v) (lvl 0 L x)
  | [], L, _, x, _, _ => rfl
  | r :: l, L, hL, x, h0, h1 => by
    have h2 := (change_right hL (addF_inR (byU (lowW r.2.2.2))) r.2.1 r.2.2.1).2 x h0 h1
    have ih := low_hold l (lower1_right hL r) x h0 h1
    show lvl 0 (lowerU (lower1 L r) l) x = _
    rw [ih]
    unfold lower1
    rw [h2, List.filter_cons]
    unfold holdR
    by_cases hh : clampI r.2.1 < clampI r.2.2.1 ∧ r.2.1 ≤ x ∧ x < r.2.2.1
    · rw [if_pos hh, decide_eq_true hh, if_pos rfl, List.foldl_cons]
    · rw [if_neg hh, decide_eq_false hh, if_neg (by decide)]
theorem low_same {L : List (Int × Int)} (hL : RightU L) {l : List RV} (hw : okW l) {f t : Int} (h0 : 0 ≤ f) (ht : t < 1099511627776) {x : Int} (c : f ≤ x) (d : x < t) : lvl 0 (lowerU L (l.filter fun r => meetsU (r.2.1, r.2.2.1) (f, t))) x = lvl 0 (lowerU L l) x := by
  rw [low_hold _ hL x (by omega) (by omega), low_hold _ hL x (by omega) (by omega), List.filter_filter]
  congr 1
  refine List.filter_congr fun r hr => ?_
  cases hh : holdR x r with
  | false => rfl
  | true =>
    unfold holdR at hh
    rw [decide_eq_true_eq] at hh
    rw [meets_of (hw r hr) h0 ht hh.2.1 hh.2.2 c d]
    rfl
theorem fits_in {first : Int} {L : List (Int × Int)} {C : List ChgC} (hlk : LikeU first L C) (hr : RightU L) {l : List RV} (hw : okW l) {f t W : Int} (hm : mayR f t W = true) :
    fitsU (lowerU L (l.filter fun r => meetsU (r.2.1, r.2.2.1) (f, t))) f t W = true ↔ ∀ x ∈ (inL first (C ++ l.map chgR) f t).map (·.1), W ≤ x := by
  have hm' := may_is hm
  have ef : clampI f = f := clampI_of' hm'.1 (by omega)
  have et : clampI t = t := clampI_of' (by omega) (by omega)
  have hc : clampI f < clampI t := by rw [ef, et]; exact hm'.2.1
  rw [fits_iff (lowerU_right hr _) hc, in_iff (like_low l hlk hr hw) hc, ef, et]
  constructor
  · intro h y y0 y1 y2 y3
    have := h y y0 y1 y2 y3
    rwa [low_same hr hw hm'.1 hm'.2.2.1 y2 y3] at this
  · intro h y y0 y1 y2 y3
    rw [low_same hr hw hm'.1 hm'.2.2.1 y2 y3]
    exact h y y0 y1 y2 y3
end Go.Proofs.Ytbhnjmdlagjfbaa
namespace Go.Proofs.Ytbhnjmdlagjfbaa
set_option linter.unusedVariables false
open Go.ChangeShapes Go.WideShapes Go.ChangeAt Go.RowKit
attribute [local go_sem ↓] Go.wp_at_zero Go.wp_at_succ comesTo_value_eq comesTo_skip_eq comesTo_enter_eq

theorem rnew18_any (w : World) : Calls Try.prog 13 #[] w fun e w' => e = .returned (.agg #[.int .i64 1, .slice none 0 0]) ∧ Below w.heap.size w w' := by
  go_enter Try.func13, Try.ntmps13
  go_wp2
  exact bodyPost_ret (v := .agg #[.int .i64 1, .slice none 0 0]) (by simp [results, Try.results13, go_sem]) rfl ⟨rfl, (by repeat (first | exact Below.refl _ _ | assumption | refine below_drewN ?_ _ | refine Below.drew ?_ | refine below_alloc ?_ _ | refine Below.alloc ?_ (by first | omega | (simp; done) | (simp; omega)) _ | refine Below.setCell ?_ (Below.size (by assumption)) _ | refine Below.setCell ?_ (by first | omega | (simp; done) | (simp; omega)) _ | (refine Below.trans ?_ (Below.mono (by assumption) (by first | omega | (simp; done) | (simp; omega)))) | refine below_next ?_ (by assumption)))⟩
set_option maxRecDepth 100000 in
set_option maxHeartbeats 4000000 in
theorem rlow18_any {w : World} {v v2 : Value} {C : List ChgC} (hC : RowC w v C) (hc : C.length ≤ 100) {l : List RV} (h : RdR w v2 l) (hl : l.length ≤ 8) (hw : okW l) (first : Int) :
    Calls Try.prog 57 #[.agg #[.int .i64 first, v], v2] w fun e w' => ∃ v', e = .returned (.agg #[.int .i64 first, v']) ∧ RowC w' v' (C ++ l.map chgR) ∧ Below w.heap.size w w' := by
  obtain ⟨ad, c, rfl, h2, h3, h4⟩ := h
  by_cases h0 : 0 < l.length
  · obtain ⟨g, rfl, h6, h7⟩ := h4 h0
    exact rlow18_pos hC hc rfl h7 h6 hl hw first
  · obtain rfl : l = [] := List.eq_nil_of_length_eq_zero (by omega)
    clear h2 h3 h4 h0 hl hw hc
    show Calls Try.prog 57 #[.agg #[.int .i64 first, v], .slice ad 0 c] w _
    rw [List.map_nil, List.append_nil]
    obtain ⟨a0, c0, rfl⟩ := hC.form
    have b1 := below_alloc (Below.refl _ w) (.cells #[.int .i64 first, .slice a0 C.length c0] 28)
    have n1 := World.alloc_heap_new w (.cells #[.int .i64 first, .slice a0 C.length c0] 28)
    have b2 := below_alloc (Below.refl _ (w.alloc (.cells #[.int .i64 first, .slice a0 C.length c0] 28))) (.cells #[.int .i64 0, .slice none 0 0] 28)
    have n2 := World.alloc_heap_new (w.alloc (.cells #[.int .i64 first, .slice a0 C.length c0] 28)) (.cells #[.int .i64 0, .slice none 0 0] 28)
    rw [World.size_alloc] at n2
    have hbb := below_next b1 b2
    have HLW := Lib.hid (show Lw18 w ((w.alloc (.cells #[.int .i64 first, .slice a0 C.length c0] 28)).alloc (.cells #[.int .i64 0, .slice none 0 0] 28)) first (.slice a0 C.length c0) C from
      ⟨(b2.block _ (by simp)).trans n1, n2, hC.below hbb, hbb⟩)
    clear hC b1 n1 b2 n2 hbb
    generalize C.length = m at *
    go_enter Try.func57, Try.ntmps57
    go_upto_region 1 with fail
    generalize (w.alloc (.cells #[.int .i64 first, .slice a0 m c0] 28)).alloc (.cells #[.int .i64 0, .slice none 0 0] 28) = W1 at *
    go_wp2_with fail
    go_loopw [5] (fun i wr => i = .int .i64 0 ∧ wr = W1) (fun _ _ => 0)
    case atStart => exact ⟨rfl, rfl⟩
    case round =>
      obtain ⟨rfl, rfl⟩ := hrel
      go_upto_region 5 with fail
      refine wp_region_lit ?_
      refine wpList_load_all rfl 28 _ rfl w.heap.size [.int .i64 first, .slice a0 m c0] _ (by go_simp) HLW.out.blk Try.underlying28 rfl (by kernel_rfl) ?_
      refine wpList_store_all rfl 28 _ _ rfl (w.heap.size + 1) (T := 28) [.int .i64 first, .slice a0 m c0] (by go_simp) (by go_simp) HLW.out.res rfl (by kernel_rfl) rfl ?_
      intro w8 hw8
      have HW8 := Lib.hid hw8.there
      have HB8 := Lib.hid (hw8.below HLW.out.bel (by omega))
      have HR8 := Lib.hid (HLW.out.row.keep HLW.out.res (.inl ⟨none, 0, 0, rfl⟩) (by rw [hw8.size]; exact Nat.le_refl _) (fun g' _ hne => hw8.rest g' hne))
      clear hw8
      go_wp2_with fail
      exact bodyPost_ret (results_all [.int .i64 first, .slice a0 m c0] _ Try.results57 (by go_simp) HW8.out Try.underlying28 rfl (by kernel_rfl)) rfl ⟨_, rfl, HR8.out, HB8.out⟩
set_option maxRecDepth 100000 in
set_option maxHeartbeats 4000000 in
theorem rfind18_any {w : World} {v v2 : Value} {C : List ChgC} {L : List (Int × Int)} {first : Int} (hC : RowC w v C) (hc : C.length ≤ 16) (hlk : LikeU first L C) (hr : RightU L) {l : List RV} (h : RdR w v2 l) (hl : l.length ≤ 8) (hw : okW l) (n f m W : Int) :
    Calls Try.prog 21 #[.agg #[.int .i64 n, v2], .agg #[.int .i64 first, v], .int .i64 f, .int .i64 m, .int .i64 W] w fun e w' => e = .returned (.tuple #[.int .i64 (findR L l f m W).1, .int .i64 (findR L l f m W).2]) ∧ Below w.heap.size w w' := by
  obtain ⟨a0, c0, hv⟩ := hC.form
  obtain ⟨a2, c2, hv2, _⟩ := id h
  have b1 := below_alloc (Below.refl _ w) (.cells #[.int .i64 n, v2] 35)
  have n1 := World.alloc_heap_new w (.cells #[.int .i64 n, v2] 35)
  have b2 := below_alloc (Below.refl _ (w.alloc (.cells #[.int .i64 n, v2] 35))) (.cells #[.int .i64 first, v] 28)
  have n2 := World.alloc_heap_new (w.alloc (.cells #[.int .i64 n, v2] 35)) (.cells #[.int .i64 first, v] 28)
  rw [World.size_alloc] at n2
  have hbb := below_next b1 b2
  have n1' := (b2.block _ (by simp)).trans n1
  have HB := Lib.hid hbb
  have KL := Lib.hid (rlow18_any (hC.below hbb) (by omega) (h.below hbb) hl hw first)
  have KE := Lib.hid (fun (X : World) (v' : Value) (hX : RowC X v' (C ++ l.map chgR)) (m1 : 1 ≤ m) (mm : Int) (hmm : mm = min m 1099511627776) => (show Calls Try.prog 70 #[.agg #[.int .i64 first, v'], .int .i64 f, .int .i64 mm, .int .i64 W] X fun e w' => e = .returned (.int .i64 (firstU (startsU (lowerU L l) (clampI f) (maxU (clampI m) 1) W))) ∧ Below X.heap.size X w' from by
    have hm : maxU (clampI m) 1 = min m 1099511627776 := by
      unfold maxU clampI
      split <;> (try split) <;> (try split) <;> omega
    have := rearliest_any hX (by rw [List.length_append, List.length_map]; omega) (like_low l hlk hr hw) (lowerU_right hr l) f (min m 1099511627776) (maxU (clampI m) 1) W (by rw [hm]; omega) (by rw [hm]; unfold mxS; omega)
    rw [hmm]
    exact this))
  have HN1 := Lib.hid n1'
  have HN2 := Lib.hid n2
  unfold findR
  clear hC hc hlk h hl hw b1 n1 b2 n2 hbb n1' hr
  subst hv hv2
  generalize firstU (startsU (lowerU L l) (clampI f) (maxU (clampI m) 1) W) = res at *
  generalize l.length = len at *
  generalize hCl : C.length = cl at *
  clear hCl
  by_cases h1 : m < 1 ∨ ¬ (1 ≤ W ∧ W ≤ 64)
  case pos =>
    rw [if_pos h1]
    clear KL KE
    by_cases e1 : m < 1
    · have d1 : decide (m < 1) = true := decide_eq_true e1
      clear h1 e1
      go_enter Try.func21, Try.ntmps21
      go_upto_region 1 with fail
      generalize (w.alloc (.cells #[.int .i64 n, .slice a2 len c2] 35)).alloc (.cells #[.int .i64 first, .slice a0 cl c0] 28) = W1 at *
      go_wp2_with fail
      go_ret2
      exact ⟨rfl, HB.out⟩
    · have d1 : decide (m < 1) = false := decide_eq_false e1
      by_cases e2 : W < 1
      · have d2 : decide (W < 1) = true := decide_eq_true e2
        clear h1 e1 e2
        go_enter Try.func21, Try.ntmps21
        go_upto_region 1 with fail
        generalize (w.alloc (.cells #[.int .i64 n, .slice a2 len c2] 35)).alloc (.cells #[.int .i64 first, .slice a0 cl c0] 28) = W1 at *
        go_wp2_with fail
        go_ret2
        exact ⟨rfl, HB.out⟩
      · have d2 : decide (W < 1) = false := decide_eq_false e2
        have d3 : decide (W > 64) = true := decide_eq_true (by omega)
        have d4 : decide (64 < W) = true := decide_eq_true (by omega)
        clear h1 e1 e2
        go_enter Try.func21, Try.ntmps21
        go_upto_region 1 with fail
        generalize (w.alloc (.cells #[.int .i64 n, .slice a2 len c2] 35)).alloc (.cells #[.int .i64 first, .slice a0 cl c0] 28) = W1 at *
        go_wp2_with fail
        go_ret2
        exact ⟨rfl, HB.out⟩
  case neg =>
    rw [if_neg h1]
    have d1 : decide (m < 1) = false := decide_eq_false (by omega)
    have d2 : decide (W < 1) = false := decide_eq_false (by omega)
    have d3 : decide (W > 64) = false := decide_eq_false (by omega)
    have d4 : decide (64 < W) = false := decide_eq_false (by omega)
    have HM := Lib.hid (show 1 ≤ m by omega)
    clear h1
    go_enter Try.func21, Try.ntmps21
    go_upto_region 1 with fail
    generalize (w.alloc (.cells #[.int .i64 n, .slice a2 len c2] 35)).alloc (.cells #[.int .i64 first, .slice a0 cl c0] 28) = W1 at *
    have q1 : W1.cell? ⟨w.heap.size, 1, none⟩ = some (.slice a2 len c2) := cell_of_block (o := 1) HN1.out rfl
    have q2 : W1.cell? ⟨w.heap.size + 1, 0, none⟩ = some (.int .i64 first) := cell_of_block (o := 0) HN2.out rfl
    have q3 : W1.cell? ⟨w.heap.size + 1, 1, none⟩ = some (.slice a0 cl c0) := cell_of_block (o := 1) HN2.out rfl
    go_wp2_with fail
    refine KL.out.mono ?_
    rintro e W2 ⟨v', rfl, hrow, hb⟩
    have KE2 := Lib.hid (KE.out W2 v' hrow HM.out)
    have HB2 := Lib.hid (below_next HB.out hb)
    clear hrow hb q1 q2 q3 KL KE d1 d2 d3 d4
    go_wp2_with fail
    all_goals refine (KE2.out _ (by omega)).mono ?_
    all_goals rintro e W3 ⟨rfl, hb⟩
    all_goals have HB3 := Lib.hid (below_next HB2.out hb)
    all_goals clear hb
    all_goals go_wp2_with fail
    all_goals go_ret2
    all_goals exact ⟨rfl, HB3.out⟩
end Go.Proofs.Ytbhnjmdlagjfbaa
