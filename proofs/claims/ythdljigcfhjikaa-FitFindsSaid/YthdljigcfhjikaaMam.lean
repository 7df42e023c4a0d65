/- Laws that belong together: Room (layer 11), the document's: Starts. Conditions: few changes, levels that are like the document's, the numbers' bounds.; Room (layer 11): FitFinds walked. Conditions: the acts that came in; the numbers' bounds. -/
import Derived.Test.YthdljigcfhjikaaMal
import Derived.Test.YthdljigcfhjikaaMFjb
import Derived.Test.YthdljigcfhjikaaMab
import Derived.Test.YthdljigcfhjikaaMad
import Derived.Test.YthdljigcfhjikaaMac
import Derived.Deep.CutBlock
namespace Go.Proofs.Ythdljigcfhjikaa
set_option linter.unusedVariables false
open Go.ChangeShapes Go.WideShapes Go.ChangeAt Go.RowKit
attribute [local go_sem high] run_mxS run_mnL
attribute [local go_sem ↓] Go.wp_at_zero Go.wp_at_succ comesTo_value_eq comesTo_skip_eq comesTo_enter_eq Rl.comesToR_value_eq Rl.comesToR_skip_eq Rl.comesToR_enter_eq

/-- where what begins at the time number i ends -/
def endF (T : List Int) (i : Nat) : Int := if i + 1 < T.length then T.getD (i + 1) 0 else 1099511627776
/-- the pieces of the first k times that are good -/
def allK (p : Int → Bool) (T : List Int) (k : Nat) : List (Int × Int) := (List.range k).flatMap fun i => if p (T.getD i 0) = true then [(T.getD i 0, endF T i)] else []
theorem allK_next (p : Int → Bool) (T : List Int) (k : Nat) : allK p T (k + 1) = allK p T k ++ (if p (T.getD k 0) = true then [(T.getD k 0, endF T k)] else []) := by
  unfold allK
  rw [List.range_succ, List.flatMap_append]
  simp
theorem allK_len (p : Int → Bool) (T : List Int) (k : Nat) : (allK p T k).length ≤ k := by
  induction k with
  | zero => simp [allK]
  | succ k ih =>
    rw [allK_next, List.length_append]
    split <;> simp <;> omega
theorem allK_mem {p : Int → Bool} {T : List Int} {k : Nat} {s : Int × Int} : s ∈ allK p T k ↔ ∃ i, i < k ∧ p (T.getD i 0) = true ∧ s = (T.getD i 0, endF T i) := by
  unfold allK
  rw [List.mem_flatMap]
  constructor
  · rintro ⟨i, hi, h⟩
    split at h
    · rename_i hp
      exact ⟨i, List.mem_range.1 hi, hp, List.mem_singleton.1 h⟩
    · cases h
  · rintro ⟨i, hi, hp, rfl⟩
    exact ⟨i, List.mem_range.2 hi, by rw [if_pos hp]; exact List.mem_singleton.2 rfl⟩
theorem sorted_lt {T : List Int} (hs : T.Pairwise (· < ·)) {i j : Nat} (hj : j < T.length) (h : i < j) : T.getD i 0 < T.getD j 0 := by
  have := List.pairwise_iff_getElem.1 hs i j (by omega) hj h
  rw [List.getD_eq_getElem?_getD, List.getD_eq_getElem?_getD, List.getElem?_eq_getElem (show i < T.length by omega), List.getElem?_eq_getElem hj]
  exact this
theorem sorted_le {T : List Int} (hs : T.Pairwise (· < ·)) {i j : Nat} (hj : j < T.length) (h : i ≤ j) : T.getD i 0 ≤ T.getD j 0 := by
  rcases Nat.lt_or_ge i j with hlt | hge
  · exact Int.le_of_lt (sorted_lt hs hj hlt)
  · rw [show i = j by omega]; exact Int.le_refl _
theorem idx_of {T : List Int} {x : Int} (h : x ∈ T) : ∃ i, i < T.length ∧ T.getD i 0 = x := by
  obtain ⟨i, hi, e⟩ := List.mem_iff_getElem.1 h
  exact ⟨i, hi, by rw [List.getD_eq_getElem?_getD, List.getElem?_eq_getElem hi]; exact e⟩
theorem climb {T : List Int} {t : Int} : ∀ (n i : Nat), T.length - i = n → i < T.length → T.getD i 0 ≤ t → ∃ k, i ≤ k ∧ k < T.length ∧ T.getD k 0 ≤ t ∧ (k + 1 < T.length → t < T.getD (k + 1) 0)
  | 0, i, h, hi, _ => by omega
  | n + 1, i, h, hi, ht => by
    by_cases hc : i + 1 < T.length ∧ T.getD (i + 1) 0 ≤ t
    · obtain ⟨k, k1, k2, k3, k4⟩ := climb n (i + 1) (by omega) hc.1 hc.2
      exact ⟨k, by omega, k2, k3, k4⟩
    · refine ⟨i, Nat.le_refl _, hi, ht, fun h1 => ?_⟩
      refine Classical.byContradiction fun h2 => hc ⟨h1, by omega⟩
theorem end_gt {T : List Int} (hs : T.Pairwise (· < ·)) (hT : ∀ x ∈ T, x < 1099511627776) {i : Nat} (hi : i < T.length) : T.getD i 0 < endF T i ∧ endF T i ≤ 1099511627776 := by
  unfold endF
  have hm : ∀ j, j < T.length → T.getD j 0 ∈ T := fun j hj => by rw [List.getD_eq_getElem?_getD, List.getElem?_eq_getElem hj]; exact List.getElem_mem hj
  split
  · rename_i h
    exact ⟨sorted_lt hs h (by omega), Int.le_of_lt (hT _ (hm _ h))⟩
  · exact ⟨hT _ (hm _ hi), Int.le_refl _⟩
theorem cutsOf_id : ∀ (l : List (Int × Int)), (∀ s ∈ l, 0 ≤ s.1 ∧ s.1 < s.2 ∧ s.2 ≤ 1099511627776) → cutsOf l = l
  | [], _ => rfl
  | s :: r, h => by
    have ih := cutsOf_id r fun x hx => h x (List.mem_cons_of_mem _ hx)
    obtain ⟨h0, h1, h2⟩ := h s List.mem_cons_self
    unfold cutsOf at ih ⊢
    rw [List.filterMap_cons, if_neg (by rw [clampI_of h0 (by omega), clampI_of (n := s.2) (by omega) h2]; omega)]
    simp only
    rw [ih, clampI_of h0 (by omega), clampI_of (n := s.2) (by omega) h2]
/-- the pieces, joined, are the spans -/
theorem pieces_join {g : Int → Int} {F m W : Int} {R : List (Int × Int)} (hS : StartsOk g F m W 0 R) {T : List Int} (hs : T.Pairwise (· < ·)) (hT : ∀ x ∈ T, 0 ≤ x ∧ F ≤ x ∧ x < 1099511627776) (hR : ∀ s ∈ R, s.1 ∈ T ∧ (s.2 = 1099511627776 ∨ s.2 ∈ T)) {p : Int → Bool} (hp : ∀ x ∈ T, p x = true ↔ GoodF g m W x) : refJ (cutsOf (allK p T T.length)) = R := by
  have hm : ∀ j, j < T.length → T.getD j 0 ∈ T := fun j hj => by rw [List.getD_eq_getElem?_getD, List.getElem?_eq_getElem hj]; exact List.getElem_mem hj
  have hA : ∀ s ∈ allK p T T.length, 0 ≤ s.1 ∧ s.1 < s.2 ∧ s.2 ≤ 1099511627776 := fun s h => by
    obtain ⟨i, hi, _, rfl⟩ := allK_mem.1 h
    have := end_gt hs (fun x hx => (hT x hx).2.2) hi
    exact ⟨(hT _ (hm i hi)).1, this.1, this.2⟩
  have hcut : cutsOf (allK p T T.length) = allK p T T.length := cutsOf_id _ hA
  rw [hcut]
  obtain ⟨n1, n2⟩ := refJ_norm (l := allK p T T.length) (fun s h => (hA s h).2.1)
  refine NormJ.unique _ _ n1 ⟨fun s h => (hS.low s h).2.2.1, hS.rise⟩ fun t => ?_
  rw [n2 t]
  constructor
  · rintro ⟨s, h, t1, t2⟩
    obtain ⟨i, hi, hpi, rfl⟩ := allK_mem.1 h
    simp only at t1 t2
    obtain ⟨x0, x1, x2⟩ := hT _ (hm i hi)
    obtain ⟨s, hsR, s1, s2⟩ := (hS.iff _ x0 x2).2 ⟨x1, (hp _ (hm i hi)).1 hpi⟩
    refine ⟨s, hsR, by omega, ?_⟩
    refine Classical.byContradiction fun hc => ?_
    rcases (hR s hsR).2 with h2 | h2
    · have := (hA _ h).2.2
      simp only at this
      omega
    · obtain ⟨j, hj, hje⟩ := idx_of h2
      have hij : i < j := by
        rcases Nat.lt_or_ge i j with h | h
        · exact h
        · have := sorted_le hs hi h; omega
      have : endF T i ≤ T.getD j 0 := by
        unfold endF
        rw [if_pos (by omega)]
        exact sorted_le hs hj (by omega)
      omega
  · rintro ⟨s, hsR, s1, s2⟩
    obtain ⟨q1, q2, q3, q4⟩ := hS.low s hsR
    obtain ⟨i, hi, hie⟩ := idx_of (hR s hsR).1
    obtain ⟨k, k1, k2, k3, k4⟩ := climb (t := t) _ i rfl hi (by omega)
    have hge := sorted_le hs k2 k1
    have hgood := (hp _ (hm k k2)).2 ((hS.iff _ (hT _ (hm k k2)).1 (hT _ (hm k k2)).2.2).1 ⟨s, hsR, by omega, by omega⟩).2
    refine ⟨_, allK_mem.2 ⟨k, k2, hgood, rfl⟩, k3, ?_⟩
    unfold endF
    simp only
    split
    · rename_i h; exact k4 h
    · omega
set_option maxRecDepth 100000 in
set_option maxHeartbeats 4000000 in
theorem rstarts_any {w : World} {v : Value} {C : List ChgC} {L : List (Int × Int)} (h : RowC w v C) (hlen : C.length ≤ 24) {first : Int} (hlk : LikeU first L C) (hr : RightU L) (from_ many m W : Int) (hm : 1 ≤ m ∧ m ≤ 1099511627776) (hmm : mxS many 1 = m) :
    Calls Try.prog 35 #[.agg #[.int .i64 first, v], .int .i64 from_, .int .i64 many, .int .i64 W] w fun e w' => ∃ (ad : Option Addr) (c : Nat), e = .returned (.slice ad (startsU L (clampI from_) m W).length c) ∧ OwnQ w' w.heap.size (.slice ad (startsU L (clampI from_) m W).length c) (startsU L (clampI from_) m W) ∧ Below w.heap.size w w' := by
  have hmx : Try.prog.follows .mixedOrders = true := by kernel_rfl
  obtain ⟨ad, cp, hv⟩ := h.form
  have hb0 := below_alloc (Below.refl _ w) (.cells #[.int .i64 first, v] 29)
  have n0 := World.alloc_heap_new w (.cells #[.int .i64 first, v] 29)
  have HRow := Lib.hid (h.below hb0)
  clear h
  subst hv
  have hF := clampI_le from_
  have KC := Lib.hid (fun W => rclamp_any from_ W)
  generalize clampI from_ = F at *
  have hS := starts_ok hr (F := F) (W := W) hF.1 hm.1
  obtain ⟨T, hT⟩ : ∃ T, T = timesF C F m := ⟨_, rfl⟩
  have hTm : ∀ x ∈ T, 0 ≤ x ∧ F ≤ x ∧ x < 1099511627776 := fun x hx => by
    rw [hT, timesF_mem] at hx
    exact ⟨by omega, hx.1, hx.2.1⟩
  have hTl : T.length ≤ 1000 := by
    rw [hT]
    unfold timesF
    have h1 := three_len F m (timesU C) (addT F [] F)
    have h2 := addT_len F [] F
    have h3 := timesU_len C
    simp only [List.length_nil] at h2
    omega
  have hjoin := pieces_join hS (T := T) (by rw [hT]; exact timesF_sorted C F m) hTm (fun s hs => by
    rw [hT]
    obtain ⟨q1, q2, q3, q4⟩ := hS.low s hs
    exact ends_times hlk hr hs ⟨q2, q3, q4⟩) (p := fun x => decide (leastU L x m ≥ W)) (fun x hx => least_iff hr (hTm x hx).1 (hTm x hx).2.2 hm.1 hm.2)
  rw [← hjoin]
  clear hjoin hS
  have KT := Lib.hid (fun (X : World) (hX : RowC X (.slice ad C.length cp) C) => hT ▸ rtimesF_any hX hlen first F many m hm hmm)
  have KG := Lib.hid (fun (X : World) (hX : RowC X (.slice ad C.length cp) C) x (hx : 0 ≤ x ∧ x < 1099511627776) => rgood_any hX hlen hlk hr x many m W hx hm hmm)
  clear hT hmm
  obtain ⟨p, hp⟩ : ∃ p : Int → Bool, p = fun x => decide (leastU L x m ≥ W) := ⟨_, rfl⟩
  rw [← hp]
  have KG2 := Lib.hid (show ∀ (X : World) (hX : RowC X (.slice ad C.length cp) C) x (hx : 0 ≤ x ∧ x < 1099511627776), Calls Try.prog 75 #[.agg #[.int .i64 first, .slice ad C.length cp], .int .i64 x, .int .i64 many, .int .i64 W] X fun e w' => e = .returned (.bool (p x)) ∧ Below X.heap.size X w' from hp ▸ KG.out)
  obtain ⟨J, hJ⟩ : ∃ J, J = refJ (cutsOf (allK p T T.length)) := ⟨_, rfl⟩
  rw [← hJ]
  have HJ := Lib.hid hJ
  clear hp KG hJ
  go_enter Try.func35, Try.ntmps35
  go_upto_region 2 with fail
  generalize w.alloc (.cells #[.int .i64 first, .slice ad C.length cp] 29) = W0 at *
  refine Ap.wp_region_K (S1 := (fun X : World => X.heap[w.heap.size]? = some (.cells #[.int .i64 first, .slice ad C.length cp] 29 (0, 0)))) (S2 := fun _ => True) (js := 5) hmx ?_
  change Ap.wpAnyK _ _ _ _ _ _ _ 6 _ _ W0.drew
  have hw0 := (Array.getElem?_eq_some_iff.1 n0).1
  have hSS : (fun X : World => X.heap[w.heap.size]? = some (.cells #[.int .i64 first, .slice ad C.length cp] 29 (0, 0))) W0.drew ∧ (fun _ : World => True) W0.drew := ⟨n0, trivial⟩
  refine Ap.wpAnyK_take1 (i := 0) (v := .agg #[.int .i64 first, .slice ad C.length cp]) rfl (by decide) (by decide +kernel) (by decide +kernel) (by decide +kernel) (fun _ _ _ h => h) (.inl ⟨by first | rfl | (go_simp; done), fun X hX => by have hx1 := cell_of_block (o := 0) hX rfl; have hx2 := cell_of_block (o := 1) hX rfl; clear hX; first | (go_simp; done) | (go_simp; rfl)⟩) hSS ?_
  refine Ap.wpAnyK_take1 (i := 1) (v := .int .i64 from_) rfl (by decide) (by decide +kernel) (by decide +kernel) (by decide +kernel) (fun _ _ _ h => h) (.inl ⟨by first | rfl | (go_simp; done), fun X hX => by have hx1 := cell_of_block (o := 0) hX rfl; have hx2 := cell_of_block (o := 1) hX rfl; clear hX; first | (go_simp; done) | (go_simp; rfl)⟩) hSS ?_
  refine Ap.wpAnyK_take1 (i := 3) (v := .int .i64 many) rfl (by decide) (by decide +kernel) (by decide +kernel) (by decide +kernel) (fun _ _ _ h => h) (.inl ⟨by first | rfl | (go_simp; done), fun X hX => by have hx1 := cell_of_block (o := 0) hX rfl; have hx2 := cell_of_block (o := 1) hX rfl; clear hX; first | (go_simp; done) | (go_simp; rfl)⟩) hSS ?_
  refine Ap.anyK_call (i := 2) (by decide +kernel) rfl rfl (by go_simp) (KC.out _) ?_
  rintro e X ⟨rfl, rfl⟩
  refine ⟨_, rfl, ⟨hSS.1, fun _ => trivial⟩, ?_⟩
  refine Ap.anyK_call (i := 4) (by decide +kernel) rfl rfl (by go_simp) (KT.out _ (HRow.out.below (Below.refl _ _).drew)) ?_
  rintro e X2 ⟨v1, rfl, hv1, hbx2⟩
  have hSS2 : (fun X : World => X.heap[w.heap.size]? = some (.cells #[.int .i64 first, .slice ad C.length cp] 29 (0, 0))) X2 ∧ (fun _ : World => True) X2 := ⟨(hbx2.block _ hw0).trans n0, trivial⟩
  refine ⟨_, rfl, ⟨hSS2.1, fun _ => trivial⟩, ?_⟩
  obtain ⟨a1, c1, rfl, hf1⟩ := hv1.form
  refine Ap.anyK_val1 (i := 5) (v := .slice a1 T.length c1) (w' := X2) (by decide +kernel) rfl rfl (by first | (go_simp; done) | (go_simp; rfl)) ⟨hSS2.1, trivial⟩ ?_
  refine Ap.wpAnyK_done (by decide +kernel) ?_ _
  have HB2 := Lib.hid (below_next (Below.drew hb0) hbx2)
  have HRow2 := Lib.hid ((HRow.out.below (Below.refl _ _).drew).below hbx2)
  have N2 := Lib.hid hSS2.1
  have HF1 := Lib.hid hf1
  have hz2 := (Array.getElem?_eq_some_iff.1 hSS2.1).1
  clear hSS hSS2 hbx2 hv1 hf1 KT HRow hb0 n0 KC
  go_wp2_with fail
  go_loopw [9, 11] (fun z i wr => ∃ k : Nat, k ≤ T.length ∧ i = .int .i64 k ∧ (∃ (ad : Option Addr) (c : Nat), z = .slice ad (allK p T k).length c ∧ OwnQ wr X2.heap.size z (allK p T k)) ∧ Below X2.heap.size X2 wr) (fun _ i _ => T.length - (intOf i).toNat)
  case atStart => exact ⟨0, Nat.zero_le _, rfl, ⟨none, 0, rfl, OwnQ.nil⟩, Below.refl _ _⟩
  case round =>
    obtain ⟨k, hk, rfl, ⟨az, cz, rfl, ho⟩, hbr⟩ := hrel
    have HO := Lib.hid ho
    clear ho
    by_cases hlt : k < T.length
    case pos =>
      have hd : decide (k < T.length) = true := decide_eq_true hlt
      have hix : (k : Int) < (T.length : Int) := by omega
      have hw1 : IntKind.i64.wrap ((k : Int) + 1) = ((k + 1 : Nat) : Int) := by rw [IntKind.wrap_i64]; omega
      obtain ⟨g1, rfl, hg1, hr1⟩ := HF1.out (by omega)
      have q0 := (hbr.cell (p := ⟨g1, k, none⟩) hg1).trans (hr1 k hlt)
      have hz0 := World.block_lt_of_cell? _ _ q0
      have d0 := cell_of_block (o := 0) ((hbr.block _ hz2).trans N2.out) rfl
      have d1 := cell_of_block (o := 1) ((hbr.block _ hz2).trans N2.out) rfl
      have hz1 := World.block_lt_of_cell? _ _ d0
      have hx : 0 ≤ T.getD k 0 ∧ T.getD k 0 < 1099511627776 := by
        have hmem : T.getD k 0 ∈ T := by rw [List.getD_eq_getElem?_getD, List.getElem?_eq_getElem hlt]; exact List.getElem_mem hlt
        exact ⟨(hTm _ hmem).1, (hTm _ hmem).2.2⟩
      have HRr := Lib.hid (HRow2.out.below hbr)
      have HNX := Lib.hid (allK_next p T k)
      have hal := allK_len p T k
      have HR1 := Lib.hid hr1
      obtain ⟨x, hxe⟩ : ∃ x, x = T.getD k 0 := ⟨_, rfl⟩
      rw [← hxe] at q0 hx HNX
      have KGx := Lib.hid (fun (X : World) (hX : Below wr.heap.size wr X) => KG2.out X (HRr.out.below hX) x hx)
      obtain ⟨b, hb⟩ : ∃ b, b = p x := ⟨_, rfl⟩
      rw [← hb] at KGx HNX
      obtain ⟨en, hen⟩ : ∃ e, e = endF T k := ⟨_, rfl⟩
      rw [← hen] at HNX
      generalize hAe : allK p T k = A at *
      have hnl : A.length ≤ k := hal
      clear hr1 hxe hb hAe hal
      -- the end
      go_upto_region 7 with fail
      go_upto_if 28 with fail
      go_cut [12] (fun s wx => s = .int .i64 en ∧ wx = wr)
      case first =>
        by_cases hl1 : k + 1 < T.length
        case pos =>
          have hd1 : decide (k + 1 < T.length) = true := decide_eq_true hl1
          have hix1 : (k : Int) + 1 < (T.length : Int) := by omega
          have h00 : (0 : Int) ≤ (k : Int) + 1 := by omega
          have q1 := (hbr.cell (p := ⟨g1, k + 1, none⟩) hg1).trans (HR1.out (k + 1) hl1)
          have hee : en = T.getD (k + 1) 0 := by rw [hen]; unfold endF; rw [if_pos hl1]
          rw [← hee] at q1
          clear hee hen
          go_wp2_with fail
          go_meet
          exact ⟨rfl, rfl⟩
        case neg =>
          have hd1 : decide (k + 1 < T.length) = false := decide_eq_false hl1
          have hee : en = 1099511627776 := by rw [hen]; unfold endF; rw [if_neg hl1]
          clear hen
          subst hee
          go_wp2_with fail
          go_meet
          exact ⟨rfl, rfl⟩
      case rest =>
      obtain ⟨rfl, rfl⟩ := hcut
      clear hen
      go_upto_region 9 with fail
      go_cut [41] (fun s wx => s = .bool b ∧ Below wc.heap.size wc wx)
      case first =>
        refine Rl.wp_region_rel (fun a b => Below a.heap.size a b) wc (fun a b c h h' => below_next h h') (fun a => Below.refl _ _) hmx (by kernel_rfl) (Below.refl _ _).drew ?_
        iterate 7 (refine Rl.textR_run ?_ (fun ρ => ?_) (fun ρ W hS hd => ?_) ?_; rotate_left; (focus go_simp); (focus (obtain ⟨hc, hf⟩ := bcell hS; go_simp; first | exact ⟨rfl, Below.refl _ _⟩ | (refine ⟨?_, Below.refl _ _⟩; rfl))); (try go_simp))
        (refine Rl.textR_run ?_ (fun ρ => ?_) (fun ρ W hS hd => ?_) ?_; rotate_left; (focus go_simp); (focus (obtain ⟨hc, hf⟩ := bcell hS; go_simp; refine (KGx.out _ hS).mono ?_; rintro e w1 ⟨rfl, hb⟩; refine ⟨_, rfl, ?_, hb⟩; rfl)); (try go_simp))
        refine Rl.textR_nil ?_
        intro ρ w1 hg hk1
        dsimp only
        go_wp2_with fail
        go_meet
        exact ⟨rfl, hg⟩
      case rest =>
      obtain ⟨rfl, hby⟩ := hcut
      have q1 := (hby.cell (p := ⟨g1, k, none⟩) hz0).trans q0
      have hbz := below_next hbr hby
      have hsz : X2.heap.size ≤ wc.heap.size := hbz.size
      have HOc := Lib.hid (HO.out.below hby)
      cases b with
      | true =>
        have HNY := Lib.hid (show allK p T (k + 1) = A ++ [(x, en)] from HNX.out)
        go_wp2_with (at_builtin; (refine wpList_append_rspan rfl _ _ rfl X2.heap.size (.slice az A.length cz) A rfl (HOc.out.below (below_alloc (Below.refl _ _) _)) wc.heap.size 1 (x, en) rfl (by first | (simp; done) | go_simp) (by first | (simp; done) | go_simp) (by omega) (by simp; omega) ?_; intro ad2 n2 c2 w3 hO3 hb3 _))
        have hn2 : n2 = (A ++ [(x, en)]).length := by
          rcases hO3.2 with ⟨e, h0⟩ | ⟨_, _, _, e, _⟩
          · cases e; exact h0.symm
          · cases e; rfl
        subst hn2
        exact ⟨⟨k + 1, by omega, rfl, ⟨ad2, c2, by rw [HNY.out], by rw [HNY.out]; exact hO3⟩, hbz.trans ((below_alloc (Below.refl _ _) _ |>.mono hsz).trans hb3)⟩, by show T.length - (((k + 1 : Nat) : Int)).toNat < T.length - ((k : Int)).toNat; omega⟩
      | false =>
        have HNY := Lib.hid (show allK p T (k + 1) = A from HNX.out.trans (by simp))
        go_wp2_with fail
        exact ⟨⟨k + 1, by omega, rfl, ⟨az, cz, by rw [HNY.out], by rw [HNY.out]; exact HOc.out⟩, hbz⟩, by show T.length - (((k + 1 : Nat) : Int)).toNat < T.length - ((k : Int)).toNat; omega⟩
    case neg =>
      have hd : decide (k < T.length) = false := decide_eq_false hlt
      obtain rfl : k = T.length := by omega
      have hal := allK_len p T T.length
      have hkj := rjoin_any az cz (allK p T T.length) (by omega) wr
      rw [← HJ.out] at hkj
      generalize allK p T T.length = A at *
      have hrow : 0 < A.length → ∃ b, az = some ⟨b, 0, none⟩ ∧ SpanRow wr b 0 A := fun h0 => by
        obtain ⟨ad', c', e, hh⟩ := HO.out.form
        obtain ⟨g', e', _, _⟩ := hh h0
        subst e'
        injection e with e1 _ _
        subst e1
        exact ⟨g', rfl, HO.out.row.1⟩
      have KJ := Lib.hid (hkj hrow)
      have hws : w.heap.size ≤ wr.heap.size := Nat.le_trans HB2.out.size hbr.size
      clear hrow hkj hal
      go_wp2_with fail
      refine KJ.out.mono ?_
      rintro e w3 ⟨ad3, c3, rfl, ho3, hb3⟩
      go_wp2_with fail
      go_ret
      exact ⟨ad3, c3, rfl, ho3.mono hws, HB2.out.trans ((below_next hbr hb3).mono HB2.out.size)⟩
end Go.Proofs.Ythdljigcfhjikaa
namespace Go.Proofs.Ythdljigcfhjikaa
set_option linter.unusedVariables false
open Go.ChangeShapes Go.WideShapes Go.ChangeAt Go.RowKit
attribute [local go_sem ↓] Go.wp_at_zero Go.wp_at_succ comesTo_value_eq comesTo_skip_eq comesTo_enter_eq Rl.comesToR_value_eq Rl.comesToR_skip_eq Rl.comesToR_enter_eq

theorem listR_lenF (first : Int) (C : List ChgC) : (listR first C).length ≤ (timesU C).length := by
  unfold listR
  have key : ∀ (ts : List Int) (l : List (Int × Int)), (ts.foldl (fun l t => layU l t (ratU first C t)) l).length ≤ l.length + ts.length := by
    intro ts
    induction ts with
    | nil => intro l; simp
    | cons t r ih =>
      intro l
      rw [List.foldl_cons, List.length_cons]
      have h1 := ih (layU l t (ratU first C t))
      have h2 := layU_len l t (ratU first C t)
      omega
  have := key (timesU C) []
  simpa using this
theorem steps_fewF {first : Int} {L : List (Int × Int)} {C : List ChgC} (h : LikeU first L C) (hr : RightU L) (hc : C.length ≤ 24) : L.length ≤ 49 := by
  have h1 := listR_lenF first C
  rw [like_list h hr] at h1
  have h2 := timesU_len C
  omega
/-- how many times, in bounds -/
def manyN (n : Int) : Int := if n > 1099511627776 ∨ n < -1099511627776 then 1099511627776 else n
theorem manyN_le (n : Int) : -1099511627776 ≤ manyN n ∧ manyN n ≤ 1099511627776 := by unfold manyN; split <;> omega
theorem many_mx {n : Int} (h : n ≤ 1099511627776) : mxS n 1 = maxU (clampI n) 1 := by
  unfold mxS maxU clampI
  (repeat' split) <;> omega
theorem many_mu {n : Int} (h : n ≤ 1099511627776) : maxU n 1 = maxU (clampI n) 1 := by
  unfold maxU clampI
  (repeat' split) <;> omega
theorem widest_least {L : List (Int × Int)} {f n : Int} (h : n ≤ 1099511627776) : widestU L f n = leastU L (clampI f) (maxU (clampI n) 1) := by
  unfold widestU leastU
  rw [many_mu h, clampI_of (clampI_le f).1 (clampI_le f).2]
/-- the law's last time, one span after the other -/
def foldA (T : Int × Int) (R : List (Int × Int)) : Int × Bool := R.foldl (fun a s => if (cutI s T).1 < (cutI s T).2 then ((cutI s T).2 - 1, true) else a) (0, false)
theorem foldA_next (T : Int × Int) {R : List (Int × Int)} {k : Nat} (h : k < R.length) : foldA T (R.take (k + 1)) = if (cutI (R.getD k (0, 0)) T).1 < (cutI (R.getD k (0, 0)) T).2 then ((cutI (R.getD k (0, 0)) T).2 - 1, true) else foldA T (R.take k) := by
  unfold foldA
  rw [List.take_add_one, List.foldl_append, List.getElem?_eq_getElem h, List.getD_eq_getElem?_getD, List.getElem?_eq_getElem h]
  rfl
theorem cut_zero {s T : Int × Int} (h : ¬ (cutI s T).1 < (cutI s T).2) : cutI s T = (0, 0) := by
  unfold cutI at *
  split
  · rfl
  · rename_i hc
    rw [if_neg hc] at h
    simp only at h
    omega
theorem foldA_acc {g : Int → Int} {F m W : Int} {T : Int × Int} {R : List (Int × Int)} (hS : StartsOk g F m W 0 R) (hF : F = clampI T.1) : foldA T R = accU T (insU T R) := by
  have hFb := clampI_le T.1
  have key : ∀ (R : List (Int × Int)) (pre : List (Int × Int)) , (∀ s ∈ R, 0 ≤ s.1 ∧ F ≤ s.1 ∧ s.1 < s.2 ∧ s.2 ≤ 1099511627776) → R.Pairwise (fun s s' => s.2 < s'.1) →
      R.foldl (fun a s => if (cutI s T).1 < (cutI s T).2 then ((cutI s T).2 - 1, true) else a) (accU T pre) = accU T (pre ++ insU T R) := by
    intro R
    induction R with
    | nil => intro pre _ _; unfold insU; simp
    | cons s r ih =>
      intro pre hl hp
      obtain ⟨hp1, hp2⟩ := List.pairwise_cons.1 hp
      rw [List.foldl_cons]
      by_cases hc : (cutI s T).1 < (cutI s T).2
      · rw [if_pos hc, ← accU_snoc T pre s, ih _ (fun x hx => hl x (List.mem_cons_of_mem _ hx)) hp2]
        have : insU T (s :: r) = s :: insU T r := by
          unfold insU
          rw [List.takeWhile_cons, if_pos (by simpa using hc)]
        rw [this, List.append_assoc, List.singleton_append]
      · rw [if_neg hc]
        have h0 : insU T (s :: r) = [] := by
          unfold insU
          rw [List.takeWhile_cons, if_neg (by simpa using hc)]
        rw [h0, List.append_nil]
        -- all later ones lie behind T
        have hs := hl s List.mem_cons_self
        have hend : clampI T.2 ≤ s.1 := by
          have e1 : clampI s.1 = s.1 := clampI_of hs.1 (by omega)
          have e2 : clampI s.2 = s.2 := clampI_of (by omega) hs.2.2.2
          unfold cutI bothF bothT at hc
          rw [e1, e2] at hc
          split at hc
          · omega
          · simp only at hc; omega
        have hrest : ∀ x ∈ r, ¬ (cutI x T).1 < (cutI x T).2 := fun x hx => by
          have hx1 := hp1 x hx
          have hxl := hl x (List.mem_cons_of_mem _ hx)
          have e1 : clampI x.1 = x.1 := clampI_of hxl.1 (by omega)
          have e2 : clampI x.2 = x.2 := clampI_of (by omega) hxl.2.2.2
          unfold cutI bothF bothT
          rw [e1, e2]
          split
          · simp
          · simp only; omega
        have hfix : ∀ (q : List (Int × Int)) (a : Int × Bool), (∀ x ∈ q, ¬ (cutI x T).1 < (cutI x T).2) → q.foldl (fun a s => if (cutI s T).1 < (cutI s T).2 then ((cutI s T).2 - 1, true) else a) a = a := by
          intro q
          induction q with
          | nil => intro a _; rfl
          | cons y q ih2 => intro a hq; rw [List.foldl_cons, if_neg (hq y List.mem_cons_self)]; exact ih2 a fun x hx => hq x (List.mem_cons_of_mem _ hx)
        exact hfix r _ hrest
  have := key R [] hS.low hS.rise
  unfold foldA
  rw [List.nil_append] at this
  exact this
/-- a row of changes lies where no block of five ints does -/
theorem RowC.keepAsk {w w' : World} {v : Value} {C : List ChgC} {B : Nat} {x0 x1 x2 x3 x4 : Int} {T : TypeId} (h : RowC w v C) (hB : w.heap[B]? = some (.cells #[.int .i64 x0, .int .i64 x1, .int .i64 x2, .int .i64 x3, .int .i64 x4] T (0, 0))) (hs : w.heap.size ≤ w'.heap.size) (hk : ∀ g, g ≠ B → w'.heap[g]? = w.heap[g]?) : RowC w' v C := by
  refine h.mono hs fun g hg hc hp => hk g ?_
  rintro rfl
  have hf := flatC_get C 0 hp
  have h2 := hc _ _ hf.2.2.1
  have e2 := cell_of_block (o := 2) hB rfl
  rw [show 0 * 4 + 2 = 2 by omega] at h2
  rw [h2] at e2
  cases e2
set_option maxRecDepth 100000 in
set_option maxHeartbeats 16000000 in
theorem finds_any (lad : Option Addr) (ll lcap : Nat) (A : Nat → ActU) (first f n W g h : Int) (w : World) (hA : ActsU w lad ll A) :
    Calls Try.prog 8 #[.int .i64 first, .slice lad ll lcap, .agg #[.int .i64 f, .int .i64 n, .int .i64 W, .int .i64 g, .int .i64 h]] w fun e w' => e = .returned (.bool true) ∧ Below w.heap.size w w' := by
  have hmx : Try.prog.follows .mixedOrders = true := by kernel_rfl
  have K1 := Lib.hid (fun W => fit_one W)
  have hb0 := below_alloc (Below.refl _ w) (.cells #[.int .i64 f, .int .i64 n, .int .i64 W, .int .i64 g, .int .i64 h] 70)
  have n0 := World.alloc_heap_new w (.cells #[.int .i64 f, .int .i64 n, .int .i64 W, .int .i64 g, .int .i64 h] 70)
  have hA0 := actsU_below hA hb0
  have KP := Lib.hid (play_ne lad ll lcap A first 10 (by decide) _ hA0)
  have hsz0 : w.heap.size < (w.alloc (.cells #[.int .i64 f, .int .i64 n, .int .i64 W, .int .i64 g, .int .i64 h] 70)).heap.size := by simp
  clear hA hA0
  go_enter Try.func8, Try.ntmps8
  go_upto_region 1 with fail
  generalize w.alloc (.cells #[.int .i64 f, .int .i64 n, .int .i64 W, .int .i64 g, .int .i64 h] 70) = W0 at *
  go_wp2_with fail
  refine KP.out.mono ?_
  rintro e W1 ⟨S, v, L, C, rfl, hS, hu, hr, hl, hrow, hcl, hlk, hb1, hne⟩
  obtain ⟨vad, vcp, rfl⟩ := hrow.form
  have hfew := steps_fewF hlk hr hcl
  have hb2 := below_alloc (Below.refl _ W1) (.cells #[.int .i64 first, .slice vad C.length vcp] 29)
  have nR := World.alloc_heap_new W1 (.cells #[.int .i64 first, .slice vad C.length vcp] 29)
  have hb12 := below_next hb1 hb2
  have hRw0 : w.heap.size < W1.heap.size := Nat.lt_of_lt_of_le hsz0 hb1.size
  have n0 := (hb12.block _ (Array.getElem?_eq_some_iff.1 n0).1).trans n0
  have hNe := (hne w.heap.size hsz0).below hb2
  have HU := Lib.hid (hu.below hb2)
  have HRow := Lib.hid (hrow.below hb2)
  have HB := Lib.hid (below_next hb0 hb12)
  have HR := Lib.hid hr
  have HLK := Lib.hid hlk
  clear hu hrow hb0 hb1 hb2 hb12 KP hne hr hlk
  go_upto_region 2 with fail
  obtain ⟨R, hRe⟩ : ∃ R, R = W1.heap.size := ⟨_, rfl⟩
  have hRw : w.heap.size < R := by rw [hRe]; exact hRw0
  rw [← hRe] at nR ⊢
  clear hRw0
  clear hRe
  generalize W1.alloc (.cells #[.int .i64 first, .slice vad C.length vcp] 29) = W2 at *
  have c0 := cell_of_block (o := 0) n0 rfl
  have c1 := cell_of_block (o := 1) n0 rfl
  have c2 := cell_of_block (o := 2) n0 rfl
  have hNl := manyN_le n
  obtain ⟨N, hN⟩ : ∃ N, N = manyN n := ⟨_, rfl⟩
  rw [← hN] at hNl
  refine wp_region_grow (fun w' => w' = W2.drew) hmx (by kernel_rfl) rfl ?_
  iterate 6 (refine textS_run ?_ ?_ (fun W hS => ?_) ?_; rotate_left; (focus go_simp); (focus (subst hS; go_simp; all_goals (first | exact ⟨rfl, rfl⟩ | rfl | (refine ⟨?_, rfl⟩; rfl)))); (try go_simp))
  refine textS_nil ?_
  have HU2 := Lib.hid (HU.out.below (Below.refl _ _).drew)
  have HRow2 := Lib.hid (HRow.out.below (Below.refl _ _).drew)
  have HB2 := Lib.hid (Below.drew HB.out)
  have N0 := Lib.hid (show W2.drew.heap[w.heap.size]? = _ from n0)
  have NR := Lib.hid (show W2.drew.heap[R]? = _ from nR)
  have HNe := Lib.hid (hNe.below (Below.refl _ _).drew)
  have hSR : w.heap.size < S := by omega
  clear HU HRow HB n0 nR c0 c1 c2 hNe
  generalize W2.drew = Y at *
  have hY0 := (Array.getElem?_eq_some_iff.1 N0.out).1
  obtain ⟨bq, hbq⟩ : ∃ b : Bool, b = decide (n > 1099511627776 ∨ n < -1099511627776) := ⟨_, rfl⟩
  have HQ := Lib.hid hbq
  have HN := Lib.hid hN
  clear hbq hN
  go_upto_region 3 with fail
  go_cut [36] (fun s wx => s = .bool bq ∧ wx = Y)
  case first =>
    by_cases h1 : n > 1099511627776
    case pos =>
      have hd1 : decide (n > 1099511627776) = true := decide_eq_true h1
      have hd : decide (n > 1099511627776 ∨ n < -1099511627776) = true := decide_eq_true (.inl h1)
      have HD := Lib.hid hd
      clear hd
      go_wp2_with fail
      go_meet
      exact ⟨by rw [HQ.out, HD.out], rfl⟩
    case neg =>
      have hd1 : decide (n > 1099511627776) = false := decide_eq_false h1
      have hd : decide (n > 1099511627776 ∨ n < -1099511627776) = decide (n < -1099511627776) := by rw [Bool.eq_iff_iff, decide_eq_true_eq, decide_eq_true_eq]; omega
      have HD := Lib.hid hd
      clear hd
      go_wp2_with fail
      go_meet
      exact ⟨by rw [HQ.out, HD.out], rfl⟩
  case rest =>
  obtain ⟨rfl, rfl⟩ := hcut
  go_upto_if 36 with fail
  go_cut [10] (fun s wx => s = .int .i64 N ∧ wx.heap[w.heap.size]? = some (.cells #[.int .i64 f, .int .i64 N, .int .i64 W, .int .i64 g, .int .i64 h] 70 (0, 0)) ∧ wx.heap[R]? = some (.cells #[.int .i64 first, .slice vad C.length vcp] 29 (0, 0)) ∧ USt wx S L ∧ RowC wx (.slice vad C.length vcp) C ∧ Below w.heap.size w wx)
  case first =>
    cases bq with
    | true =>
      have hc : n > 1099511627776 ∨ n < -1099511627776 := of_decide_eq_true HQ.out.symm
      have hN2 : N = 1099511627776 := by rw [HN.out]; unfold manyN; rw [if_pos hc]
      subst hN2
      have c1 := cell_of_block (o := 1) N0.out rfl
      have f1 := free_of_block 1 N0.out
      have hw := (wrote_refl N0.out).set 1 (.int .i64 1099511627776)
      have HX := Lib.hid (And.intro hw.there (And.intro ((hw.rest R (by omega)).trans NR.out) (And.intro (HU2.out.wrote HNe.out (by omega) (fun k hk => hw.rest k hk) (by rw [hw.size]; exact Nat.le_refl _)).1 (And.intro (HRow2.out.keepAsk N0.out (by rw [hw.size]; exact Nat.le_refl _) (fun k hk => hw.rest k hk)) (hw.below HB2.out (Nat.le_refl _))))))
      clear hw HN hc HQ
      go_wp2_with fail
      go_meet
      exact ⟨rfl, HX.out⟩
    | false =>
      have hc : ¬ (n > 1099511627776 ∨ n < -1099511627776) := of_decide_eq_false HQ.out.symm
      have hN2 : N = n := by rw [HN.out]; unfold manyN; rw [if_neg hc]
      subst hN2
      clear hc HN HQ
      go_wp2_with fail
      go_meet
      exact ⟨rfl, N0.out, NR.out, HU2.out, HRow2.out, HB2.out⟩
  case rest =>
  obtain ⟨rfl, z0, zR, zU, zC, zB⟩ := hcut
  clear N0 NR HU2 HRow2 HB2 HNe hY0
  rename World => Z
  have hwZ := (Array.getElem?_eq_some_iff.1 z0).1
  have hRZ := (Array.getElem?_eq_some_iff.1 zR).1
  have N0 := Lib.hid z0
  have NR := Lib.hid zR
  have HB := Lib.hid zB
  have HU := Lib.hid zU
  have hmb := maxU_le N
  have hmm := many_mx hNl.2
  have hwl := widest_least (L := L) (f := f) hNl.2
  obtain ⟨m, hme⟩ : ∃ m, m = maxU (clampI N) 1 := ⟨_, rfl⟩
  rw [← hme] at hmb hmm hwl
  have KS := Lib.hid (fun (X : World) (hx : Below Z.heap.size Z X) => spans_any (zU.below hx) HR.out (by omega) f N W)
  have KR := Lib.hid (fun (X : World) (hx : Below Z.heap.size Z X) a => rstarts_any (zC.below hx) hcl HLK.out HR.out a N m W hmb hmm)
  have KL := Lib.hid (fun (X : World) (hx : Below Z.heap.size Z X) => latest_any (w := X) (v := .pointer (some ⟨S, 0, none⟩)) g h N W HR.out zU.len (fun Y hy => levels_any ((zU.below hx).below hy)))
  have KE := Lib.hid (fun (X : World) (hx : Below Z.heap.size Z X) => (show Calls Try.prog 38 #[.pointer (some ⟨S, 0, none⟩), .int .i64 f, .int .i64 N, .int .i64 W] X fun e w' => e = .returned (.int .i64 (firstU (startsU L (clampI f) (maxU (clampI N) 1) W))) ∧ Below X.heap.size X w' from early_at (zU.below hx) HR.out f N W))
  have KRe := Lib.hid (fun (X : World) (hx : Below Z.heap.size Z X) => rearliest_any (zC.below hx) hcl HLK.out HR.out f N m W hmb hmm)
  have KW := Lib.hid (fun (X : World) (hx : Below Z.heap.size Z X) => widest_any (zU.below hx) f N)
  have KRl := Lib.hid (fun (X : World) (hx : Below Z.heap.size Z X) => rleast_any (zC.below hx) hcl HLK.out HR.out (clampI f) N m (clampI_le f) hmb hmm)
  have KC := Lib.hid (fun (X : World) => rclamp_any f X)
  have hS2 := starts_ok HR.out (F := clampI g) (W := W) (clampI_le g).1 hmb.1
  have hfold := foldA_acc (T := (g, h)) hS2 rfl
  have hl1 := startsU_len L (clampI f) m W
  have hl2 := startsU_len L (clampI g) m W
  rw [← hme] at KS KL KE
  rw [hwl] at KW
  obtain ⟨F, hFe⟩ : ∃ F, F = clampI f := ⟨_, rfl⟩
  rw [← hFe] at KC KS KE KRe KW KRl hl1
  have KR1 := Lib.hid (fun (X : World) (hx : Below Z.heap.size Z X) => hFe ▸ KR.out X hx f)
  have KR2 := Lib.hid (fun (X : World) (hx : Below Z.heap.size Z X) => KR.out X hx g)
  obtain ⟨R2, hR2⟩ : ∃ r, r = startsU L (clampI g) m W := ⟨_, rfl⟩
  rw [← hR2] at KR2 KL hS2 hfold hl2
  rw [← hfold] at KL
  obtain ⟨R1, hR1⟩ : ∃ r, r = startsU L F m W := ⟨_, rfl⟩
  rw [← hR1] at KR1 KS KE KRe hl1
  obtain ⟨lv, hlv⟩ : ∃ x, x = leastU L F m := ⟨_, rfl⟩
  rw [← hlv] at KW KRl
  obtain ⟨t1, ht1⟩ : ∃ x, x = firstU R1 := ⟨_, rfl⟩
  rw [← ht1] at KE KRe
  have HS2 := Lib.hid hS2
  clear hmm hwl hme hFe hR2 hR1 hlv ht1 hfold hS2 KR z0 zR zU zC zB HU HR HLK
  have c0 := cell_of_block (o := 0) N0.out rfl
  have c1 := cell_of_block (o := 1) N0.out rfl
  have c2 := cell_of_block (o := 2) N0.out rfl
  go_wp2_with fail
  refine (KS.out _ (Below.refl _ _)).mono ?_
  rintro e Z1 ⟨vx, rfl, hox, hb1⟩
  have HB1 := Lib.hid hb1
  obtain ⟨adx, capx, rfl, hcx⟩ : ∃ ad cap, vx = .slice ad R1.length cap ∧ ∀ k, k < R1.length → ∃ gr, ad = some ⟨gr, 0, none⟩ ∧ gr < Z1.heap.size ∧ Z1.cell? ⟨gr, k * 2, none⟩ = some (.int .i64 (R1.getD k (0, 0)).1) ∧ Z1.cell? ⟨gr, k * 2 + 1, none⟩ = some (.int .i64 (R1.getD k (0, 0)).2) := by
    rcases hox.form with ⟨e1, e2⟩ | ⟨gr, cc, e1, e2, e3⟩
    · rw [e1]
      exact ⟨none, 0, e2, fun k hk => absurd hk (Nat.not_lt_zero _)⟩
    · exact ⟨_, cc, e1, fun k hk => ⟨gr, rfl, World.block_lt_of_cell? Z1 _ (e3 k hk).1, e3 k hk⟩⟩
  have HCX := Lib.hid hcx
  clear hb1 c0 c1 c2 hox hcx KS
  have c2 := cell_of_block (o := 2) ((HB1.out.block _ hwZ).trans N0.out) rfl
  have d0 := cell_of_block (o := 0) ((HB1.out.block _ hRZ).trans NR.out) rfl
  have d1 := cell_of_block (o := 1) ((HB1.out.block _ hRZ).trans NR.out) rfl
  go_wp2_with fail
  refine (KR1.out _ HB1.out).mono ?_
  rintro e Z2 ⟨ady, capy, rfl, hoy, hb2⟩
  have HB2 := Lib.hid (below_next HB1.out hb2)
  have hcx2 : ∀ k, k < R1.length → ∃ gr, adx = some ⟨gr, 0, none⟩ ∧ gr < Z2.heap.size ∧ Z2.cell? ⟨gr, k * 2, none⟩ = some (.int .i64 (R1.getD k (0, 0)).1) ∧ Z2.cell? ⟨gr, k * 2 + 1, none⟩ = some (.int .i64 (R1.getD k (0, 0)).2) := fun k hk => by
    obtain ⟨gr, e, hg, q0, q1⟩ := HCX.out k hk
    exact ⟨gr, e, Nat.lt_of_lt_of_le hg hb2.size, (hb2.cell (p := ⟨gr, k * 2, none⟩) hg).trans q0, (hb2.cell (p := ⟨gr, k * 2 + 1, none⟩) hg).trans q1⟩
  have hcy : ∀ k, k < R1.length → ∃ gr, ady = some ⟨gr, 0, none⟩ ∧ gr < Z2.heap.size ∧ Z2.cell? ⟨gr, k * 2, none⟩ = some (.int .i64 (R1.getD k (0, 0)).1) ∧ Z2.cell? ⟨gr, k * 2 + 1, none⟩ = some (.int .i64 (R1.getD k (0, 0)).2) := fun k hk => by
    obtain ⟨ad', c', e, hh⟩ := hoy.form
    obtain ⟨g', e', _, hg'⟩ := hh (by omega)
    subst e'
    injection e with e1 _ _
    subst e1
    have hrow := hoy.row.1
    have q0 := hrow.c0 k hk
    have q1 := hrow.c1 k hk
    simp only [Nat.zero_add] at q0 q1
    exact ⟨g', rfl, hg', q0, q1⟩
  have HX2 := Lib.hid hcx2
  have HY2 := Lib.hid hcy
  clear hb2 hoy hcx2 hcy HCX c2 d0 d1 KR1
  go_wp2_with fail
  go_loopw [15] (fun i wr => ∃ k : Nat, k ≤ R1.length ∧ i = .int .i64 k ∧ Below Z2.heap.size Z2 wr) (fun i _ => R1.length - (intOf i).toNat)
  case atStart => exact ⟨0, Nat.zero_le _, rfl, Below.refl _ _⟩
  case round =>
    obtain ⟨k, hk, rfl, hBr⟩ := hrel
    by_cases hlt : k < R1.length
    case pos =>
      have hd : decide (k < R1.length) = true := decide_eq_true hlt
      have hix : (k : Int) < (R1.length : Int) := by omega
      have hw1 : IntKind.i64.wrap ((k : Int) + 1) = ((k + 1 : Nat) : Int) := by rw [IntKind.wrap_i64]; omega
      obtain ⟨gx, rfl, hgx, x0, x1⟩ := HX2.out k hlt
      obtain ⟨gy, rfl, hgy, y0, y1⟩ := HY2.out k hlt
      have x0 := (hBr.cell (p := ⟨gx, k * 2, none⟩) hgx).trans x0
      have x1 := (hBr.cell (p := ⟨gx, k * 2 + 1, none⟩) hgx).trans x1
      have y0 := (hBr.cell (p := ⟨gy, k * 2, none⟩) hgy).trans y0
      have y1 := (hBr.cell (p := ⟨gy, k * 2 + 1, none⟩) hgy).trans y1
      have lx := World.block_lt_of_cell? _ _ x0
      have ly := World.block_lt_of_cell? _ _ y0
      generalize (R1.getD k (0, 0)).1 = s1 at *
      generalize (R1.getD k (0, 0)).2 = s2 at *
      go_upto_region 14 with fail
      go_cut [72] (fun s wx => s = .bool false ∧ Below wr.heap.size wr wx)
      case first =>
        refine Rl.wp_region_rel (fun a b => Below a.heap.size a b) wr (fun a b c h h' => below_next h h') (fun a => Below.refl _ _) hmx (by kernel_rfl) (Below.refl _ _).drew ?_
        iterate 4 (refine Rl.textR_run ?_ (fun ρ => ?_) (fun ρ W hS hd => ?_) ?_; rotate_left; (focus go_simp); (focus (obtain ⟨hc, hf⟩ := bcell hS; go_simp; first | exact ⟨rfl, Below.refl _ _⟩ | (refine ⟨?_, Below.refl _ _⟩; rfl))); (try go_simp))
        (refine Rl.textR_run ?_ (fun ρ => ?_) (fun ρ W hS hd => ?_) ?_; rotate_left; (focus go_simp); (focus (obtain ⟨hc, hf⟩ := bcell hS; go_simp; refine (own_any _ _ _).mono ?_; rintro e w1 ⟨rfl, hb⟩; refine ⟨_, rfl, ?_, hb⟩; rfl)); (try go_simp))
        iterate 5 (refine Rl.textR_run ?_ (fun ρ => ?_) (fun ρ W hS hd => ?_) ?_; rotate_left; (focus go_simp); (focus (obtain ⟨hc, hf⟩ := bcell hS; go_simp; first | exact ⟨rfl, Below.refl _ _⟩ | (refine ⟨?_, Below.refl _ _⟩; rfl))); (try go_simp))
        refine Rl.textR_nil ?_
        intro ρ w1 hg hk1
        dsimp only
        go_wp2_with fail
        go_meet
        exact ⟨rfl, hg⟩
      case rest =>
      obtain ⟨rfl, hby⟩ := hcut
      go_wp2_with fail
      exact ⟨⟨k + 1, by omega, rfl, below_next hBr hby⟩, by show R1.length - (((k + 1 : Nat) : Int)).toNat < R1.length - ((k : Int)).toNat; omega⟩
    case neg =>
      have hd : decide (k < R1.length) = false := decide_eq_false hlt
      obtain rfl : k = R1.length := by omega
      have HBr := Lib.hid (below_next HB2.out hBr)
      clear hBr HX2 HY2
      have c2 := cell_of_block (o := 2) ((HBr.out.block _ hwZ).trans N0.out) rfl
      have c3 := cell_of_block (o := 3) ((HBr.out.block _ hwZ).trans N0.out) rfl
      have d0 := cell_of_block (o := 0) ((HBr.out.block _ hRZ).trans NR.out) rfl
      have d1 := cell_of_block (o := 1) ((HBr.out.block _ hRZ).trans NR.out) rfl
      go_wp2_with fail
      refine (KR2.out _ HBr.out).mono ?_
      rintro e Z3 ⟨adz, capz, rfl, hoz, hb3⟩
      have HB3 := Lib.hid (below_next HBr.out hb3)
      have hcz : ∀ k, k < R2.length → ∃ gr, adz = some ⟨gr, 0, none⟩ ∧ gr < Z3.heap.size ∧ Z3.cell? ⟨gr, k * 2, none⟩ = some (.int .i64 (R2.getD k (0, 0)).1) ∧ Z3.cell? ⟨gr, k * 2 + 1, none⟩ = some (.int .i64 (R2.getD k (0, 0)).2) := fun k hk => by
        obtain ⟨ad', c', e, hh⟩ := hoz.form
        obtain ⟨g', e', _, hg'⟩ := hh (by omega)
        subst e'
        injection e with e1 _ _
        subst e1
        have hrow := hoz.row.1
        have q0 := hrow.c0 k hk
        have q1 := hrow.c1 k hk
        simp only [Nat.zero_add] at q0 q1
        exact ⟨g', rfl, hg', q0, q1⟩
      have HZ3 := Lib.hid hcz
      clear hb3 hoz hcz c2 c3 d0 d1 KR2
      go_wp2_with fail
      go_loopw [13, 14, 17] (fun a b i wr => ∃ k : Nat, k ≤ R2.length ∧ i = .int .i64 k ∧ a = .int .i64 (foldA (g, h) (R2.take k)).1 ∧ b = .bool (foldA (g, h) (R2.take k)).2 ∧ Below Z3.heap.size Z3 wr) (fun _ _ i _ => R2.length - (intOf i).toNat)
      case atStart => exact ⟨0, Nat.zero_le _, rfl, rfl, rfl, Below.refl _ _⟩
      case round =>
        obtain ⟨k, hk, rfl, rfl, rfl, hBs⟩ := hrel
        by_cases hlt2 : k < R2.length
        case pos =>
          have hd2 : decide (k < R2.length) = true := decide_eq_true hlt2
          have hix : (k : Int) < (R2.length : Int) := by omega
          have hw1 : IntKind.i64.wrap ((k : Int) + 1) = ((k + 1 : Nat) : Int) := by rw [IntKind.wrap_i64]; omega
          obtain ⟨gz, rfl, hgz, z0, z1⟩ := HZ3.out k hlt2
          have z0 := (hBs.cell (p := ⟨gz, k * 2, none⟩) hgz).trans z0
          have z1 := (hBs.cell (p := ⟨gz, k * 2 + 1, none⟩) hgz).trans z1
          have lz := World.block_lt_of_cell? _ _ z0
          have HBs := Lib.hid (below_next HB3.out hBs)
          have c3 := cell_of_block (o := 3) ((HBs.out.block _ hwZ).trans N0.out) rfl
          have c4 := cell_of_block (o := 4) ((HBs.out.block _ hwZ).trans N0.out) rfl
          have lc := World.block_lt_of_cell? _ _ c3
          have HFN := Lib.hid (foldA_next (g, h) hlt2)
          have hCl := cutI_le (R2.getD k (0, 0)) (g, h)
          have hC0 := cut_zero (s := R2.getD k (0, 0)) (T := (g, h))
          have KCt := Lib.hid (fun X => (show Calls Try.prog 36 #[.agg #[.int .i64 (R2.getD k (0, 0)).1, .int .i64 (R2.getD k (0, 0)).2], .agg #[.int .i64 g, .int .i64 h]] X fun e w' => e = .returned (.agg #[.int .i64 (cutI (R2.getD k (0, 0)) (g, h)).1, .int .i64 (cutI (R2.getD k (0, 0)) (g, h)).2]) ∧ Below X.heap.size X w' from rcut_any _ _ g h X))
          obtain ⟨cu, hcu⟩ : ∃ c, c = cutI (R2.getD k (0, 0)) (g, h) := ⟨_, rfl⟩
          rw [← hcu] at HFN hCl hC0 KCt
          obtain ⟨e1, e2⟩ := cu
          simp only at HFN hCl hC0 KCt
          generalize (R2.getD k (0, 0)).1 = s1 at *
          generalize (R2.getD k (0, 0)).2 = s2 at *
          clear hcu
          generalize foldA (g, h) (R2.take k) = fk at *
          obtain ⟨fk1, fk2⟩ := fk
          simp only at HFN ⊢
          have HBsr := Lib.hid hBs
          clear hBs
          go_upto_region 20 with fail
          refine wp_region_boxes wr (by kernel_rfl) (by kernel_rfl) (Below.refl _ _) ?_
          iterate 6 (refine textB_det ?_ rfl rfl ?_ (fun W hS => ?_) ?_; rotate_left; (focus go_simp); (focus (obtain ⟨hc, hf⟩ := bcell hS; go_simp; first | (refine ⟨?_, Below.refl _ _⟩; rfl) | rfl | exact Below.refl _ _)); (try go_simp))
          (refine textB_det ?_ rfl rfl ?_ (fun W hS => ?_) ?_; rotate_left; (focus go_simp); (focus (obtain ⟨hc, hf⟩ := bcell hS; go_simp; refine (own_any _ _ _).mono ?_; rintro e w1 ⟨rfl, hb⟩; refine ⟨?_, hb⟩; rfl)); (try go_simp))
          (refine textB_det ?_ rfl rfl ?_ (fun W hS => ?_) ?_; rotate_left; (focus go_simp); (focus (obtain ⟨hc, hf⟩ := bcell hS; go_simp; refine (KCt.out _).mono ?_; rintro e w1 ⟨rfl, hb⟩; refine ⟨?_, hb⟩; rfl)); (try go_simp))
          (refine textB_al _ (38) (#[.int .i64 0, .int .i64 0]) rfl rfl rfl (fun ρ W => ?_) ?_; (focus (first | rfl | (go_simp; done) | (go_simp; rfl))); (try go_simp))
          (refine textB_st _ _ _ (#[.int .i64 e1, .int .i64 e2]) rfl rfl rfl rfl (fun b W hb => ?_) ?_; (focus (have c0 := cell_of_block (o := 0) hb rfl; have f0 := free_of_block 0 hb; have c1 := cell_of_block (o := 1) hb rfl; have f1 := free_of_block 1 hb; refine ⟨_, (by first | (go_simp; done) | (go_simp; rfl)), ((wrote_refl hb).set 0 (.int .i64 e1)).set 1 (.int .i64 e2)⟩)); (try go_simp))
          intro blk w5 hb5 hbx hbd
          have hq := hbx _ List.mem_cons_self
          dsimp only at hq
          simp only [List.map_cons, List.map_nil, putAll]
          obtain ⟨hq1, hq2⟩ := hq
          clear hbx hbd
          generalize blk 18 = bq at *
          clear blk
          have q0 := cell_of_block (o := 0) hq2 rfl
          have q1 := cell_of_block (o := 1) hq2 rfl
          have HB5 := Lib.hid (below_next HBsr.out hb5)
          clear hb5 z0 z1 c3 c4 lc lz
          by_cases hcc : e1 < e2
          case pos =>
            have hne2 : (e2 == 0) = false := beq_false_of_ne (by omega)
            have hne3 : ¬ e2 = 0 := by omega
            have hwe : IntKind.i64.wrap (e2 - 1) = e2 - 1 := by rw [IntKind.wrap_i64]; omega
            have HF2 := Lib.hid (show foldA (g, h) (R2.take (k + 1)) = (e2 - 1, true) by rw [HFN.out, if_pos hcc])
            clear hC0
            go_wp2_with fail
            exact ⟨⟨k + 1, by omega, rfl, by rw [HF2.out], by rw [HF2.out], HB5.out⟩, by show R2.length - (((k + 1 : Nat) : Int)).toNat < R2.length - ((k : Int)).toNat; omega⟩
          case neg =>
            have hz := hC0 hcc
            injection hz with hz1 hz2
            subst hz1 hz2
            have HF2 := Lib.hid (show foldA (g, h) (R2.take (k + 1)) = (fk1, fk2) by rw [HFN.out, if_neg hcc])
            clear hC0
            go_wp2_with fail
            exact ⟨⟨k + 1, by omega, rfl, by rw [HF2.out], by rw [HF2.out], HB5.out⟩, by show R2.length - (((k + 1 : Nat) : Int)).toNat < R2.length - ((k : Int)).toNat; omega⟩
        case neg =>
          have hd2 : decide (k < R2.length) = false := decide_eq_false hlt2
          obtain rfl : k = R2.length := by omega
          rw [List.take_length]
          have HBs := Lib.hid (below_next HB3.out hBs)
          clear hBs HZ3
          generalize foldA (g, h) R2 = fk at *
          obtain ⟨fk1, fk2⟩ := fk
          simp only at KL ⊢
          have c1 := cell_of_block (o := 1) ((HBs.out.block _ hwZ).trans N0.out) rfl
          have c2 := cell_of_block (o := 2) ((HBs.out.block _ hwZ).trans N0.out) rfl
          have c3 := cell_of_block (o := 3) ((HBs.out.block _ hwZ).trans N0.out) rfl
          have c4 := cell_of_block (o := 4) ((HBs.out.block _ hwZ).trans N0.out) rfl
          go_wp2_with fail
          refine (KL.out _ HBs.out).mono ?_
          rintro e Z5 ⟨rfl, hb5⟩
          have HB5 := Lib.hid (below_next HBs.out hb5)
          clear hb5 c1 c2 c3 c4
          have c0 := cell_of_block (o := 0) ((HB5.out.block _ hwZ).trans N0.out) rfl
          have c1 := cell_of_block (o := 1) ((HB5.out.block _ hwZ).trans N0.out) rfl
          have c2 := cell_of_block (o := 2) ((HB5.out.block _ hwZ).trans N0.out) rfl
          have d0 := cell_of_block (o := 0) ((HB5.out.block _ hRZ).trans NR.out) rfl
          have d1 := cell_of_block (o := 1) ((HB5.out.block _ hRZ).trans NR.out) rfl
          have lc := World.block_lt_of_cell? _ _ c0
          have ld := World.block_lt_of_cell? _ _ d0
          have KE5 := Lib.hid (fun (X : World) (hx : Below Z5.heap.size Z5 X) => KE.out X (below_next HB5.out hx))
          have KRe5 := Lib.hid (fun (X : World) (hx : Below Z5.heap.size Z5 X) => KRe.out X (below_next HB5.out hx))
          have KW5 := Lib.hid (fun (X : World) (hx : Below Z5.heap.size Z5 X) => KW.out X (below_next HB5.out hx))
          have KRl5 := Lib.hid (fun (X : World) (hx : Below Z5.heap.size Z5 X) => KRl.out X (below_next HB5.out hx))
          have KC5 := Lib.hid (fun (X : World) => (KC.out X).mono (R' := fun e w' => e = .returned (.int .i64 F) ∧ Below X.heap.size X w') fun e w' hh => ⟨hh.1, hh.2 ▸ Below.refl _ _⟩)
          clear KE KRe KW KRl KC KL
          go_upto_region 24 with fail
          refine Rl.wp_region_rel (fun a b => Below a.heap.size a b) Z5 (fun a b c h h' => below_next h h') (fun a => Below.refl _ _) hmx (by kernel_rfl) (Below.refl _ _).drew ?_
          iterate 7 (refine Rl.textR_run ?_ (fun ρ => ?_) (fun ρ W hS hd => ?_) ?_; rotate_left; (focus go_simp); (focus (obtain ⟨hc, hf⟩ := bcell hS; go_simp; first | exact ⟨rfl, Below.refl _ _⟩ | (refine ⟨?_, Below.refl _ _⟩; rfl))); (try go_simp))
          (refine Rl.textR_run ?_ (fun ρ => ?_) (fun ρ W hS hd => ?_) ?_; rotate_left; (focus go_simp); (focus (obtain ⟨hc, hf⟩ := bcell hS; go_simp; refine (KE5.out _ hS).mono ?_; rintro e w1 ⟨rfl, hb⟩; refine ⟨_, rfl, ?_, hb⟩; rfl)); (try go_simp))
          iterate 5 (refine Rl.textR_run ?_ (fun ρ => ?_) (fun ρ W hS hd => ?_) ?_; rotate_left; (focus go_simp); (focus (obtain ⟨hc, hf⟩ := bcell hS; go_simp; first | exact ⟨rfl, Below.refl _ _⟩ | (refine ⟨?_, Below.refl _ _⟩; rfl))); (try go_simp))
          (refine Rl.textR_run ?_ (fun ρ => ?_) (fun ρ W hS hd => ?_) ?_; rotate_left; (focus go_simp); (focus (obtain ⟨hc, hf⟩ := bcell hS; go_simp; refine (KRe5.out _ hS).mono ?_; rintro e w1 ⟨rfl, hb⟩; refine ⟨_, rfl, ?_, hb⟩; rfl)); (try go_simp))
          iterate 17 (refine Rl.textR_run ?_ (fun ρ => ?_) (fun ρ W hS hd => ?_) ?_; rotate_left; (focus go_simp); (focus (obtain ⟨hc, hf⟩ := bcell hS; go_simp; first | exact ⟨rfl, Below.refl _ _⟩ | (refine ⟨?_, Below.refl _ _⟩; rfl))); (try go_simp))
          (refine Rl.textR_run ?_ (fun ρ => ?_) (fun ρ W hS hd => ?_) ?_; rotate_left; (focus go_simp); (focus (obtain ⟨hc, hf⟩ := bcell hS; go_simp; refine (KW5.out _ hS).mono ?_; rintro e w1 ⟨rfl, hb⟩; refine ⟨_, rfl, ?_, hb⟩; rfl)); (try go_simp))
          iterate 2 (refine Rl.textR_run ?_ (fun ρ => ?_) (fun ρ W hS hd => ?_) ?_; rotate_left; (focus go_simp); (focus (obtain ⟨hc, hf⟩ := bcell hS; go_simp; first | exact ⟨rfl, Below.refl _ _⟩ | (refine ⟨?_, Below.refl _ _⟩; rfl))); (try go_simp))
          (refine Rl.textR_run ?_ (fun ρ => ?_) (fun ρ W hS hd => ?_) ?_; rotate_left; (focus go_simp); (focus (obtain ⟨hc, hf⟩ := bcell hS; go_simp; refine (KC5.out _).mono ?_; rintro e w1 ⟨rfl, hb⟩; refine ⟨_, rfl, ?_, hb⟩; rfl)); (try go_simp))
          (refine Rl.textR_run ?_ (fun ρ => ?_) (fun ρ W hS hd => ?_) ?_; rotate_left; (focus go_simp); (focus (obtain ⟨hc, hf⟩ := bcell hS; go_simp; first | exact ⟨rfl, Below.refl _ _⟩ | (refine ⟨?_, Below.refl _ _⟩; rfl))); (try go_simp))
          (refine Rl.textR_run ?_ (fun ρ => ?_) (fun ρ W hS hd => ?_) ?_; rotate_left; (focus go_simp); (focus (obtain ⟨hc, hf⟩ := bcell hS; go_simp; refine (KRl5.out _ hS).mono ?_; rintro e w1 ⟨rfl, hb⟩; refine ⟨_, rfl, ?_, hb⟩; rfl)); (try go_simp))
          iterate 3 (refine Rl.textR_run ?_ (fun ρ => ?_) (fun ρ W hS hd => ?_) ?_; rotate_left; (focus go_simp); (focus (obtain ⟨hc, hf⟩ := bcell hS; go_simp; first | exact ⟨rfl, Below.refl _ _⟩ | (refine ⟨?_, Below.refl _ _⟩; rfl))); (try go_simp))
          (refine Rl.textR_run ?_ (fun ρ => ?_) (fun ρ W hS hd => ?_) ?_; rotate_left; (focus go_simp); (focus (obtain ⟨hc, hf⟩ := bcell hS; go_simp; refine (K1.out _).mono ?_; rintro e w1 ⟨rfl, hb⟩; refine ⟨_, rfl, ?_, hb⟩; rfl)); (try go_simp))
          iterate 2 (refine Rl.textR_run ?_ (fun ρ => ?_) (fun ρ W hS hd => ?_) ?_; rotate_left; (focus go_simp); (focus (obtain ⟨hc, hf⟩ := bcell hS; go_simp; first | exact ⟨rfl, Below.refl _ _⟩ | (refine ⟨?_, Below.refl _ _⟩; rfl))); (try go_simp))
          refine Rl.textR_nil ?_
          intro ρ w6 hg6 hk6
          dsimp only
          go_wp2_with fail
          go_ret
          exact ⟨rfl, HB.out.trans ((below_next HB5.out hg6).mono HB.out.size)⟩
end Go.Proofs.Ythdljigcfhjikaa
