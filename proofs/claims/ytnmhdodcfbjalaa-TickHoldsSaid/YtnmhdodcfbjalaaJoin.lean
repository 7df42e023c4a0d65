/- Join of layer 1 (tick): some spans of which one at least is not empty. -/
import Derived.Test.YtnmhdodcfbjalaaSort
namespace Go.Proofs.Ytnmhdodcfbjalaa
set_option linter.unusedVariables false
open Go.ChangeShapes Go.WideShapes Go.ChangeAt Go.RowKit

/-- the spans that are not empty, in bounds -/
def cutsOf (l : List (Int × Int)) : List (Int × Int) := l.filterMap fun s => if clampI s.2 ≤ clampI s.1 then none else some (clampI s.1, clampI s.2)
/-- one span more behind those that rise -/
def stepJ (acc : List (Int × Int)) (s : Int × Int) : List (Int × Int) :=
  match acc.getLast? with
  | none => [s]
  | some o => if s.1 ≤ o.2 then acc.set (acc.length - 1) (o.1, max o.2 s.2) else acc ++ [s]
theorem cutsOf_succ (l : List (Int × Int)) (k : Nat) (h : k < l.length) : cutsOf (l.take (k + 1)) = if clampI (l.getD k (0, 0)).2 ≤ clampI (l.getD k (0, 0)).1 then cutsOf (l.take k) else cutsOf (l.take k) ++ [(clampI (l.getD k (0, 0)).1, clampI (l.getD k (0, 0)).2)] := by
  rw [List.take_succ_eq_append_getElem h]
  unfold cutsOf
  rw [List.filterMap_append]
  simp [List.getD, h]
  split <;> simp_all
theorem cutsOf_len (l : List (Int × Int)) : (cutsOf l).length ≤ l.length := List.length_filterMap_le _ _
def foldJ (l : List (Int × Int)) : List (Int × Int) := l.foldl stepJ []
theorem foldJ_succ (l : List (Int × Int)) (k : Nat) (h : k < l.length) : foldJ (l.take (k + 1)) = stepJ (foldJ (l.take k)) (l.getD k (0, 0)) := by
  rw [List.take_succ_eq_append_getElem h]
  unfold foldJ
  rw [List.foldl_append]
  simp [List.getD, h]
theorem flatS_set : ∀ (J : List (Int × Int)) (m : Nat) (b : Int), m < J.length → flatS (J.set m ((J.getD m (0, 0)).1, b)) = (flatS J).set (m * 2 + 1) (.int .i64 b)
  | p :: r, 0, b, _ => by simp [flatS]
  | p :: r, m + 1, b, h => by
    have := flatS_set r m b (by simpa using h)
    rw [show (m + 1) * 2 + 1 = m * 2 + 1 + 1 + 1 by omega]
    simpa [flatS] using this
theorem OwnS.put {w : World} {B g c m : Nat} {J : List (Int × Int)} {f2 t2 : Int} (h : OwnS w B (.slice (some ⟨g, 0, none⟩) (m + 1) c) J) (hm : J.length = m + 1) (ho : J.getD m (0, 0) = (f2, t2)) (hB : B ≤ g) (b : Int) :
    OwnS (w.setCell ⟨g, m * 2 + 1, none⟩ (.int .i64 b)) B (.slice (some ⟨g, 0, none⟩) (m + 1) c) (J.set m (f2, b)) ∧ Below B w (w.setCell ⟨g, m * 2 + 1, none⟩ (.int .i64 b)) := by
  have e := flatS_set J m b (by omega)
  rw [ho] at e
  unfold OwnS at h ⊢
  rw [hm] at h
  have := h.stored (m * 2 + 1) (.int .i64 b)
  rw [List.length_set, hm, e]
  exact ⟨this.1, (Below.refl _ _).setCell hB _⟩
theorem stepJ_last (J : List (Int × Int)) (m : Nat) (hm : J.length = m + 1) (s : Int × Int) : stepJ J s = if s.1 ≤ (J.getD m (0, 0)).2 then J.set m ((J.getD m (0, 0)).1, max (J.getD m (0, 0)).2 s.2) else J ++ [s] := by
  have e : J.getLast? = some (J.getD m (0, 0)) := by
    rw [List.getLast?_eq_getElem?, hm]
    simp [List.getD, hm]
  unfold stepJ
  rw [e, hm]
  rfl
theorem stepJ_len (acc : List (Int × Int)) (s : Int × Int) : (stepJ acc s).length ≤ acc.length + 1 := by
  unfold stepJ
  split
  · simp
  · split <;> simp
theorem foldJ_len (l : List (Int × Int)) : (foldJ l).length ≤ l.length := by
  have : ∀ (l acc : List (Int × Int)), (l.foldl stepJ acc).length ≤ acc.length + l.length := by
    intro l
    induction l with
    | nil => intro acc; simp
    | cons s l ih => intro acc; have := ih (stepJ acc s); have := stepJ_len acc s; simp; omega
  simpa [foldJ] using this l []

theorem OwnS.mono {w : World} {B B' : Nat} {v : Value} {l : List (Int × Int)} (h : OwnS w B v l) (hb : B' ≤ B) : OwnS w B' v l := by
  refine ⟨h.1, ?_⟩
  rcases h.2 with hn | ⟨g, cap, cur, hv, hB, rest⟩
  · exact .inl hn
  · exact .inr ⟨g, cap, cur, hv, by omega, rest⟩
/-- a row of spans in memory -/
structure SpanRow (w : World) (b off : Nat) (l : List (Int × Int)) : Prop where
  c0 : ∀ k, k < l.length → w.cell? ⟨b, off + k * 2, none⟩ = some (.int .i64 (l.getD k (0, 0)).1)
  c1 : ∀ k, k < l.length → w.cell? ⟨b, off + k * 2 + 1, none⟩ = some (.int .i64 (l.getD k (0, 0)).2)
theorem SpanRow.below {w w' : World} {b off : Nat} {l : List (Int × Int)} (h : SpanRow w b off l) (hb : Below w.heap.size w w') : SpanRow w' b off l :=
  ⟨fun k hk => (hb.cell (World.block_lt_of_cell? w _ (h.c0 k hk))).trans (h.c0 k hk), fun k hk => (hb.cell (World.block_lt_of_cell? w _ (h.c1 k hk))).trans (h.c1 k hk)⟩
theorem OwnS.row {w : World} {B g n c : Nat} {l : List (Int × Int)} (h : OwnS w B (.slice (some ⟨g, 0, none⟩) n c) l) : SpanRow w g 0 l ∧ ∀ j, w.frozen? ⟨g, j, none⟩ = false := by
  have hn : n = l.length := by
    rcases h.2 with ⟨e, _⟩ | ⟨g', cap, cur, e, _⟩ <;> cases e <;> rfl
  subst hn
  refine ⟨⟨fun k hk => ?_, fun k hk => ?_⟩, fun j => h.frozenAt j⟩
  · rw [Nat.zero_add, h.cellAt (k * 2) (by omega), flatS_get0 l k hk]
  · rw [Nat.zero_add, h.cellAt (k * 2 + 1) (by omega), flatS_get1 l k hk]
theorem OwnS.form {w : World} {B : Nat} {v : Value} {l : List (Int × Int)} (h : OwnS w B v l) : ∃ ad c, v = .slice ad l.length c ∧ (0 < l.length → ∃ g, ad = some ⟨g, 0, none⟩ ∧ B ≤ g ∧ g < w.heap.size) := by
  rcases h.2 with ⟨e, h0⟩ | ⟨g, cap, cur, e, hB, hg, _⟩
  · exact ⟨none, 0, by rw [e, h0], fun h => by omega⟩
  · exact ⟨_, cap, e, fun _ => ⟨g, rfl, hB, (Array.getElem?_eq_some_iff.1 hg).1⟩⟩

theorem keepJ {W0 W : World} {b c x y z u : Nat} {v0 v1 v2 v3 : Value} (c0 : W0.cell? ⟨b, x, none⟩ = some v0) (c1 : W0.cell? ⟨b, y, none⟩ = some v1) (c2 : W0.cell? ⟨c, z, none⟩ = some v2) (c3 : W0.cell? ⟨c, u, none⟩ = some v3) (h : Below W0.heap.size W0 W) :
    W.cell? ⟨b, x, none⟩ = some v0 ∧ W.cell? ⟨b, y, none⟩ = some v1 ∧ W.cell? ⟨c, z, none⟩ = some v2 ∧ W.cell? ⟨c, u, none⟩ = some v3 ∧ Below W0.heap.size W0 W :=
  ⟨(h.cell (World.block_lt_of_cell? W0 _ c0)).trans c0, (h.cell (World.block_lt_of_cell? W0 _ c1)).trans c1, (h.cell (World.block_lt_of_cell? W0 _ c2)).trans c2, (h.cell (World.block_lt_of_cell? W0 _ c3)).trans c3, h⟩
theorem touch_any (f t g u : Int) (w : World) :
    Calls Try.prog 59 #[.agg #[.int .i64 f, .int .i64 t], .agg #[.int .i64 g, .int .i64 u]] w fun e w' => e = .returned (.bool (decide (g ≤ t))) ∧ Below w.heap.size w w' := by
  go_enter Try.func59, Try.ntmps59
  go_wp2
  go_ret
  exact ⟨rfl, (by repeat (first | exact Below.refl _ _ | assumption | refine below_drewN ?_ _ | refine Below.drew ?_ | refine below_alloc ?_ _ | refine Below.alloc ?_ (by first | omega | (simp; done) | (simp; omega)) _ | refine Below.setCell ?_ (Below.size (by assumption)) _ | refine Below.setCell ?_ (by first | omega | (simp; done) | (simp; omega)) _ | (refine Below.trans ?_ (Below.mono (by assumption) (by first | omega | (simp; done) | (simp; omega)))) | refine below_next ?_ (by assumption)))⟩

set_option maxRecDepth 100000 in
set_option maxHeartbeats 2000000 in
theorem join_any (b off cap : Nat) (l : List (Int × Int)) (h63 : l.length ≤ 1099511627776) (hne : 0 < (cutsOf l).length) (w : World) (hrow : SpanRow w b off l) :
    Calls Try.prog 29 #[.slice (some ⟨b, off, none⟩) l.length cap] w fun e w' => ∃ (l' : List (Int × Int)) (v : Value), l'.Perm (cutsOf l) ∧ l'.Pairwise (fun x y => x.1 ≤ y.1) ∧ e = .returned v ∧ OwnS w' w.heap.size v (foldJ l') ∧ Below w.heap.size w w' := by
  have HR := Lib.hid hrow
  clear hrow
  go_enter Try.func29, Try.ntmps29
  go_wp2
  go_loopw [3, 13] (fun v i wr => ∃ k : Nat, k ≤ l.length ∧ i = .int .i64 k ∧ OwnS wr w.heap.size v (cutsOf (l.take k)) ∧ Below w.heap.size w wr) (fun _ i _ => l.length - (intOf i).toNat)
  case atStart => exact ⟨0, Nat.zero_le _, rfl, OwnS.nil, Below.refl _ _⟩
  case round =>
    obtain ⟨k, hk, rfl, hown, hbel⟩ := hrel
    by_cases hlt : k < l.length
    · have hc0 := (HR.out.below hbel).c0 k hlt
      have hc1 := (HR.out.below hbel).c1 k hlt
      have hsucc := Lib.hid (cutsOf_succ l k hlt)
      have hlen := cutsOf_len (l.take k)
      rw [List.length_take] at hlen
      generalize (l.getD k (0, 0)).1 = f at *
      generalize (l.getD k (0, 0)).2 = t at *
      have HB := Lib.hid hbel
      have HO := Lib.hid hown
      clear hbel hown
      by_cases hE : clampI t ≤ clampI f
      · have hd : decide (clampI t ≤ clampI f) = true := by simp [hE]
        have hs2 : cutsOf (l.take (k + 1)) = cutsOf (l.take k) := by rw [hsucc.out, if_pos hE]
        have HS := Lib.hid hs2
        clear hs2 hE
        go_wp2_with fail
        refine (empty_any f t _).mono ?_
        rintro e w1 ⟨rfl, hb1⟩
        rw [hd]
        have hbw : Below w.heap.size wr w1 := ((Below.refl _ wr).alloc (Nat.le_refl _) _).trans (hb1.mono (by simp)) |>.mono HB.out.size
        have hOw : OwnS w1 w.heap.size u3 (cutsOf (l.take k)) := HO.out.below (((Below.refl _ wr).alloc (Nat.le_refl _) _).trans (hb1.mono (by simp)))
        have HW := Lib.hid hbw
        have HP := Lib.hid hOw
        clear hbw hOw hb1
        go_wp2_with fail
        go_roundw
        case rel => exact ⟨k + 1, by omega, by go_num, by rw [HS.out]; exact HP.out, HB.out.trans HW.out⟩
        case measure => simp [intOf]; omega
      · have hd : decide (clampI t ≤ clampI f) = false := by simp [hE]
        have hs2 : cutsOf (l.take (k + 1)) = cutsOf (l.take k) ++ [(clampI f, clampI t)] := by rw [hsucc.out, if_neg hE]
        have HS := Lib.hid hs2
        clear hs2 hE
        go_wp2_with fail
        refine (empty_any f t _).mono ?_
        rintro e w1 ⟨rfl, hb1⟩
        rw [hd]
        have d0 : w1.cell? ⟨wr.heap.size, 0, none⟩ = some (.int .i64 f) := (hb1.cell (p := ⟨wr.heap.size, 0, none⟩) (by simp)).trans (by go_simp)
        have d1 : w1.cell? ⟨wr.heap.size, 1, none⟩ = some (.int .i64 t) := (hb1.cell (p := ⟨wr.heap.size, 1, none⟩) (by simp)).trans (by go_simp)
        have hbw : Below wr.heap.size wr w1 := ((Below.refl _ wr).alloc (Nat.le_refl _) _).trans (hb1.mono (by simp))
        have HW := Lib.hid hbw
        clear hbw hb1
        go_wp2_with fail
        refine (clamped_any f t _).mono ?_
        rintro e w2 ⟨rfl, hb2⟩
        have HW2 := Lib.hid (HW.out.trans (hb2.mono HW.out.size))
        have hz1 : w.heap.size ≤ w2.heap.size := Nat.le_trans HB.out.size HW2.out.size
        have hl1 : (cutsOf (l.take k)).length + 1 ≤ 1099511627776 := by omega
        clear hb2 d0 d1
        go_wp2_with (at_builtin; refine wpList_append_span rfl _ _ rfl w.heap.size u3 (cutsOf (l.take k)) rfl (HO.out.below (below_alloc HW2.out _)) w2.heap.size 1 (clampI f, clampI t) rfl (by simp) (by simp) hl1 (by simp; omega) ?_; intro ad n c w3 hO3 hb3)
        go_roundw
        case rel => exact ⟨k + 1, by omega, by go_num, by rw [HS.out]; exact hO3, (HB.out.trans ((below_alloc HW2.out _).mono HB.out.size)).trans hb3⟩
        case measure => simp [intOf]; omega
    · have hkl : l.take k = l := List.take_of_length_le (by omega)
      rw [hkl] at hown
      have hlen := cutsOf_len l
      obtain ⟨ad, cp, rfl, hform⟩ := hown.form
      obtain ⟨g, rfl, hg0, hg1⟩ := hform hne
      have HS := Lib.hid (sort_any wr w.heap.size _ _ cp (cutsOf l) hne hown (by omega) hbel.size)
      have HB := Lib.hid hbel
      clear hbel hown hform
      go_wp2_with fail
      refine HS.out.mono ?_
      rintro e w1 ⟨rfl, l', hp, hs, hO1, hb1⟩
      have hll := hp.length_eq
      rw [← hll] at hO1
      obtain ⟨hrow1, hfr1⟩ := OwnS.row (n := l'.length) hO1
      have HR1 := Lib.hid hrow1
      have HO1 := Lib.hid hO1
      have HB1 := Lib.hid (HB.out.trans hb1)
      have HP := Lib.hid hp
      have HSo := Lib.hid hs
      clear hrow1 hfr1 hO1 hb1 HS hp hs
      go_wp2_with fail
      go_loopw [7, 30] (fun v i w2 => ∃ q : Nat, q ≤ (cutsOf l).length ∧ i = .int .i64 q ∧ OwnS w2 w1.heap.size v (foldJ (l'.take q)) ∧ Below w1.heap.size w1 w2) (fun _ i _ => (cutsOf l).length - (intOf i).toNat)
      case atStart => exact ⟨0, Nat.zero_le _, rfl, OwnS.nil, Below.refl _ _⟩
      case round =>
        obtain ⟨q, hq, rfl, hown2, hbel2⟩ := hrel
        by_cases hlt2 : q < (cutsOf l).length
        · have hlt3 : q < l'.length := by omega
          have hc0 := (HR1.out.below hbel2).c0 q hlt3
          have hc1 := (HR1.out.below hbel2).c1 q hlt3
          have hsucc := Lib.hid (foldJ_succ l' q hlt3)
          have hlenJ := foldJ_len (l'.take q)
          rw [List.length_take] at hlenJ
          have hlJ : (foldJ (l'.take q)).length + 1 ≤ 1099511627776 := by omega
          rw [Nat.zero_add] at hc0 hc1
          generalize hs0 : l'.getD q (0, 0) = s at *
          obtain ⟨f, t⟩ := s
          generalize foldJ (l'.take q) = J at *
          by_cases hJ : J = []
          · subst hJ
            have HS := Lib.hid (show foldJ (l'.take (q + 1)) = [] ++ [(f, t)] from hsucc.out)
            obtain ⟨ad, cp2, rfl, _⟩ := hown2.form
            have HO2 := Lib.hid hown2
            have HB2 := Lib.hid hbel2
            clear hown2 hbel2 hsucc
            have hB0 : Below wr.heap.size wr (wr.alloc (.cells #[.int .i64 f, .int .i64 t] 24)).drew := ((Below.refl _ wr).alloc (Nat.le_refl _) _).drew
            have hl1 : ([] : List (Int × Int)).length + 1 ≤ 1099511627776 := by simp
            go_wp2_with fail
            go_region
            go_wp2_with (at_builtin; refine wpList_append_span rfl _ _ rfl w1.heap.size (.slice ad 0 cp2) [] rfl (HO2.out.below (below_alloc hB0 _)) _ 1 (f, t) rfl (by simp) (by simp) hl1 (by have := HB2.out.size; simp; omega) ?_; intro ad n c w3 hO3 hb3)
            go_roundw
            case rel => exact ⟨q + 1, by omega, by go_num, by rw [HS.out]; exact hO3, (HB2.out.trans ((below_alloc hB0 _).mono HB2.out.size)).trans hb3⟩
            case measure => simp [intOf]; omega
          · obtain ⟨m, hm⟩ : ∃ m, J.length = m + 1 := ⟨J.length - 1, by have := List.length_pos_iff.2 hJ; omega⟩
            have hst := stepJ_last J m hm (f, t)
            rw [hst] at hsucc
            obtain ⟨ad, cp2, rfl, hform2⟩ := hown2.form
            obtain ⟨g2, rfl, hg2, hg3⟩ := hform2 (by omega)
            rw [hm] at hown2 hlJ
            obtain ⟨hrow2, hfr2⟩ := OwnS.row hown2
            have jc0 := hrow2.c0 m (by omega)
            have jc1 := hrow2.c1 m (by omega)
            rw [Nat.zero_add] at jc0 jc1
            generalize hso : J.getD m (0, 0) = o at *
            obtain ⟨f2, t2⟩ := o
            have HO2 := Lib.hid hown2
            have HB2 := Lib.hid hbel2
            have HS := hsucc
            clear hown2 hbel2 hsucc hrow2
            rw [hm]
            have hT := fun W => touch_any f2 t2 f t W
            by_cases ht : f ≤ t2
            · have hd : decide (f ≤ t2) = true := by simp [ht]
              have HS2 := Lib.hid (show foldJ (l'.take (q + 1)) = J.set m (f2, max t2 t) by rw [HS.out, if_pos ht])
              rw [hd] at hT
              clear HS ht hst
              go_wp2_with fail
              have hx0 : Below wr.heap.size wr (wr.alloc (.cells #[.int .i64 f, .int .i64 t] 24)) := (Below.refl _ wr).alloc (Nat.le_refl _) _
              have d0 : (wr.alloc (.cells #[.int .i64 f, .int .i64 t] 24)).cell? ⟨wr.heap.size, 0, none⟩ = some (.int .i64 f) := by go_simp
              have d1 : (wr.alloc (.cells #[.int .i64 f, .int .i64 t] 24)).cell? ⟨wr.heap.size, 1, none⟩ = some (.int .i64 t) := by go_simp
              have e0 := (hx0.cell (p := ⟨g2, m * 2, none⟩) hg3).trans jc0
              have e1 := (hx0.cell (p := ⟨g2, m * 2 + 1, none⟩) hg3).trans jc1
              have e2 := (hx0.frozen (p := ⟨g2, m * 2 + 1, none⟩) hg3).trans (hfr2 _)
              have hz0 := hx0.size
              have hg4 : g2 < (wr.alloc (.cells #[.int .i64 f, .int .i64 t] 24)).heap.size := Nat.lt_of_lt_of_le hg3 hz0
              have HX := Lib.hid (HB2.out.trans (hx0.mono HB2.out.size))
              have HO3 := Lib.hid (HO2.out.below hx0)
              clear hx0 hz0 hc0 hc1 jc0 jc1 hg3 hform2 HO2 HB2 hfr2
              generalize wr.alloc (.cells #[.int .i64 f, .int .i64 t] 24) = W0 at *
              generalize wr.heap.size = gs at *
              have i0 : (0 : Int) ≤ (m : Int) := by omega
              have i1 : (m : Int) < (m : Int) + 1 := by omega
              go_region_held3 (fun w' => w'.cell? ⟨gs, 0, none⟩ = some (.int .i64 f) ∧ w'.cell? ⟨gs, 1, none⟩ = some (.int .i64 t) ∧ w'.cell? ⟨g2, m * 2, none⟩ = some (.int .i64 f2) ∧ w'.cell? ⟨g2, m * 2 + 1, none⟩ = some (.int .i64 t2) ∧ Below W0.heap.size W0 w') (exact keepJ d0 d1 e0 e1 (by repeat (first | exact Below.refl _ _ | assumption | refine below_drewN ?_ _ | refine Below.drew ?_ | refine below_alloc ?_ _ | refine Below.alloc ?_ (by first | omega | (simp; done) | (simp; omega)) _ | refine Below.setCell ?_ (Below.size (by assumption)) _ | refine Below.setCell ?_ (by first | omega | (simp; done) | (simp; omega)) _ | (refine Below.trans ?_ (Below.mono (by assumption) (by first | omega | (simp; done) | (simp; omega)))) | refine below_next ?_ (by assumption))))
                (first
                  | (go_at_call 59; refine (hT _).mono ?_; rintro e w4 ⟨rfl, hb4⟩; have hb' := below_next (W0 := W0) (by repeat (first | exact Below.refl _ _ | assumption | refine below_drewN ?_ _ | refine Below.drew ?_ | refine below_alloc ?_ _ | refine Below.alloc ?_ (by first | omega | (simp; done) | (simp; omega)) _ | refine Below.setCell ?_ (Below.size (by assumption)) _ | refine Below.setCell ?_ (by first | omega | (simp; done) | (simp; omega)) _ | (refine Below.trans ?_ (Below.mono (by assumption) (by first | omega | (simp; done) | (simp; omega)))) | refine below_next ?_ (by assumption))) hb4; clear hb4))
              obtain ⟨k0, k1, k2, k3, _⟩ := ‹w4.cell? ⟨gs, 0, none⟩ = _ ∧ _›
              have k5 := (hb'.frozen (p := ⟨g2, m * 2 + 1, none⟩) hg4).trans e2
              have HX4 := Lib.hid (HX.out.trans (hb'.mono HX.out.size))
              have HO4 := Lib.hid (HO3.out.below hb')
              clear hb' d0 d1 e0 e1 e2 HX HO3
              go_wp2_with fail
              go_region
              go_wp2_with fail
              have hput := HO4.out.put hm hso hg2 (max t2 t)
              go_roundw
              case rel => exact ⟨q + 1, by omega, by go_num, by rw [HS2.out]; exact hput.1, HX4.out.trans hput.2.drew⟩
              case measure => simp [intOf]; omega
            · have hd : decide (f ≤ t2) = false := by simp [ht]
              have HS2 := Lib.hid (show foldJ (l'.take (q + 1)) = J ++ [(f, t)] by rw [HS.out, if_neg ht])
              rw [hd] at hT
              clear HS ht hst
              go_wp2_with fail
              have hx0 : Below wr.heap.size wr (wr.alloc (.cells #[.int .i64 f, .int .i64 t] 24)) := (Below.refl _ wr).alloc (Nat.le_refl _) _
              have d0 : (wr.alloc (.cells #[.int .i64 f, .int .i64 t] 24)).cell? ⟨wr.heap.size, 0, none⟩ = some (.int .i64 f) := by go_simp
              have d1 : (wr.alloc (.cells #[.int .i64 f, .int .i64 t] 24)).cell? ⟨wr.heap.size, 1, none⟩ = some (.int .i64 t) := by go_simp
              have e0 := (hx0.cell (p := ⟨g2, m * 2, none⟩) hg3).trans jc0
              have e1 := (hx0.cell (p := ⟨g2, m * 2 + 1, none⟩) hg3).trans jc1
              have e2 := (hx0.frozen (p := ⟨g2, m * 2 + 1, none⟩) hg3).trans (hfr2 _)
              have hz0 := hx0.size
              have hg4 : g2 < (wr.alloc (.cells #[.int .i64 f, .int .i64 t] 24)).heap.size := Nat.lt_of_lt_of_le hg3 hz0
              have HX := Lib.hid (HB2.out.trans (hx0.mono HB2.out.size))
              have HO3 := Lib.hid (HO2.out.below hx0)
              clear hx0 hz0 hc0 hc1 jc0 jc1 hg3 hform2 HO2 HB2 hfr2
              generalize wr.alloc (.cells #[.int .i64 f, .int .i64 t] 24) = W0 at *
              generalize wr.heap.size = gs at *
              have i0 : (0 : Int) ≤ (m : Int) := by omega
              have i1 : (m : Int) < (m : Int) + 1 := by omega
              go_region_held3 (fun w' => w'.cell? ⟨gs, 0, none⟩ = some (.int .i64 f) ∧ w'.cell? ⟨gs, 1, none⟩ = some (.int .i64 t) ∧ w'.cell? ⟨g2, m * 2, none⟩ = some (.int .i64 f2) ∧ w'.cell? ⟨g2, m * 2 + 1, none⟩ = some (.int .i64 t2) ∧ Below W0.heap.size W0 w') (exact keepJ d0 d1 e0 e1 (by repeat (first | exact Below.refl _ _ | assumption | refine below_drewN ?_ _ | refine Below.drew ?_ | refine below_alloc ?_ _ | refine Below.alloc ?_ (by first | omega | (simp; done) | (simp; omega)) _ | refine Below.setCell ?_ (Below.size (by assumption)) _ | refine Below.setCell ?_ (by first | omega | (simp; done) | (simp; omega)) _ | (refine Below.trans ?_ (Below.mono (by assumption) (by first | omega | (simp; done) | (simp; omega)))) | refine below_next ?_ (by assumption))))
                (first
                  | (go_at_call 59; refine (hT _).mono ?_; rintro e w4 ⟨rfl, hb4⟩; have hb' := below_next (W0 := W0) (by repeat (first | exact Below.refl _ _ | assumption | refine below_drewN ?_ _ | refine Below.drew ?_ | refine below_alloc ?_ _ | refine Below.alloc ?_ (by first | omega | (simp; done) | (simp; omega)) _ | refine Below.setCell ?_ (Below.size (by assumption)) _ | refine Below.setCell ?_ (by first | omega | (simp; done) | (simp; omega)) _ | (refine Below.trans ?_ (Below.mono (by assumption) (by first | omega | (simp; done) | (simp; omega)))) | refine below_next ?_ (by assumption))) hb4; clear hb4))
              obtain ⟨k0, k1, k2, k3, _⟩ := ‹w4.cell? ⟨gs, 0, none⟩ = _ ∧ _›
              have k5 := (hb'.frozen (p := ⟨g2, m * 2 + 1, none⟩) hg4).trans e2
              have HX4 := Lib.hid (HX.out.trans (hb'.mono HX.out.size))
              have HO4 := Lib.hid (HO3.out.below hb')
              clear hb' d0 d1 e0 e1 e2 HX HO3
              have hz4 := HX4.out.size
              have hlJ2 : J.length + 1 ≤ 1099511627776 := by omega
              have HO5 := Lib.hid (show OwnS w4 w1.heap.size (.slice (some ⟨g2, 0, none⟩) (m + 1) cp2) J from HO4.out)
              go_wp2_with (at_builtin; refine wpList_append_span rfl _ _ rfl w1.heap.size (.slice (some ⟨g2, 0, none⟩) (m + 1) cp2) J rfl (HO5.out.below (below_alloc (Below.refl _ w4) _)) w4.heap.size 1 (f, t) rfl (by simp) (by simp) hlJ2 (by simp; omega) ?_; intro ad n c w5 hO6 hb6)
              go_roundw
              case rel => exact ⟨q + 1, by omega, by go_num, by rw [HS2.out]; exact hO6, (HX4.out.trans ((below_alloc (Below.refl _ w4) _).mono HX4.out.size)).trans hb6⟩
              case measure => simp [intOf]; omega
        · have hkq : l'.take q = l' := List.take_of_length_le (by omega)
          rw [hkq] at hown2
          have HO2 := Lib.hid hown2
          have HB2 := Lib.hid hbel2
          clear hown2 hbel2
          go_wp2_with fail
          go_ret
          exact ⟨l', _, HP.out, HSo.out, rfl, HO2.out.mono HB1.out.size, HB1.out.trans (HB2.out.mono HB1.out.size)⟩
end Go.Proofs.Ytnmhdodcfbjalaa
