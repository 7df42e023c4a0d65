/- The walk of SumTurned. No condition but the bytes' bounds. -/
import Derived.Test.YtnmhdodcfbjalaaSumTurnPlain
import Derived.Test.YtnmhdodcfbjalaaBldD
import Derived.RegionTactic
import Derived.BigRegion
namespace Go.Proofs.Ytnmhdodcfbjalaa
set_option linter.unusedVariables false
open Go.ChangeShapes Go.WideShapes Go.ChangeAt Go.RowKit
attribute [local go_sem ↓] Go.wp_at_zero Go.wp_at_succ comesTo_value_eq comesTo_skip_eq comesTo_enter_eq

theorem own_open {w : World} {B : Nat} {ad : Option Addr} {n c : Nat} {zs : List Int} (h : OwnTxt w B (.slice ad n c) zs) (h0 : 0 < zs.length) :
    ∃ g, ad = some ⟨g, 0, none⟩ ∧ n = zs.length ∧ B ≤ g ∧ BytesRow w g 0 zs ∧ g < w.heap.size ∧ (∀ o, w.frozen? ⟨g, o, none⟩ = false) := by
  rcases h.own.2 with ⟨_, h1⟩ | ⟨g, cap, cur, e, hB, hg, _⟩
  · omega
  · cases e
    have ha := h.at
    rcases ha with ⟨b, off, cap', e', _, hr⟩ | ⟨e', _⟩
    · cases e'
      refine ⟨g, rfl, rfl, hB, hr, ?_, fun o => by simp [World.frozen?, hg]⟩
      exact blk_lt hg
    · rw [e'] at h0; simp at h0
theorem row_set {w : World} {g : Nat} {zs : List Int} (h : BytesRow w g 0 zs) (k : Nat) (hk : k < zs.length) (t : Int) (t0 : 0 ≤ t) (t1 : t ≤ 255) : BytesRow (w.setCell ⟨g, k, none⟩ (.int .u8 t)) g 0 (zs.set k t) := by
  have hg : ∀ j, (zs.set k t).getD j 0 = if j = k ∧ k < zs.length then t else zs.getD j 0 := fun j => by
    by_cases hj : j = k
    · subst hj; simp [List.getD, hk]
    · simp [List.getD, List.getElem?_set_ne (Ne.symm hj), hj]
  refine ⟨fun j hj => ?_, fun j hj => ?_, fun j hj => ?_, by simpa using h.len⟩
  · rw [List.length_set] at hj
    rw [hg]
    have hc := h.cell j hj
    have hkc := h.cell k hk
    simp only [Nat.zero_add] at hc hkc ⊢
    by_cases hjk : j = k
    · subst hjk
      rw [if_pos ⟨rfl, hk⟩]
      go_simp
    · rw [if_neg (fun h => hjk h.1)]
      have hjk' : k ≠ j := fun h => hjk h.symm
      go_simp
  · rw [List.length_set] at hj
    rw [hg]
    split
    · exact t0
    · exact h.lo j hj
  · rw [List.length_set] at hj
    rw [hg]
    split
    · exact t1
    · exact h.hi j hj

theorem row_at {w : World} {b : Nat} {v : Value} {zs : List Int} {t : TypeId} (hb : w.heap[b]? = some (.cells #[v] t (0, 0))) (h : TxtAt w v zs) : TxtRow w b 0 [v] [zs] := {
  len := rfl
  few := by simp
  cell := fun k hk => by
    obtain rfl : k = 0 := by simp at hk; exact hk
    exact cell_of_block hb rfl
  txt := fun k hk => by
    obtain rfl : k = 0 := by simp at hk; exact hk
    exact h }
theorem sum_at (v : Value) (zs : List Int) (W0 : World) (hT : TxtAt W0 v zs) (t : TypeId) (b : Nat) (W : World) (hS : Below W0.heap.size W0 W) (hb : W.heap[b]? = some (.cells #[v] t (0, 0))) :
    Calls Try.prog 32 #[.slice (some ⟨b, 0, none⟩) 1 1] W fun e w' => e = .returned (.int .u32 (adler zs)) ∧ Below W.heap.size W w' := by
  have := sum_some b 0 1 _ [zs] (by simp) _ (row_at hb (hT.below hS))
  rw [takes1] at this
  exact this
set_option maxRecDepth 100000 in
set_option maxHeartbeats 8000000 in
theorem turned_main (b : Option Addr) (lb cb : Nat) (zb : List Int) (x tv : Int) (w : World) (bb off : Nat) (hbe : b = some ⟨bb, off, none⟩) (hbr : BytesRow w bb off zb) (hb : TxtAt w (.slice b lb cb) zb) (nb : zb.length = lb) (h0 : 0 < lb) (h3 : lb ≤ 3000) (t0 : 0 ≤ tv) (t1 : tv ≤ 255) :
    Calls Try.prog 6 #[.slice b lb cb, .int .i64 x, .int .u8 tv] w fun e w' => e = .returned (.bool true) ∧ Below w.heap.size w w' := by
  have d1 : ((lb : Int) == 0) = false := by simp; omega
  have d2 : decide (3000 < (lb : Int)) = false := by simp; omega
  have r0 : 0 ≤ x.tmod (lb : Int) % (lb : Int) := Int.emod_nonneg _ (by omega)
  have r1 : x.tmod (lb : Int) % (lb : Int) < (lb : Int) := Int.emod_lt_of_pos _ (by omega)
  have q0 : -(lb : Int) < x.tmod (lb : Int) := by have := Int.lt_tmod_of_pos x (show (0 : Int) < (lb : Int) by omega); omega
  have q1 : x.tmod (lb : Int) < (lb : Int) := Int.tmod_lt_of_pos x (by omega)
  have HB := Lib.hid hb
  have NB := Lib.hid nb
  clear hb nb
  go_enter Try.func6, Try.ntmps6
  go_upto_region 5 with (first
    | (at_builtin; refine wpList_append_txt (by rfl) (.tmp 30) (.tmp 31) (by rfl) w.heap.size (.slice (some ⟨w.heap.size, 0, none⟩) 0 0) [] (by rfl) ?_ (.slice b lb cb) zb (by rfl) ?_ ?_ ?_ ?_; (exact OwnTxt.new (Nat.le_refl _)); (exact HB.out.below (by repeat (first | exact Below.refl _ _ | assumption | refine below_drewN ?_ _ | refine Below.drew ?_ | refine below_alloc ?_ _ | refine Below.alloc ?_ (by first | omega | (simp; done) | (simp; omega)) _ | refine Below.setCell ?_ (Below.size (by assumption)) _ | refine Below.setCell ?_ (by first | omega | (simp; done) | (simp; omega)) _ | (refine Below.trans ?_ (Below.mono (by assumption) (by first | omega | (simp; done) | (simp; omega)))) | refine below_next ?_ (by assumption)))); (have := NB.out; simp; omega); (simp); intro ad1 n1 cp1 w1 o1 b1 gr1; clear gr1; have O1 := Lib.hid o1; have B1 := Lib.hid (((Below.refl _ _).alloc (Nat.le_refl _) _).trans b1); clear o1 b1))
  obtain ⟨k, hk⟩ := Int.eq_ofNat_of_zero_le r0
  have hkl : k < lb := by omega
  rw [hk]
  clear r0 r1 q0 q1 d1 d2 hk
  have hnb := NB.out
  have hl1 : 0 < ([] ++ zb : List Int).length := by simp; omega
  obtain ⟨g, e1, e2, hg, hrow, hglt, hfr⟩ := own_open O1.out hl1
  subst e1
  rw [List.nil_append] at hrow e2
  obtain rfl : n1 = lb := by omega
  have hlo : (0 : Int) ≤ (k : Int) := by omega
  have hhi : (k : Int) < (n1 : Int) := by omega
  have hck := hrow.cell k (by omega)
  rw [Nat.zero_add] at hck
  have hfk := hfr k
  have HROW := Lib.hid hrow
  have HFR := Lib.hid hfr
  clear O1 hl1 hrow hfr hnb e2
  go_wp2_with fail
  subst hbe
  have hnb := NB.out
  have hset := Lib.hid (row_set HROW.out k (by omega) tv t0 t1)
  have hsl : (zb.set k tv).length = n1 := by simp; exact NB.out
  have B2 := Lib.hid (show Below w.heap.size w (w1.setCell ⟨g, k, none⟩ (.int .u8 tv)) from B1.out.setCell (by show w.heap.size ≤ g; omega) _)
  generalize w1.setCell ⟨g, k, none⟩ (.int .u8 tv) = W2 at *
  have TC := Lib.hid (show TxtAt W2 (.slice (some ⟨g, 0, none⟩) n1 cp1) (zb.set k tv) from .inl ⟨g, 0, cp1, by rw [hsl], by omega, hset.out⟩)
  have TB := Lib.hid (HB.out.below B2.out)
  have RB := Lib.hid (hbr.below B2.out)
  have hE := adler_set zb k tv (by omega) (hbr.lo k (by omega)) (hbr.hi k (by omega)) t0 t1
  have hE1 : (adler (zb.set k tv) == adler zb) = (zb.getD k 0 == tv) := by
    rw [Bool.eq_iff_iff]; simp only [beq_iff_eq]; exact hE
  have SC := Lib.hid (fun t b W hS hb => sum_at _ _ W2 TC.out t b W hS hb)
  have SB := Lib.hid (fun t b W hS hb => sum_at _ _ W2 TB.out t b W hS hb)
  have hcb := RB.out.cell k (by omega)
  have lbb := World.block_lt_of_cell? _ _ hcb
  clear hE hck hfk HROW HFR hset hsl HB hbr hglt B1 hnb
  clear w1
  generalize adler (zb.set k tv) = X at *
  generalize hY : adler zb = Y at *
  have HY := Lib.hid hY
  clear hY
  refine Bld.wp_region_build W2 (by kernel_rfl) (by kernel_rfl) (Below.refl _ _) ?_
  (refine Bld.textB_det ?_ rfl rfl rfl ?_ (fun W hS => ?_) ?_; rotate_left; (focus go_simp); (focus (obtain ⟨hc, hf⟩ := bcell hS; go_simp; first | (refine ⟨?_, Below.refl _ _⟩; rfl) | rfl | exact Below.refl _ _)); (try go_simp))
  (refine Bld.textB_al _ ((47), (#[.slice (some ⟨g, 0, none⟩) n1 cp1]), (some 1)) rfl rfl rfl rfl (fun W => ?_) ?_; (focus (first | rfl | (go_simp; done) | (go_simp; rfl))); (try go_simp))
  (refine Bld.textB_use ?_ (38) _ rfl rfl rfl rfl (fun b => ?_) (fun b W hS hB hb => ?_) ?_; rotate_left; (focus go_simp); (focus (go_simp; refine (SC.out _ b W hS hb).mono ?_; rintro e w1 ⟨rfl, hbb⟩; refine ⟨?_, hbb⟩; rfl)); (try go_simp))
  (refine Bld.textB_det ?_ rfl rfl rfl ?_ (fun W hS => ?_) ?_; rotate_left; (focus go_simp); (focus (obtain ⟨hc, hf⟩ := bcell hS; go_simp; first | (refine ⟨?_, Below.refl _ _⟩; rfl) | rfl | exact Below.refl _ _)); (try go_simp))
  (refine Bld.textB_al _ ((47), (#[.slice (some ⟨bb, off, none⟩) n1 cb]), (some 1)) rfl rfl rfl rfl (fun W => ?_) ?_; (focus (first | rfl | (go_simp; done) | (go_simp; rfl))); (try go_simp))
  (refine Bld.textB_use ?_ (41) _ rfl rfl rfl rfl (fun b => ?_) (fun b W hS hB hb => ?_) ?_; rotate_left; (focus go_simp); (focus (go_simp; refine (SB.out _ b W hS hb).mono ?_; rintro e w1 ⟨rfl, hbb⟩; refine ⟨?_, hbb⟩; rfl)); (try go_simp))
  (refine Bld.textB_det ?_ rfl rfl rfl ?_ (fun W hS => ?_) ?_; rotate_left; (focus go_simp); (focus (obtain ⟨hc, hf⟩ := bcell hS; go_simp; first | (refine ⟨?_, Below.refl _ _⟩; rfl) | rfl | exact Below.refl _ _)); (try go_simp))
  (refine Bld.textB_det ?_ rfl rfl rfl ?_ (fun W hS => ?_) ?_; rotate_left; (focus go_simp); (focus (obtain ⟨hc, hf⟩ := bcell hS; go_simp; first | (refine ⟨?_, Below.refl _ _⟩; rfl) | rfl | exact Below.refl _ _)); (try go_simp))
  (refine Bld.textB_det ?_ rfl rfl rfl ?_ (fun W hS => ?_) ?_; rotate_left; (focus go_simp); (focus (obtain ⟨hc, hf⟩ := bcell hS; go_simp; first | (refine ⟨?_, Below.refl _ _⟩; rfl) | rfl | exact Below.refl _ _)); (try go_simp))
  (refine Bld.textB_det ?_ rfl rfl rfl ?_ (fun W hS => ?_) ?_; rotate_left; (focus go_simp); (focus (obtain ⟨hc, hf⟩ := bcell hS; go_simp; first | (refine ⟨?_, Below.refl _ _⟩; rfl) | rfl | exact Below.refl _ _)); (try go_simp))
  (refine Bld.textB_det ?_ rfl rfl rfl ?_ (fun W hS => ?_) ?_; rotate_left; (focus go_simp); (focus (obtain ⟨hc, hf⟩ := bcell hS; go_simp; first | (refine ⟨?_, Below.refl _ _⟩; rfl) | rfl | exact Below.refl _ _)); (try go_simp))
  (refine Bld.textB_det ?_ rfl rfl rfl ?_ (fun W hS => ?_) ?_; rotate_left; (focus go_simp); (focus (obtain ⟨hc, hf⟩ := bcell hS; go_simp; first | (refine ⟨?_, Below.refl _ _⟩; rfl) | rfl | exact Below.refl _ _)); (try go_simp))
  (refine Bld.textB_det ?_ rfl rfl rfl ?_ (fun W hS => ?_) ?_; rotate_left; (focus go_simp); (focus (obtain ⟨hc, hf⟩ := bcell hS; go_simp; first | (refine ⟨?_, Below.refl _ _⟩; rfl) | rfl | exact Below.refl _ _)); (try go_simp))
  (refine Bld.textB_det ?_ rfl rfl rfl ?_ (fun W hS => ?_) ?_; rotate_left; (focus go_simp); (focus (obtain ⟨hc, hf⟩ := bcell hS; go_simp; first | (refine ⟨?_, Below.refl _ _⟩; rfl) | rfl | exact Below.refl _ _)); (try go_simp))
  intro blk w3 hb3 hn1 hn2
  clear hn1 hn2
  simp only [Bld.putZ, Bld.mkVal]
  generalize blk 38 = z38 at *
  generalize blk 41 = z41 at *
  clear blk
  go_simp
  clear hcb lbb TC SC SB hE1
  have B3 := Lib.hid (B2.out.trans (hb3.mono B2.out.size))
  have TB3 := Lib.hid (TB.out.below hb3)
  have RB3 := Lib.hid (RB.out.below hb3)
  clear TB RB B2 hb3
  clear W2
  obtain ⟨n, hn, hnl, hcase⟩ : ∃ n : Nat, ((k : Int) + 1) % (n1 : Int) = (n : Int) ∧ n < n1 ∧ (n = k + 1 ∨ (n = 0 ∧ k = n1 - 1)) := by
    by_cases h : k + 1 < n1
    · exact ⟨k + 1, by rw [Int.emod_eq_of_lt (by omega) (by omega)]; omega, h, .inl rfl⟩
    · have e : (k : Int) + 1 = (n1 : Int) := by omega
      exact ⟨0, by rw [e]; simp, h0, .inr ⟨rfl, by omega⟩⟩
  have HC := Lib.hid hcase
  clear hcase
  go_upto_region 10 with (first
    | (at_builtin; refine wpList_append_txt (by rfl) (.tmp 56) (.tmp 57) (by rfl) w3.heap.size (.slice (some ⟨w3.heap.size, 0, none⟩) 0 0) [] (by rfl) ?_ (.slice (some ⟨bb, off, none⟩) n1 cb) zb (by rfl) ?_ ?_ ?_ ?_; (exact OwnTxt.new (Nat.le_refl _)); (exact TB3.out.below (by repeat (first | exact Below.refl _ _ | assumption | refine below_drewN ?_ _ | refine Below.drew ?_ | refine below_alloc ?_ _ | refine Below.alloc ?_ (by first | omega | (simp; done) | (simp; omega)) _ | refine Below.setCell ?_ (Below.size (by assumption)) _ | refine Below.setCell ?_ (by first | omega | (simp; done) | (simp; omega)) _ | (refine Below.trans ?_ (Below.mono (by assumption) (by first | omega | (simp; done) | (simp; omega)))) | refine below_next ?_ (by assumption)))); (have := NB.out; simp; omega); (simp); intro ad2 n2 cp2 w4 o2 b2 gr2; clear gr2; have O2 := Lib.hid o2; have B4 := Lib.hid (((Below.refl _ _).alloc (Nat.le_refl _) _).trans b2); clear o2 b2))
  have hnb := NB.out
  have hl1 : 0 < ([] ++ zb : List Int).length := by simp; omega
  obtain ⟨g2, e1, e2, hg2, hrow, hglt, hfr⟩ := own_open O2.out hl1
  subst e1
  rw [List.nil_append] at hrow e2
  obtain rfl : n2 = n1 := by omega
  have B5 := Lib.hid (B3.out.trans (B4.out.mono B3.out.size))
  have RB4 := RB3.out.below B4.out
  have hbl := World.block_lt_of_cell? _ _ (RB3.out.cell k (by omega))
  have hne : bb ≠ g2 := by have : bb < w3.heap.size := hbl; omega
  have hne' : g2 ≠ bb := fun h => hne h.symm
  clear hn hbl
  have hnlo : (0 : Int) ≤ (n : Int) := by omega
  have hnhi : (n : Int) < (n2 : Int) := by omega
  have lk := RB4.cell k (by omega)
  have ln := RB4.cell n (by omega)
  have mk := hrow.cell k (by omega)
  have mn := hrow.cell n (by omega)
  rw [Nat.zero_add] at mk mn
  have fk := hfr k
  have fn := hfr n
  have HR2 := Lib.hid hrow
  have HB4 := Lib.hid RB4
  have bdk := Lib.hid (And.intro (hrow.lo k (by omega)) (hrow.hi k (by omega)))
  have bdn := Lib.hid (And.intro (hrow.lo n (by omega)) (hrow.hi n (by omega)))
  have hsw := adler_swap zb k n (by omega) (by omega) (by omega) (fun i hi => ⟨hrow.lo i hi, hrow.hi i hi⟩) (by rw [hnb]; exact HC.out)
  obtain ⟨zk, hzk⟩ : ∃ z, zb.getD k 0 = z := ⟨_, rfl⟩
  obtain ⟨zn, hzn⟩ : ∃ z, zb.getD n 0 = z := ⟨_, rfl⟩
  rw [hzk, hzn, HY.out] at hsw
  rw [hzk] at lk mk bdk
  rw [hzn] at ln mn bdn
  have HS := Lib.hid hsw
  have TB4 := Lib.hid (TB3.out.below B4.out)
  have hrow2 := row_set (row_set HR2.out k (by omega) zn bdn.out.1 bdn.out.2) n (by simp; omega) zk bdk.out.1 bdk.out.2
  have hlen2 : ((zb.set k zn).set n zk).length = n2 := by simp; exact hnb
  have TD := Lib.hid (show TxtAt ((w4.setCell ⟨g2, k, none⟩ (.int .u8 zn)).setCell ⟨g2, n, none⟩ (.int .u8 zk)).drew (.slice (some ⟨g2, 0, none⟩) n2 cp2) ((zb.set k zn).set n zk) from
    .inl ⟨g2, 0, cp2, by rw [hlen2], by omega, ⟨hrow2.cell, hrow2.lo, hrow2.hi, hrow2.len⟩⟩)
  have B5b := Lib.hid (show Below w3.heap.size w4 ((w4.setCell ⟨g2, k, none⟩ (.int .u8 zn)).setCell ⟨g2, n, none⟩ (.int .u8 zk)).drew from (((Below.refl _ _).setCell (by show w3.heap.size ≤ g2; omega) _).setCell (by show w3.heap.size ≤ g2; omega) _).drew)
  have B5c := Lib.hid (B4.out.trans B5b.out)
  have TB5 := Lib.hid (TB3.out.below B5c.out)
  have RB5 := RB3.out.below B5c.out
  have B6 := Lib.hid (B3.out.trans (B5c.out.mono B3.out.size))
  have ck := RB5.cell k (by omega)
  have cn := RB5.cell n (by omega)
  rw [hzk] at ck
  rw [hzn] at cn
  have lbb := World.block_lt_of_cell? _ _ ck
  have SD := Lib.hid (fun t b W hS hb => sum_at _ _ _ TD.out t b W hS hb)
  have SB5 := Lib.hid (fun t b W hS hb => sum_at _ _ _ TB5.out t b W hS hb)
  rw [HY.out] at SB5
  have hS1 : (adler ((zb.set k zn).set n zk) == Y) = (zk == zn) := by
    rw [Bool.eq_iff_iff]; simp only [beq_iff_eq]; exact hsw
  generalize adler ((zb.set k zn).set n zk) = X2 at *
  have hkz : k = n → zk = zn := fun h => by rw [← hzk, ← hzn, h]
  clear hsw HS hrow hfr RB4 RB5 hl1 O2 e2 hnb hzk hzn hrow2 hlen2 TD TB5 B5b B5c B5 HY
  by_cases hkn : k = n
  · obtain rfl := hkz hkn
    subst hkn
    clear hkz
    go_region
    go_wp2_with fail
    generalize ((w4.setCell ⟨g2, k, none⟩ (.int .u8 zk)).setCell ⟨g2, k, none⟩ (.int .u8 zk)).drew = W5 at *
    clear fk fn mk mn lk ln HR2 HB4 TB4 hne hne' hglt B3 B4 TB3 RB3 bdk bdn HC
    clear w4
    refine Bld.wp_region_build W5 (by kernel_rfl) (by kernel_rfl) (Below.refl _ _) ?_
    (refine Bld.textB_det ?_ rfl rfl rfl ?_ (fun W hS => ?_) ?_; rotate_left; (focus go_simp); (focus (obtain ⟨hc, hf⟩ := bcell hS; go_simp; first | (refine ⟨?_, Below.refl _ _⟩; rfl) | rfl | exact Below.refl _ _)); (try go_simp))
    (refine Bld.textB_al _ ((47), (#[.slice (some ⟨g2, 0, none⟩) n2 cp2]), (some 1)) rfl rfl rfl rfl (fun W => ?_) ?_; (focus (first | rfl | (go_simp; done) | (go_simp; rfl))); (try go_simp))
    (refine Bld.textB_use ?_ (74) _ rfl rfl rfl rfl (fun b => ?_) (fun b W hS hB hb => ?_) ?_; rotate_left; (focus go_simp); (focus (go_simp; refine (SD.out _ b W hS hb).mono ?_; rintro e w1 ⟨rfl, hbb⟩; refine ⟨?_, hbb⟩; rfl)); (try go_simp))
    (refine Bld.textB_det ?_ rfl rfl rfl ?_ (fun W hS => ?_) ?_; rotate_left; (focus go_simp); (focus (obtain ⟨hc, hf⟩ := bcell hS; go_simp; first | (refine ⟨?_, Below.refl _ _⟩; rfl) | rfl | exact Below.refl _ _)); (try go_simp))
    (refine Bld.textB_al _ ((47), (#[.slice (some ⟨bb, off, none⟩) n2 cb]), (some 1)) rfl rfl rfl rfl (fun W => ?_) ?_; (focus (first | rfl | (go_simp; done) | (go_simp; rfl))); (try go_simp))
    (refine Bld.textB_use ?_ (77) _ rfl rfl rfl rfl (fun b => ?_) (fun b W hS hB hb => ?_) ?_; rotate_left; (focus go_simp); (focus (go_simp; refine (SB5.out _ b W hS hb).mono ?_; rintro e w1 ⟨rfl, hbb⟩; refine ⟨?_, hbb⟩; rfl)); (try go_simp))
    (refine Bld.textB_det ?_ rfl rfl rfl ?_ (fun W hS => ?_) ?_; rotate_left; (focus go_simp); (focus (obtain ⟨hc, hf⟩ := bcell hS; go_simp; first | (refine ⟨?_, Below.refl _ _⟩; rfl) | rfl | exact Below.refl _ _)); (try go_simp))
    (refine Bld.textB_det ?_ rfl rfl rfl ?_ (fun W hS => ?_) ?_; rotate_left; (focus go_simp); (focus (obtain ⟨hc, hf⟩ := bcell hS; go_simp; first | (refine ⟨?_, Below.refl _ _⟩; rfl) | rfl | exact Below.refl _ _)); (try go_simp))
    (refine Bld.textB_det ?_ rfl rfl rfl ?_ (fun W hS => ?_) ?_; rotate_left; (focus go_simp); (focus (obtain ⟨hc, hf⟩ := bcell hS; go_simp; first | (refine ⟨?_, Below.refl _ _⟩; rfl) | rfl | exact Below.refl _ _)); (try go_simp))
    (refine Bld.textB_det ?_ rfl rfl rfl ?_ (fun W hS => ?_) ?_; rotate_left; (focus go_simp); (focus (obtain ⟨hc, hf⟩ := bcell hS; go_simp; first | (refine ⟨?_, Below.refl _ _⟩; rfl) | rfl | exact Below.refl _ _)); (try go_simp))
    (refine Bld.textB_det ?_ rfl rfl rfl ?_ (fun W hS => ?_) ?_; rotate_left; (focus go_simp); (focus (obtain ⟨hc, hf⟩ := bcell hS; go_simp; first | (refine ⟨?_, Below.refl _ _⟩; rfl) | rfl | exact Below.refl _ _)); (try go_simp))
    (refine Bld.textB_det ?_ rfl rfl rfl ?_ (fun W hS => ?_) ?_; rotate_left; (focus go_simp); (focus (obtain ⟨hc, hf⟩ := bcell hS; go_simp; first | (refine ⟨?_, Below.refl _ _⟩; rfl) | rfl | exact Below.refl _ _)); (try go_simp))
    (refine Bld.textB_det ?_ rfl rfl rfl ?_ (fun W hS => ?_) ?_; rotate_left; (focus go_simp); (focus (obtain ⟨hc, hf⟩ := bcell hS; go_simp; first | (refine ⟨?_, Below.refl _ _⟩; rfl) | rfl | exact Below.refl _ _)); (try go_simp))
    (refine Bld.textB_det ?_ rfl rfl rfl ?_ (fun W hS => ?_) ?_; rotate_left; (focus go_simp); (focus (obtain ⟨hc, hf⟩ := bcell hS; go_simp; first | (refine ⟨?_, Below.refl _ _⟩; rfl) | rfl | exact Below.refl _ _)); (try go_simp))
    (refine Bld.textB_det ?_ rfl rfl rfl ?_ (fun W hS => ?_) ?_; rotate_left; (focus go_simp); (focus (obtain ⟨hc, hf⟩ := bcell hS; go_simp; first | (refine ⟨?_, Below.refl _ _⟩; rfl) | rfl | exact Below.refl _ _)); (try go_simp))
    (refine Bld.textB_det ?_ rfl rfl rfl ?_ (fun W hS => ?_) ?_; rotate_left; (focus go_simp); (focus (obtain ⟨hc, hf⟩ := bcell hS; go_simp; first | (refine ⟨?_, Below.refl _ _⟩; rfl) | rfl | exact Below.refl _ _)); (try go_simp))
    (refine Bld.textB_det ?_ rfl rfl rfl ?_ (fun W hS => ?_) ?_; rotate_left; (focus go_simp); (focus (obtain ⟨hc, hf⟩ := bcell hS; go_simp; first | (refine ⟨?_, Below.refl _ _⟩; rfl) | rfl | exact Below.refl _ _)); (try go_simp))
    (refine Bld.textB_det ?_ rfl rfl rfl ?_ (fun W hS => ?_) ?_; rotate_left; (focus go_simp); (focus (obtain ⟨hc, hf⟩ := bcell hS; go_simp; first | (refine ⟨?_, Below.refl _ _⟩; rfl) | rfl | exact Below.refl _ _)); (try go_simp))
    (refine Bld.textB_det ?_ rfl rfl rfl ?_ (fun W hS => ?_) ?_; rotate_left; (focus go_simp); (focus (obtain ⟨hc, hf⟩ := bcell hS; go_simp; refine (one_any _).mono ?_; rintro e w1 ⟨rfl, hb⟩; refine ⟨?_, hb⟩; rfl)); (try go_simp))
    (refine Bld.textB_det ?_ rfl rfl rfl ?_ (fun W hS => ?_) ?_; rotate_left; (focus go_simp); (focus (obtain ⟨hc, hf⟩ := bcell hS; go_simp; first | (refine ⟨?_, Below.refl _ _⟩; rfl) | rfl | exact Below.refl _ _)); (try go_simp))
    (refine Bld.textB_det ?_ rfl rfl rfl ?_ (fun W hS => ?_) ?_; rotate_left; (focus go_simp); (focus (obtain ⟨hc, hf⟩ := bcell hS; go_simp; first | (refine ⟨?_, Below.refl _ _⟩; rfl) | rfl | exact Below.refl _ _)); (try go_simp))
    intro blk w6 hb6 hn1 hn2
    clear hn1 hn2
    simp only [Bld.putZ, Bld.mkVal]
    clear ck cn lbb
    go_simp
    go_wp2_with fail
    go_ret
    exact ⟨rfl, B6.out.trans (hb6.mono B6.out.size)⟩
  · have hnk : n ≠ k := fun h => hkn h.symm
    clear hkz
    go_region
    go_wp2_with fail
    generalize ((w4.setCell ⟨g2, k, none⟩ (.int .u8 zn)).setCell ⟨g2, n, none⟩ (.int .u8 zk)).drew = W5 at *
    clear fk fn mk mn lk ln HR2 HB4 TB4 hne hne' hglt B3 B4 TB3 RB3 bdk bdn HC
    clear w4
    refine Bld.wp_region_build W5 (by kernel_rfl) (by kernel_rfl) (Below.refl _ _) ?_
    (refine Bld.textB_det ?_ rfl rfl rfl ?_ (fun W hS => ?_) ?_; rotate_left; (focus go_simp); (focus (obtain ⟨hc, hf⟩ := bcell hS; go_simp; first | (refine ⟨?_, Below.refl _ _⟩; rfl) | rfl | exact Below.refl _ _)); (try go_simp))
    (refine Bld.textB_al _ ((47), (#[.slice (some ⟨g2, 0, none⟩) n2 cp2]), (some 1)) rfl rfl rfl rfl (fun W => ?_) ?_; (focus (first | rfl | (go_simp; done) | (go_simp; rfl))); (try go_simp))
    (refine Bld.textB_use ?_ (74) _ rfl rfl rfl rfl (fun b => ?_) (fun b W hS hB hb => ?_) ?_; rotate_left; (focus go_simp); (focus (go_simp; refine (SD.out _ b W hS hb).mono ?_; rintro e w1 ⟨rfl, hbb⟩; refine ⟨?_, hbb⟩; rfl)); (try go_simp))
    (refine Bld.textB_det ?_ rfl rfl rfl ?_ (fun W hS => ?_) ?_; rotate_left; (focus go_simp); (focus (obtain ⟨hc, hf⟩ := bcell hS; go_simp; first | (refine ⟨?_, Below.refl _ _⟩; rfl) | rfl | exact Below.refl _ _)); (try go_simp))
    (refine Bld.textB_al _ ((47), (#[.slice (some ⟨bb, off, none⟩) n2 cb]), (some 1)) rfl rfl rfl rfl (fun W => ?_) ?_; (focus (first | rfl | (go_simp; done) | (go_simp; rfl))); (try go_simp))
    (refine Bld.textB_use ?_ (77) _ rfl rfl rfl rfl (fun b => ?_) (fun b W hS hB hb => ?_) ?_; rotate_left; (focus go_simp); (focus (go_simp; refine (SB5.out _ b W hS hb).mono ?_; rintro e w1 ⟨rfl, hbb⟩; refine ⟨?_, hbb⟩; rfl)); (try go_simp))
    (refine Bld.textB_det ?_ rfl rfl rfl ?_ (fun W hS => ?_) ?_; rotate_left; (focus go_simp); (focus (obtain ⟨hc, hf⟩ := bcell hS; go_simp; first | (refine ⟨?_, Below.refl _ _⟩; rfl) | rfl | exact Below.refl _ _)); (try go_simp))
    (refine Bld.textB_det ?_ rfl rfl rfl ?_ (fun W hS => ?_) ?_; rotate_left; (focus go_simp); (focus (obtain ⟨hc, hf⟩ := bcell hS; go_simp; first | (refine ⟨?_, Below.refl _ _⟩; rfl) | rfl | exact Below.refl _ _)); (try go_simp))
    (refine Bld.textB_det ?_ rfl rfl rfl ?_ (fun W hS => ?_) ?_; rotate_left; (focus go_simp); (focus (obtain ⟨hc, hf⟩ := bcell hS; go_simp; first | (refine ⟨?_, Below.refl _ _⟩; rfl) | rfl | exact Below.refl _ _)); (try go_simp))
    (refine Bld.textB_det ?_ rfl rfl rfl ?_ (fun W hS => ?_) ?_; rotate_left; (focus go_simp); (focus (obtain ⟨hc, hf⟩ := bcell hS; go_simp; first | (refine ⟨?_, Below.refl _ _⟩; rfl) | rfl | exact Below.refl _ _)); (try go_simp))
    (refine Bld.textB_det ?_ rfl rfl rfl ?_ (fun W hS => ?_) ?_; rotate_left; (focus go_simp); (focus (obtain ⟨hc, hf⟩ := bcell hS; go_simp; first | (refine ⟨?_, Below.refl _ _⟩; rfl) | rfl | exact Below.refl _ _)); (try go_simp))
    (refine Bld.textB_det ?_ rfl rfl rfl ?_ (fun W hS => ?_) ?_; rotate_left; (focus go_simp); (focus (obtain ⟨hc, hf⟩ := bcell hS; go_simp; first | (refine ⟨?_, Below.refl _ _⟩; rfl) | rfl | exact Below.refl _ _)); (try go_simp))
    (refine Bld.textB_det ?_ rfl rfl rfl ?_ (fun W hS => ?_) ?_; rotate_left; (focus go_simp); (focus (obtain ⟨hc, hf⟩ := bcell hS; go_simp; first | (refine ⟨?_, Below.refl _ _⟩; rfl) | rfl | exact Below.refl _ _)); (try go_simp))
    (refine Bld.textB_det ?_ rfl rfl rfl ?_ (fun W hS => ?_) ?_; rotate_left; (focus go_simp); (focus (obtain ⟨hc, hf⟩ := bcell hS; go_simp; first | (refine ⟨?_, Below.refl _ _⟩; rfl) | rfl | exact Below.refl _ _)); (try go_simp))
    (refine Bld.textB_det ?_ rfl rfl rfl ?_ (fun W hS => ?_) ?_; rotate_left; (focus go_simp); (focus (obtain ⟨hc, hf⟩ := bcell hS; go_simp; first | (refine ⟨?_, Below.refl _ _⟩; rfl) | rfl | exact Below.refl _ _)); (try go_simp))
    (refine Bld.textB_det ?_ rfl rfl rfl ?_ (fun W hS => ?_) ?_; rotate_left; (focus go_simp); (focus (obtain ⟨hc, hf⟩ := bcell hS; go_simp; first | (refine ⟨?_, Below.refl _ _⟩; rfl) | rfl | exact Below.refl _ _)); (try go_simp))
    (refine Bld.textB_det ?_ rfl rfl rfl ?_ (fun W hS => ?_) ?_; rotate_left; (focus go_simp); (focus (obtain ⟨hc, hf⟩ := bcell hS; go_simp; first | (refine ⟨?_, Below.refl _ _⟩; rfl) | rfl | exact Below.refl _ _)); (try go_simp))
    (refine Bld.textB_det ?_ rfl rfl rfl ?_ (fun W hS => ?_) ?_; rotate_left; (focus go_simp); (focus (obtain ⟨hc, hf⟩ := bcell hS; go_simp; first | (refine ⟨?_, Below.refl _ _⟩; rfl) | rfl | exact Below.refl _ _)); (try go_simp))
    (refine Bld.textB_det ?_ rfl rfl rfl ?_ (fun W hS => ?_) ?_; rotate_left; (focus go_simp); (focus (obtain ⟨hc, hf⟩ := bcell hS; go_simp; refine (one_any _).mono ?_; rintro e w1 ⟨rfl, hb⟩; refine ⟨?_, hb⟩; rfl)); (try go_simp))
    (refine Bld.textB_det ?_ rfl rfl rfl ?_ (fun W hS => ?_) ?_; rotate_left; (focus go_simp); (focus (obtain ⟨hc, hf⟩ := bcell hS; go_simp; first | (refine ⟨?_, Below.refl _ _⟩; rfl) | rfl | exact Below.refl _ _)); (try go_simp))
    (refine Bld.textB_det ?_ rfl rfl rfl ?_ (fun W hS => ?_) ?_; rotate_left; (focus go_simp); (focus (obtain ⟨hc, hf⟩ := bcell hS; go_simp; first | (refine ⟨?_, Below.refl _ _⟩; rfl) | rfl | exact Below.refl _ _)); (try go_simp))
    intro blk w6 hb6 hn1 hn2
    clear hn1 hn2
    simp only [Bld.putZ, Bld.mkVal]
    clear ck cn lbb
    go_simp
    go_wp2_with fail
    go_ret
    exact ⟨rfl, B6.out.trans (hb6.mono B6.out.size)⟩
set_option maxHeartbeats 1000000 in
theorem turned_short (b : Option Addr) (lb cb : Nat) (x tv : Int) (w : World) (h : lb = 0 ∨ 3000 < lb) (h9 : lb ≤ 9223372036854775807) :
    Calls Try.prog 6 #[.slice b lb cb, .int .i64 x, .int .u8 tv] w fun e w' => e = .returned (.bool true) ∧ Below w.heap.size w w' := by
  rcases h with rfl | h
  · go_enter Try.func6, Try.ntmps6
    go_wp2_with (go_at_call 31; refine (one_any _).mono ?_; rintro e w5 ⟨rfl, hb5⟩)
    go_ret
    exact ⟨rfl, hb5⟩
  · have d1 : ((lb : Int) == 0) = false := by simp; omega
    have d2 : decide (3000 < (lb : Int)) = true := by simp; omega
    have d3 : (3000 : Int) < (lb : Int) := by omega
    go_enter Try.func6, Try.ntmps6
    go_wp2_with (go_at_call 31; refine (one_any _).mono ?_; rintro e w5 ⟨rfl, hb5⟩)
    go_ret
    exact ⟨rfl, hb5⟩
theorem turned_walk (b : Option Addr) (lb cb : Nat) (zb : List Int) (x tv : Int) (hx : 0 ≤ tv ∧ tv ≤ 255) (w : World) (h : TxtAt w (.slice b lb cb) zb ∧ zb.length = lb ∧ lb ≤ cb ∧ (0 < lb → ∃ b' off, b = some ⟨b', off, none⟩)) (h9 : lb ≤ 9223372036854775807) :
    Calls Try.prog 6 #[.slice b lb cb, .int .i64 x, .int .u8 tv] w fun e w' => e = .returned (.bool true) ∧ Below w.heap.size w w' := by
  obtain ⟨ht, hl, _, hs⟩ := h
  by_cases hc : lb = 0 ∨ 3000 < lb
  · exact turned_short b lb cb x tv w hc h9
  · obtain ⟨bb, off, he⟩ := hs (by omega)
    have hr : BytesRow w bb off zb := by
      rcases ht with ⟨b', off', cap', e, _, hr⟩ | ⟨e, _⟩
      · rw [he] at e
        cases e
        exact hr
      · rw [e] at hl; simp at hl; omega
    exact turned_main b lb cb zb x tv w bb off he hr ht hl (by omega) (by omega) hx.1 hx.2
end Go.Proofs.Ytnmhdodcfbjalaa
