/- The walk of BooksCount (layer 14). No condition. -/
import Derived.Test.YtmpknjlfabpipaaBkI
import Derived.Test.YtmpknjlfabpipaaBkL
import Derived.Deep.DeepCutAuto
import Derived.Deep.LoopGhost
namespace Go.Proofs.Ytmpknjlfabpipaa
set_option linter.unusedVariables false
open Go.ChangeShapes Go.WideShapes Go.ChangeAt Go.RowKit Bk
attribute [local go_sem ↓] Go.wp_at_zero Go.wp_at_succ comesTo_value_eq comesTo_skip_eq comesTo_enter_eq

theorem BN.note {L : List LV} (h : BN L) (u : Int) {k : Nat} (hk : k ≤ 4) : BN (notedB L u k) := h.put (((h.line u).set0 u).note hk)
theorem BN.charge {L : List LV} (h : BN L) (hf u n c y : Int) : BN (chargedB L hf u n c y) := h.put (((h.line u).set0 u).charge (usedI_bd y c))
theorem BkAt.good' {w : World} {b m : Nat} {h : Int} {L : List LV} (H : BkAt w b m h L) : BG L := H.good
/-- where the law stands behind k acts -/
structure CS (w : World) (q b m : Nat) (U : Int) (k : Nat) (wr : World) : Prop where
  ex : ∃ L wl, BkAt wr b m 1000 L ∧ BN L ∧ CR U L wl k ∧ wr.heap[q]? = some (.cells (vL wl).toArray 33 (0, 0))
  bel : Below w.heap.size w wr
set_option maxRecDepth 100000 in
set_option maxHeartbeats 4000000 in
theorem count_walk (ad : Option Addr) (len cap : Nat) (A : Nat → B14.ActB) (U0 : Int) (w : World) (hA : B14.ActsB w ad len A) : Calls Try.prog 4 #[.slice ad len cap, .int .i64 U0] w fun e w' => e = .returned (.bool true) ∧ Below w.heap.size w w' := by
  have hm := mask_15 U0
  obtain ⟨U, hU⟩ : ∃ U, U = 1 + U0 % 16 := ⟨_, rfl⟩
  have hw0 : IntKind.i64.wrap (1 + U0 % 16) = U := by rw [IntKind.wrap_i64]; omega
  have HU := Lib.hid (show 1 ≤ U ∧ U ≤ 16 from by omega)
  have KN := Lib.hid (bnew_any 1000 (by decide) (by decide) w)
  have HA := Lib.hid hA.2
  have HLN := Lib.hid hA.1
  clear hU hA
  go_enter Try.func4, Try.ntmps4
  go_wp2_with fail
  refine KN.out.mono ?_
  rintro e w1 ⟨rfl, h1, b1⟩
  have H1 := Lib.hid h1
  have B1 := Lib.hid b1
  clear h1 b1 hm hw0 KN
  obtain ⟨b, hb⟩ : ∃ b, b = w.heap.size + 1 := ⟨_, rfl⟩
  obtain ⟨m, hm⟩ : ∃ m, m = w.heap.size := ⟨_, rfl⟩
  rw [← hb] at H1 ⊢
  rw [← hm] at H1
  have HM := Lib.hid (And.intro hm hb)
  clear hb hm
  go_upto_region 6 with fail
  have b2 := below_alloc (Below.refl _ w1) (.cells #[.int .i64 0, .int .i64 0, .int .i64 0, .int .i64 0, .int .i64 0, .int .i64 0, .int .i64 0, .int .i64 0, .int .i64 0] 33)
  have HQ := Lib.hid (World.alloc_heap_new w1 (.cells #[.int .i64 0, .int .i64 0, .int .i64 0, .int .i64 0, .int .i64 0, .int .i64 0, .int .i64 0, .int .i64 0, .int .i64 0] 33))
  have H2 := Lib.hid (H1.out.below b2)
  have B2 := Lib.hid (below_next B1.out b2)
  clear b2
  generalize w1.alloc (.cells #[.int .i64 0, .int .i64 0, .int .i64 0, .int .i64 0, .int .i64 0, .int .i64 0, .int .i64 0, .int .i64 0, .int .i64 0] 33) = W2 at *
  obtain ⟨q, hq⟩ : ∃ q, q = w1.heap.size := ⟨_, rfl⟩
  have HQM := Lib.hid (show m < q ∧ b < q ∧ w.heap.size ≤ q from by have := H1.out.lt; have := B1.out.size; omega)
  rw [← hq] at HQ ⊢
  clear hq H1 B1
  have HS0 := Lib.hid (show CS w q b m U 0 W2 from ⟨⟨[], zL, H2.out, BN.nil, CR.zero U, HQ.out⟩, B2.out⟩)
  clear H2 B2 HQ
  go_wp2_with fail
  go_loopw [8] (fun i wr => ∃ k : Nat, k ≤ len ∧ k ≤ 60 ∧ i = .int .i64 k ∧ CS w q b m U k wr) (fun i _ => 60 - (intOf i).toNat)
  case atStart => exact ⟨0, Nat.zero_le _, Nat.zero_le _, rfl, HS0.out⟩
  case round =>
    obtain ⟨k, hk, hk6, rfl, ⟨L, wl, hB, hN, hC, hq⟩, hbel⟩ := hrel
    have HB := Lib.hid hB
    have HN := Lib.hid hN
    have HC := Lib.hid hC
    have HQ := Lib.hid hq
    have HBE := Lib.hid hbel
    clear hB hN hC hq hbel HS0
    have HKL := Lib.hid hk
    have HG := Lib.hid HB.out.good
    by_cases hlt : k < len ∧ k < 60
    · have hd1 : decide ((k : Int) < (len : Int)) = true := decide_eq_true (by omega)
      have hd2 : decide ((k : Int) < 60) = true := decide_eq_true (by omega)
      have hi1 : (k : Int) < (len : Int) := by omega
      have hi2 : (k : Int) < 60 := by omega
      have hlo : (0 : Int) ≤ (k : Int) := by omega
      have hw1 : IntKind.i64.wrap ((k : Int) + 1) = (k : Int) + 1 := by rw [IntKind.wrap_i64]; omega
      have HK := Lib.hid (And.intro hlt.1 hlt.2)
      obtain ⟨ab, off, hab, hac⟩ := HA.out (by omega)
      have HX := hac k hlt.1
      subst hab
      have hltb : ab < w.heap.size := World.block_lt_of_cell? _ _ HX.c0
      have x0 := (HBE.out.cell (p := ⟨ab, off + k * 5, none⟩) hltb).trans HX.c0
      have x1 := (HBE.out.cell (p := ⟨ab, off + k * 5 + 1, none⟩) hltb).trans HX.c1
      have x2 := (HBE.out.cell (p := ⟨ab, off + k * 5 + 2, none⟩) hltb).trans HX.c2
      have x3 := (HBE.out.cell (p := ⟨ab, off + k * 5 + 3, none⟩) hltb).trans HX.c3
      have x4 := (HBE.out.cell (p := ⟨ab, off + k * 5 + 4, none⟩) hltb).trans HX.c4
      clear hltb HX hac hlt hk hk6
      generalize (A k).kind = ak at *
      generalize (A k).u = au at *
      generalize (A k).t = at_ at *
      generalize (A k).n = an at *
      generalize (A k).y = ay at *
      go_upto_region 10 with fail
      clear x0 x1 x2 x3 x4
      have b3 := below_alloc (Below.refl _ wr) (.cells #[.int .i64 ak, .int .i64 au, .int .i64 at_, .int .i64 an, .int .i64 ay] 24)
      have HP := Lib.hid (World.alloc_heap_new wr (.cells #[.int .i64 ak, .int .i64 au, .int .i64 at_, .int .i64 an, .int .i64 ay] 24))
      have HB3 := Lib.hid (HB.out.below b3)
      have HQ3 := Lib.hid ((b3.block q (Array.getElem?_eq_some_iff.1 HQ.out).1).trans HQ.out)
      have HE3 := Lib.hid (below_next HBE.out b3)
      have HPM := Lib.hid (show m < wr.heap.size from HB.out.lt.2)
      have HPQ := Lib.hid (show q < wr.heap.size from (Array.getElem?_eq_some_iff.1 HQ.out).1)
      clear b3 HB HQ HBE
      generalize wr.alloc (.cells #[.int .i64 ak, .int .i64 au, .int .i64 at_, .int .i64 an, .int .i64 ay] 24) = W3 at *
      generalize wr.heap.size = p at *
      have y0 : W3.cell? ⟨p, 0, none⟩ = some (.int .i64 ak) := cell_of_block (o := 0) HP.out rfl
      have y1 : W3.cell? ⟨p, 1, none⟩ = some (.int .i64 au) := cell_of_block (o := 1) HP.out rfl
      have y2 : W3.cell? ⟨p, 2, none⟩ = some (.int .i64 at_) := cell_of_block (o := 2) HP.out rfl
      have y3 : W3.cell? ⟨p, 3, none⟩ = some (.int .i64 an) := cell_of_block (o := 3) HP.out rfl
      have y4 : W3.cell? ⟨p, 4, none⟩ = some (.int .i64 ay) := cell_of_block (o := 4) HP.out rfl
      by_cases hkd : ak = 0
      · subst hkd
        by_cases hok : (1 ≤ au ∧ au ≤ 16) ∧ 0 ≤ at_ ∧ at_ ≤ 4
        · obtain ⟨⟨hu0, hu1⟩, ht0, ht1⟩ := hok
          obtain ⟨c, rfl⟩ : ∃ c : Nat, at_ = (c : Int) := ⟨at_.toNat, by omega⟩
          have hc4 : c ≤ 4 := by omega
          have HC4 := Lib.hid hc4
          have KNT := Lib.hid (note_ok HB3.out HN.out hu0 hu1 hc4)
          clear hc4 hu0 hu1
          go_wp2_with fail
          refine (KNT.out).mono ?_
          rintro e w4 ⟨rfl, hb4, g4⟩
          have HB4 := Lib.hid hb4
          have HP4 := Lib.hid ((g4.block p (Array.getElem?_eq_some_iff.1 HP.out).1 (by have := HPM.out; intro e; injection e with e; omega)).trans HP.out)
          have HQ4 := Lib.hid ((g4.block q (Array.getElem?_eq_some_iff.1 HQ3.out).1 (by have := HQM.out; intro e; injection e with e; omega)).trans HQ3.out)
          have HE4 := Lib.hid (below_grown HE3.out g4 (by have := HM.out; omega) (Nat.le_refl _))
          clear hb4 g4 HB3 HQ3 HE3 HP y0 y1 y2 y3 y4
          have y0 : w4.cell? ⟨p, 0, none⟩ = some (.int .i64 0) := cell_of_block (o := 0) HP4.out rfl
          have y1 : w4.cell? ⟨p, 1, none⟩ = some (.int .i64 au) := cell_of_block (o := 1) HP4.out rfl
          have y2 : w4.cell? ⟨p, 2, none⟩ = some (.int .i64 (c : Int)) := cell_of_block (o := 2) HP4.out rfl
          have y3 : w4.cell? ⟨p, 3, none⟩ = some (.int .i64 an) := cell_of_block (o := 3) HP4.out rfl
          have y4 : w4.cell? ⟨p, 4, none⟩ = some (.int .i64 ay) := cell_of_block (o := 4) HP4.out rfl
          clear KNT
          by_cases hu : au = U
          · have HUU := Lib.hid hu
            have hki : (c : Int) < 5 := by omega
            have hkn : ((c : Int)).toNat = c := by omega
            have hdu : (au == U) = true := by simpa using hu
            obtain ⟨v, hv⟩ : ∃ v, v = wl.getD (1 + c) 0 := ⟨_, rfl⟩
            have hcb := HC.out.cb (1 + c) (by have := HC4.out; omega) (by have := HC4.out; omega)
            rw [← hv] at hcb
            have hwv : IntKind.i64.wrap (v + 1) = v + 1 := by have := HK.out; rw [IntKind.wrap_i64]; omega
            have cq : w4.cell? ⟨q, 1 + c, none⟩ = some (.int .i64 v) := cell_of_block (o := 1 + c) HQ4.out (by rw [hv]; exact vL_get HC.out.len (by have := HC4.out; omega))
            have fq : w4.frozen? ⟨q, 1 + c, none⟩ = false := free_of_block (1 + c) HQ4.out
            have hw := (wrote_refl HQ4.out).set (1 + c) (.int .i64 (v + 1))
            rw [vL_set] at hw
            have HB5 := Lib.hid (HB4.out.keep (hw.rest b (by have := HQM.out; omega)) (hw.rest m (by have := HQM.out; omega)))
            have HQ5 := Lib.hid hw.there
            have HE5 := Lib.hid (hw.below HE4.out HQM.out.2.2)
            have HCC := Lib.hid (show CR U (notedB L au c) (wl.set (1 + c) (v + 1)) (k + 1) from by rw [hv, hu]; exact HC.out.note HG.out HK.out.2 HC4.out)
            have HNN := Lib.hid (HN.out.note au HC4.out)
            clear hw hv hcb hu
            go_wp2_with fail
            go_roundw
            case rel => exact ⟨k + 1, by have := HK.out; omega, by have := HK.out; omega, by go_num, ⟨⟨_, _, HB5.out, HNN.out, HCC.out, HQ5.out⟩, HE5.out⟩⟩
            case measure => simp [intOf]; have := HK.out; omega
          · have hdu : (au == U) = false := by simpa using hu
            have HCC := Lib.hid (show CR U (notedB L au c) wl (k + 1) from HC.out.other HG.out.up (by rw [usr_note, usr_set0 (HG.out.line au)]; exact hu))
            have HNN := Lib.hid (HN.out.note au HC4.out)
            clear hu
            go_wp2_with fail
            go_roundw
            case rel => exact ⟨k + 1, by have := HK.out; omega, by have := HK.out; omega, by go_num, ⟨⟨_, _, HB4.out, HNN.out, HCC.out, HQ4.out⟩, HE4.out⟩⟩
            case measure => simp [intOf]; have := HK.out; omega
        · have KNT := Lib.hid (note_bad HB3.out hok)
          clear hok
          go_wp2_with fail
          refine KNT.out.mono ?_
          rintro e w4 ⟨rfl, hw⟩
          obtain rfl := hw
          go_wp2_with fail
          go_roundw
          case rel => exact ⟨k + 1, by have := HK.out; omega, by have := HK.out; omega, by go_num, ⟨⟨_, _, HB3.out, HN.out, HC.out.same, HQ3.out⟩, HE3.out⟩⟩
          case measure => simp [intOf]; have := HK.out; omega
      · have hq0 : (ak == 0) = false := by simpa using hkd
        have hmk := mask_65535 ay
        obtain ⟨mu, hmu⟩ : ∃ mu, mu = ay % 65536 := ⟨_, rfl⟩
        have hmb : 0 ≤ mu ∧ mu ≤ 65535 := by omega
        rw [← hmu] at hmk
        clear hmu
        by_cases hok : (1 ≤ au ∧ au ≤ 16) ∧ 0 ≤ at_ ∧ at_ ≤ 64
        · obtain ⟨⟨hu0, hu1⟩, ht0, ht1⟩ := hok
          have KCH := Lib.hid (charge_ok HB3.out HN.out hu0 hu1 ht0 ht1 an mu)
          obtain ⟨_, hp0, hp1⟩ := usedI_eq hmb.1 hmb.2 ht0 ht1
          have HMB := Lib.hid (And.intro hmb (And.intro ht0 ht1))
          clear hu0 hu1 ht0 ht1 hmb
          go_wp2_with fail
          refine (KCH.out).mono ?_
          rintro e w4 ⟨rfl, hb4, g4⟩
          have HB4 := Lib.hid hb4
          have HP4 := Lib.hid ((g4.block p (Array.getElem?_eq_some_iff.1 HP.out).1 (by have := HPM.out; intro e; injection e with e; omega)).trans HP.out)
          have HQ4 := Lib.hid ((g4.block q (Array.getElem?_eq_some_iff.1 HQ3.out).1 (by have := HQM.out; intro e; injection e with e; omega)).trans HQ3.out)
          have HE4 := Lib.hid (below_grown HE3.out g4 (by have := HM.out; omega) (Nat.le_refl _))
          clear hb4 g4 HB3 HQ3 HE3 HP y0 y1 y2 y3 y4
          have y0 : w4.cell? ⟨p, 0, none⟩ = some (.int .i64 ak) := cell_of_block (o := 0) HP4.out rfl
          have y1 : w4.cell? ⟨p, 1, none⟩ = some (.int .i64 au) := cell_of_block (o := 1) HP4.out rfl
          have y2 : w4.cell? ⟨p, 2, none⟩ = some (.int .i64 at_) := cell_of_block (o := 2) HP4.out rfl
          have y3 : w4.cell? ⟨p, 3, none⟩ = some (.int .i64 an) := cell_of_block (o := 3) HP4.out rfl
          have y4 : w4.cell? ⟨p, 4, none⟩ = some (.int .i64 ay) := cell_of_block (o := 4) HP4.out rfl
          clear KCH
          by_cases hu : au = U
          · have hdu : (au == U) = true := by simpa using hu
            obtain ⟨v, hv⟩ : ∃ v, v = wl.getD 6 0 := ⟨_, rfl⟩
            have hcb := HC.out.tb
            rw [← hv] at hcb
            obtain ⟨z, hz⟩ : ∃ z, z = mu * at_ := ⟨_, rfl⟩
            rw [← hz] at hp0 hp1
            have hwz : IntKind.i64.wrap (mu * at_) = z := by rw [← hz, IntKind.wrap_i64]; omega
            have hwv : IntKind.i64.wrap (v + z) = v + z := by have := HK.out; rw [IntKind.wrap_i64]; omega
            have cq : w4.cell? ⟨q, 6, none⟩ = some (.int .i64 v) := cell_of_block (o := 6) HQ4.out (by rw [hv]; exact vL_get HC.out.len (by decide))
            have fq : w4.frozen? ⟨q, 6, none⟩ = false := free_of_block 6 HQ4.out
            have hw := (wrote_refl HQ4.out).set 6 (.int .i64 (v + z))
            rw [vL_set] at hw
            have HB5 := Lib.hid (HB4.out.keep (hw.rest b (by have := HQM.out; omega)) (hw.rest m (by have := HQM.out; omega)))
            have HQ5 := Lib.hid hw.there
            have HE5 := Lib.hid (hw.below HE4.out HQM.out.2.2)
            have HCC := Lib.hid (show CR U (chargedB L 1000 au an at_ mu) (wl.set 6 (v + z)) (k + 1) from by rw [hv, hz, hu]; exact HC.out.charge HG.out HK.out.2 HMB.out.1.1 HMB.out.1.2 HMB.out.2.1 HMB.out.2.2)
            have HNN := Lib.hid (HN.out.charge 1000 au an at_ mu)
            clear hw hv hcb hu hz
            go_wp2_with fail
            go_roundw
            case rel => exact ⟨k + 1, by have := HK.out; omega, by have := HK.out; omega, by go_num, ⟨⟨_, _, HB5.out, HNN.out, HCC.out, HQ5.out⟩, HE5.out⟩⟩
            case measure => simp [intOf]; have := HK.out; omega
          · have hdu : (au == U) = false := by simpa using hu
            have HCC := Lib.hid (show CR U (chargedB L 1000 au an at_ mu) wl (k + 1) from HC.out.other HG.out.up (by rw [usr_charge, usr_set0 (HG.out.line au)]; exact hu))
            have HNN := Lib.hid (HN.out.charge 1000 au an at_ mu)
            clear hu
            go_wp2_with fail
            go_roundw
            case rel => exact ⟨k + 1, by have := HK.out; omega, by have := HK.out; omega, by go_num, ⟨⟨_, _, HB4.out, HNN.out, HCC.out, HQ4.out⟩, HE4.out⟩⟩
            case measure => simp [intOf]; have := HK.out; omega
        · have KCH := Lib.hid (charge_bad HB3.out an mu hok)
          clear hok
          go_wp2_with fail
          refine KCH.out.mono ?_
          rintro e w4 ⟨rfl, hw⟩
          obtain rfl := hw
          go_wp2_with fail
          go_roundw
          case rel => exact ⟨k + 1, by have := HK.out; omega, by have := HK.out; omega, by go_num, ⟨⟨_, _, HB3.out, HN.out, HC.out.same, HQ3.out⟩, HE3.out⟩⟩
          case measure => simp [intOf]; have := HK.out; omega
    · have KX := Lib.hid (line_bk HB.out (u := U) (by have := HU.out; omega) (by have := HU.out; omega))
      obtain ⟨a0, a1, a2, a3, a4, a5, a6, a7, a8, e9⟩ := nine (HB.out.good.line U)
      obtain ⟨g0, g1, g2, g3, g4, g5, g6, g7, g8, e8⟩ := nine HC.out.len
      have hE := HC.out.eq
      have hus := usr_none (L := L) HU.out.1
      have KF := Lib.hid (fun X (hX : Below wr.heap.size wr X) => factor_bk (HB.out.below hX) (u := U) (n := 0) (by have := HU.out; omega) (by have := HU.out; omega))
      have hN9 := HN.out.line U
      rw [e9] at KX hE hus hN9 KF
      rw [e8] at hE HQ
      have h1 : a1 = g1 := hE 1 (by omega) (by omega)
      have h2 : a2 = g2 := hE 2 (by omega) (by omega)
      have h3 : a3 = g3 := hE 3 (by omega) (by omega)
      have h4 : a4 = g4 := hE 4 (by omega) (by omega)
      have h5 : a5 = g5 := hE 5 (by omega) (by omega)
      have h6 : a6 = g6 := hE 6 (by omega) (by omega)
      have hus2 : (getB L U).isSome = (a0 == U) := hus
      have hs7 : 0 ≤ a7 := hN9.s.1
      subst h1 h2 h3 h4 h5 h6
      have KX2 : Hid (Calls Try.prog 5 #[.pointer (some ⟨b, 0, none⟩), .int .i64 U] wr fun e w' => e = .returned (.tuple #[.agg #[.int .i64 a0, .int .i64 a1, .int .i64 a2, .int .i64 a3, .int .i64 a4, .int .i64 a5, .int .i64 a6, .int .i64 a7, .int .i64 a8], .bool (a0 == U)]) ∧ Below wr.heap.size wr w') := by rw [← hus2]; exact KX
      have KF2 : Hid (∀ X, Below wr.heap.size wr X → Calls Try.prog 12 #[.pointer (some ⟨b, 0, none⟩), .int .i64 U, .int .i64 0] X fun e w' => e = .returned (.int .i64 (factI (atI a7 a8 0 1000).1 (totI 0 1000 (L.map shrL)))) ∧ Below X.heap.size X w') := KF
      have hfb := factI_bd (atI a7 a8 0 1000).1 (totI 0 1000 (L.map shrL))
      have hf0 : ¬ (0 < a7) → factI (atI a7 a8 0 1000).1 (totI 0 1000 (L.map shrL)) = 1000 := fun h => fac_none (by omega)
      generalize factI (atI a7 a8 0 1000).1 (totI 0 1000 (L.map shrL)) = ff at *
      clear KX KF e9 e8 hE hus hN9 hus2
      have HQ0 := Lib.hid (show wr.heap[q]? = some (.cells #[.int .i64 g0, .int .i64 a1, .int .i64 a2, .int .i64 a3, .int .i64 a4, .int .i64 a5, .int .i64 a6, .int .i64 g7, .int .i64 g8] 33 (0, 0)) from HQ.out)
      clear HQ HKL
      have qE := eqin5 a1 a2 a3 a4 a5
      by_cases h : k < len
      · have hd1 : decide ((k : Int) < (len : Int)) = true := decide_eq_true (by omega)
        have hi1 : (k : Int) < (len : Int) := by omega
        have hd2 : decide ((k : Int) < 60) = false := decide_eq_false (by omega)
        have hi2 : ¬ (k : Int) < 60 := by omega
        clear h hlt hk hk6
        go_upto_region 16 with fail
        go_wp2_with fail
        refine KX2.out.mono ?_
        rintro e w3 ⟨rfl, b3⟩
        have HQ3 := Lib.hid ((b3.block q (Array.getElem?_eq_some_iff.1 HQ0.out).1).trans HQ0.out)
        have HB3 := Lib.hid b3
        clear b3 KX2 HQ0
        go_upto_region 17 with fail
        have b4 := below_alloc (Below.refl _ w3) (.cells #[.int .i64 a0, .int .i64 a1, .int .i64 a2, .int .i64 a3, .int .i64 a4, .int .i64 a5, .int .i64 a6, .int .i64 a7, .int .i64 a8] 33)
        have HP := Lib.hid (World.alloc_heap_new w3 (.cells #[.int .i64 a0, .int .i64 a1, .int .i64 a2, .int .i64 a3, .int .i64 a4, .int .i64 a5, .int .i64 a6, .int .i64 a7, .int .i64 a8] 33))
        have HQ4 := Lib.hid ((b4.block q (Array.getElem?_eq_some_iff.1 HQ3.out).1).trans HQ3.out)
        have HB4 := Lib.hid (below_next HB3.out b4)
        clear b4 HQ3 HB3
        generalize w3.alloc (.cells #[.int .i64 a0, .int .i64 a1, .int .i64 a2, .int .i64 a3, .int .i64 a4, .int .i64 a5, .int .i64 a6, .int .i64 a7, .int .i64 a8] 33) = W4 at *
        generalize w3.heap.size = p at *
        have p0 : W4.cell? ⟨p, 0, none⟩ = some (.int .i64 a0) := cell_of_block (o := 0) HP.out rfl
        have p1 : W4.cell? ⟨p, 1, none⟩ = some (.int .i64 a1) := cell_of_block (o := 1) HP.out rfl
        have p2 : W4.cell? ⟨p, 2, none⟩ = some (.int .i64 a2) := cell_of_block (o := 2) HP.out rfl
        have p3 : W4.cell? ⟨p, 3, none⟩ = some (.int .i64 a3) := cell_of_block (o := 3) HP.out rfl
        have p4 : W4.cell? ⟨p, 4, none⟩ = some (.int .i64 a4) := cell_of_block (o := 4) HP.out rfl
        have p5 : W4.cell? ⟨p, 5, none⟩ = some (.int .i64 a5) := cell_of_block (o := 5) HP.out rfl
        have p6 : W4.cell? ⟨p, 6, none⟩ = some (.int .i64 a6) := cell_of_block (o := 6) HP.out rfl
        have p7 : W4.cell? ⟨p, 7, none⟩ = some (.int .i64 a7) := cell_of_block (o := 7) HP.out rfl
        have p8 : W4.cell? ⟨p, 8, none⟩ = some (.int .i64 a8) := cell_of_block (o := 8) HP.out rfl
        have q1 : W4.cell? ⟨q, 1, none⟩ = some (.int .i64 a1) := cell_of_block (o := 1) HQ4.out rfl
        have q2 : W4.cell? ⟨q, 2, none⟩ = some (.int .i64 a2) := cell_of_block (o := 2) HQ4.out rfl
        have q3 : W4.cell? ⟨q, 3, none⟩ = some (.int .i64 a3) := cell_of_block (o := 3) HQ4.out rfl
        have q4 : W4.cell? ⟨q, 4, none⟩ = some (.int .i64 a4) := cell_of_block (o := 4) HQ4.out rfl
        have q5 : W4.cell? ⟨q, 5, none⟩ = some (.int .i64 a5) := cell_of_block (o := 5) HQ4.out rfl
        have q6 : W4.cell? ⟨q, 6, none⟩ = some (.int .i64 a6) := cell_of_block (o := 6) HQ4.out rfl
        have hbb : ((a0 == U) != (a0 == U)) = false := by simp
        have KFX := Lib.hid (KF2.out _ HB4.out)
        clear KF2
        go_upto_region 19 with fail
        clear qE p1 p2 p3 p4 p5 q1 q2 q3 q4 q5 q6 p6 p0
        go_wp2_with fail
        refine KFX.out.mono ?_
        rintro e w5 ⟨rfl, b5⟩
        have p7' := (b5.cell (World.block_lt_of_cell? _ _ p7)).trans p7
        have HB5 := Lib.hid (below_next HBE.out (below_next HB4.out b5))
        clear b5 p7 KFX HQ4 HP HB4
        have hg0 : decide (ff ≥ 0) = true := decide_eq_true hfb.1
        have hg1 : decide (ff ≤ 1000) = true := decide_eq_true hfb.2
        by_cases h7 : 0 < a7
        · have hg2 : decide (a7 > 0) = true := decide_eq_true h7
          have hg3 : decide (0 < a7) = true := decide_eq_true h7
          clear h7 hf0 hs7 hfb
          go_wp2_with fail
          refine (bone _).mono ?_
          rintro e w6 ⟨rfl, b6⟩
          go_wp2_with fail
          go_ret
          exact ⟨rfl, below_next HB5.out b6⟩
        · have hg2 : decide (a7 > 0) = false := decide_eq_false h7
          have hg3 : decide (0 < a7) = false := decide_eq_false h7
          obtain rfl := hf0 (by omega)
          clear h7 hf0 hs7 hfb
          go_wp2_with fail
          refine (bone _).mono ?_
          rintro e w6 ⟨rfl, b6⟩
          go_wp2_with fail
          go_ret
          exact ⟨rfl, below_next HB5.out b6⟩
      · have hd1 : decide ((k : Int) < (len : Int)) = false := decide_eq_false (by omega)
        have hi1 : ¬ (k : Int) < (len : Int) := by omega
        clear h hlt hk hk6
        go_upto_region 16 with fail
        go_wp2_with fail
        refine KX2.out.mono ?_
        rintro e w3 ⟨rfl, b3⟩
        have HQ3 := Lib.hid ((b3.block q (Array.getElem?_eq_some_iff.1 HQ0.out).1).trans HQ0.out)
        have HB3 := Lib.hid b3
        clear b3 KX2 HQ0
        go_upto_region 17 with fail
        have b4 := below_alloc (Below.refl _ w3) (.cells #[.int .i64 a0, .int .i64 a1, .int .i64 a2, .int .i64 a3, .int .i64 a4, .int .i64 a5, .int .i64 a6, .int .i64 a7, .int .i64 a8] 33)
        have HP := Lib.hid (World.alloc_heap_new w3 (.cells #[.int .i64 a0, .int .i64 a1, .int .i64 a2, .int .i64 a3, .int .i64 a4, .int .i64 a5, .int .i64 a6, .int .i64 a7, .int .i64 a8] 33))
        have HQ4 := Lib.hid ((b4.block q (Array.getElem?_eq_some_iff.1 HQ3.out).1).trans HQ3.out)
        have HB4 := Lib.hid (below_next HB3.out b4)
        clear b4 HQ3 HB3
        generalize w3.alloc (.cells #[.int .i64 a0, .int .i64 a1, .int .i64 a2, .int .i64 a3, .int .i64 a4, .int .i64 a5, .int .i64 a6, .int .i64 a7, .int .i64 a8] 33) = W4 at *
        generalize w3.heap.size = p at *
        have p0 : W4.cell? ⟨p, 0, none⟩ = some (.int .i64 a0) := cell_of_block (o := 0) HP.out rfl
        have p1 : W4.cell? ⟨p, 1, none⟩ = some (.int .i64 a1) := cell_of_block (o := 1) HP.out rfl
        have p2 : W4.cell? ⟨p, 2, none⟩ = some (.int .i64 a2) := cell_of_block (o := 2) HP.out rfl
        have p3 : W4.cell? ⟨p, 3, none⟩ = some (.int .i64 a3) := cell_of_block (o := 3) HP.out rfl
        have p4 : W4.cell? ⟨p, 4, none⟩ = some (.int .i64 a4) := cell_of_block (o := 4) HP.out rfl
        have p5 : W4.cell? ⟨p, 5, none⟩ = some (.int .i64 a5) := cell_of_block (o := 5) HP.out rfl
        have p6 : W4.cell? ⟨p, 6, none⟩ = some (.int .i64 a6) := cell_of_block (o := 6) HP.out rfl
        have p7 : W4.cell? ⟨p, 7, none⟩ = some (.int .i64 a7) := cell_of_block (o := 7) HP.out rfl
        have p8 : W4.cell? ⟨p, 8, none⟩ = some (.int .i64 a8) := cell_of_block (o := 8) HP.out rfl
        have q1 : W4.cell? ⟨q, 1, none⟩ = some (.int .i64 a1) := cell_of_block (o := 1) HQ4.out rfl
        have q2 : W4.cell? ⟨q, 2, none⟩ = some (.int .i64 a2) := cell_of_block (o := 2) HQ4.out rfl
        have q3 : W4.cell? ⟨q, 3, none⟩ = some (.int .i64 a3) := cell_of_block (o := 3) HQ4.out rfl
        have q4 : W4.cell? ⟨q, 4, none⟩ = some (.int .i64 a4) := cell_of_block (o := 4) HQ4.out rfl
        have q5 : W4.cell? ⟨q, 5, none⟩ = some (.int .i64 a5) := cell_of_block (o := 5) HQ4.out rfl
        have q6 : W4.cell? ⟨q, 6, none⟩ = some (.int .i64 a6) := cell_of_block (o := 6) HQ4.out rfl
        have hbb : ((a0 == U) != (a0 == U)) = false := by simp
        have KFX := Lib.hid (KF2.out _ HB4.out)
        clear KF2
        go_upto_region 19 with fail
        clear qE p1 p2 p3 p4 p5 q1 q2 q3 q4 q5 q6 p6 p0
        go_wp2_with fail
        refine KFX.out.mono ?_
        rintro e w5 ⟨rfl, b5⟩
        have p7' := (b5.cell (World.block_lt_of_cell? _ _ p7)).trans p7
        have HB5 := Lib.hid (below_next HBE.out (below_next HB4.out b5))
        clear b5 p7 KFX HQ4 HP HB4
        have hg0 : decide (ff ≥ 0) = true := decide_eq_true hfb.1
        have hg1 : decide (ff ≤ 1000) = true := decide_eq_true hfb.2
        by_cases h7 : 0 < a7
        · have hg2 : decide (a7 > 0) = true := decide_eq_true h7
          have hg3 : decide (0 < a7) = true := decide_eq_true h7
          clear h7 hf0 hs7 hfb
          go_wp2_with fail
          refine (bone _).mono ?_
          rintro e w6 ⟨rfl, b6⟩
          go_wp2_with fail
          go_ret
          exact ⟨rfl, below_next HB5.out b6⟩
        · have hg2 : decide (a7 > 0) = false := decide_eq_false h7
          have hg3 : decide (0 < a7) = false := decide_eq_false h7
          obtain rfl := hf0 (by omega)
          clear h7 hf0 hs7 hfb
          go_wp2_with fail
          refine (bone _).mono ?_
          rintro e w6 ⟨rfl, b6⟩
          go_wp2_with fail
          go_ret
          exact ⟨rfl, below_next HB5.out b6⟩
end Go.Proofs.Ytmpknjlfabpipaa
