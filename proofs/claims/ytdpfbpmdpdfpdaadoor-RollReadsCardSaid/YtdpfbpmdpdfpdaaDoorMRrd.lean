/- What Read of a drain tells. Condition: errors.errorType reads as the program's text lays it. -/
import Derived.Test.YtdpfbpmdpdfpdaaDoorMad
import Derived.Test.YtdpfbpmdpdfpdaaDoorMaf
import Derived.Test.YtdpfbpmdpdfpdaaDoorMai
import Derived.Test.YtdpfbpmdpdfpdaaDoorErrAt
namespace Go.Proofs.YtdpfbpmdpdfpdaaDoor
set_option linter.unusedVariables false
open Go.ChangeShapes Go.WideShapes Go.ChangeAt Go.RowKit
attribute [local go_sem ↓] Go.wp_at_zero Go.wp_at_succ comesTo_value_eq comesTo_skip_eq comesTo_enter_eq

theorem nv_ofInt (x : Int) : nv (BitVec.ofInt 64 x) = IntKind.u64.wrap x := by
  unfold nv
  rw [IntKind.wrap_u64, BitVec.toNat_ofInt]
  omega
/-- what Read tells: the drain, how many bytes, or that it is none -/
def okR (xs : List Int) : Bool := decide ((csK xs 4).bad = 0) && rightR (numK xs 0) (numK xs 1) (BitVec.ofInt 64 (numK xs 2)) (BitVec.ofInt 64 (numK xs 3))
def RReadEnd (w : World) (xs : List Int) (e : Ending) (w' : World) : Prop :=
  e = .returned (if okR xs then .tuple #[.agg #[.int .i64 (numK xs 0), .int .i64 (numK xs 1), .int .u64 (nv (BitVec.ofInt 64 (numK xs 2))), .int .u64 (nv (BitVec.ofInt 64 (numK xs 3)))], .int .i64 ((xs.length : Int) - (csK xs 4).xs.length), .int .i64 0]
    else .tuple #[.agg #[.int .i64 0, .int .i64 0, .int .u64 0, .int .u64 0], .int .i64 0, .int .i64 11]) ∧ Below w.heap.size w w'
set_option maxRecDepth 100000 in
set_option maxHeartbeats 4000000 in
theorem rollread_any {w : World} {ad : Option Addr} {n c : Nat} {xs : List Int} (h : TxtAt w (.slice ad n c) xs) (hl : xs.length ≤ 1099511627775) (hE : ErrAt w) :
    Calls Tryd.prog 9 #[.slice ad n c] w fun e w' => RReadEnd w xs e w' := by
  have hmx : Tryd.prog.follows .mixedOrders = true := by kernel_rfl
  have HN := Lib.hid h.form.1
  have HNL := Lib.hid (show n ≤ 1099511627775 from by have := h.form.1; omega)
  have HE := Lib.hid (fun X (hX : Below w.heap.size w X) => hE.below hX)
  clear hE
  have hA := below_alloc (Below.refl _ w) (.cells #[.int .i64 0, .int .i64 0, .int .u64 0, .int .u64 0] 26)
  have n0 := World.alloc_heap_new w (.cells #[.int .i64 0, .int .i64 0, .int .u64 0, .int .u64 0] 26)
  have hsz : (w.alloc (.cells #[.int .i64 0, .int .i64 0, .int .u64 0, .int .u64 0] 26)).heap.size = w.heap.size + 1 := by simp
  have KR := Lib.hid (read_cur (h.below hA) hl)
  have HA := Lib.hid hA
  have N0 := Lib.hid n0
  have HSZ := Lib.hid hsz
  clear h hl hA n0 hsz
  go_enter Tryd.func9, Tryd.ntmps9
  go_wp2_with fail
  refine KR.out.mono ?_
  rintro e w1 ⟨C, rfl, hc, hb⟩
  have hlt := hc.lt
  have hA2 := below_alloc (Below.refl _ w1) (.cells #[.int .i64 0, .int .i64 0, .int .i64 0, .int .i64 0] 85)
  have HR0 := Lib.hid (show RdK w C w1.heap.size xs 0 (w1.alloc (.cells #[.int .i64 0, .int .i64 0, .int .i64 0, .int .i64 0] 85)) from
    ⟨(hc.tight.below hA2).more (fun j hj => ⟨by have := HSZ.out; have := hj.1; omega, by have := hj.2; omega⟩), by omega, World.alloc_heap_new w1 _,
      (hA2.block _ (by have := hb.size; have := HSZ.out; omega)).trans ((hb.block _ (by have := HSZ.out; omega)).trans N0.out), (HA.out.trans (hb.mono HA.out.size)).trans (hA2.mono (Nat.le_trans HA.out.size hb.size)), by have := hb.size; have := HSZ.out; omega⟩)
  clear hc hb hA2 hlt KR
  go_wp2_with fail
  go_loopw [11] (fun i wr => ∃ k : Nat, k ≤ 4 ∧ i = .int .i64 k ∧ RdK w C w1.heap.size xs k wr) (fun i _ => 4 - (intOf i).toNat)
  case atStart => exact ⟨0, by decide, rfl, HR0.out⟩
  case round =>
    obtain ⟨k, hk, rfl, hst⟩ := hrel
    have HST := Lib.hid hst
    clear hst HR0
    rcases (by omega : k = 0 ∨ k = 1 ∨ k = 2 ∨ k = 3 ∨ k = 4) with rfl | rfl | rfl | rfl | rfl
    · have KI := Lib.hid (int_cur HST.out.cur)
      go_wp2_with fail
      refine KI.out.mono ?_
      rintro e w3 ⟨rfl, hc, hf⟩
      have hn := HST.out.step (by decide) hc hf
      have hL := (hf.block w1.heap.size (Array.getElem?_eq_some_iff.1 HST.out.arr).1 (fun e => HST.out.ne e.symm)).trans HST.out.arr
      have c0 := cell_of_block (o := 0) hL rfl
      have f0 := free_of_block 0 hL
      have HNX := Lib.hid hn
      obtain ⟨x, hx⟩ : ∃ x, x = numK xs 0 := ⟨_, rfl⟩
      rw [show (intF (csK xs 0)).2 = x from hx.symm]
      rw [← hx] at HNX
      clear hc hf hn hL hx KI
      go_wp2_with fail
      go_roundw
      case rel => exact ⟨1, by decide, rfl, HNX.out⟩
      case measure => simp [intOf]
    · have KI := Lib.hid (int_cur HST.out.cur)
      go_wp2_with fail
      refine KI.out.mono ?_
      rintro e w3 ⟨rfl, hc, hf⟩
      have hn := HST.out.step (by decide) hc hf
      have hL := (hf.block w1.heap.size (Array.getElem?_eq_some_iff.1 HST.out.arr).1 (fun e => HST.out.ne e.symm)).trans HST.out.arr
      have c0 := cell_of_block (o := 1) hL rfl
      have f0 := free_of_block 1 hL
      have HNX := Lib.hid hn
      obtain ⟨x, hx⟩ : ∃ x, x = numK xs 1 := ⟨_, rfl⟩
      rw [show (intF (csK xs 1)).2 = x from hx.symm]
      rw [← hx] at HNX
      clear hc hf hn hL hx KI
      go_wp2_with fail
      go_roundw
      case rel => exact ⟨2, by decide, rfl, HNX.out⟩
      case measure => simp [intOf]
    · have KI := Lib.hid (int_cur HST.out.cur)
      go_wp2_with fail
      refine KI.out.mono ?_
      rintro e w3 ⟨rfl, hc, hf⟩
      have hn := HST.out.step (by decide) hc hf
      have hL := (hf.block w1.heap.size (Array.getElem?_eq_some_iff.1 HST.out.arr).1 (fun e => HST.out.ne e.symm)).trans HST.out.arr
      have c0 := cell_of_block (o := 2) hL rfl
      have f0 := free_of_block 2 hL
      have HNX := Lib.hid hn
      obtain ⟨x, hx⟩ : ∃ x, x = numK xs 2 := ⟨_, rfl⟩
      rw [show (intF (csK xs 2)).2 = x from hx.symm]
      rw [← hx] at HNX
      clear hc hf hn hL hx KI
      go_wp2_with fail
      go_roundw
      case rel => exact ⟨3, by decide, rfl, HNX.out⟩
      case measure => simp [intOf]
    · have KI := Lib.hid (int_cur HST.out.cur)
      go_wp2_with fail
      refine KI.out.mono ?_
      rintro e w3 ⟨rfl, hc, hf⟩
      have hn := HST.out.step (by decide) hc hf
      have hL := (hf.block w1.heap.size (Array.getElem?_eq_some_iff.1 HST.out.arr).1 (fun e => HST.out.ne e.symm)).trans HST.out.arr
      have c0 := cell_of_block (o := 3) hL rfl
      have f0 := free_of_block 3 hL
      have HNX := Lib.hid hn
      obtain ⟨x, hx⟩ : ∃ x, x = numK xs 3 := ⟨_, rfl⟩
      rw [show (intF (csK xs 3)).2 = x from hx.symm]
      rw [← hx] at HNX
      clear hc hf hn hL hx KI
      go_wp2_with fail
      go_roundw
      case rel => exact ⟨4, by decide, rfl, HNX.out⟩
      case measure => simp [intOf]
    · have hst := HST.out
      have HBR := Lib.hid (show wr.heap.size ≠ w.heap.size from by have := (Array.getElem?_eq_some_iff.1 hst.box).1; omega)
      have HCU := Lib.hid hst.cur
      obtain ⟨W, hW⟩ : ∃ x, x = numK xs 0 := ⟨_, rfl⟩
      obtain ⟨F, hF⟩ : ∃ x, x = numK xs 1 := ⟨_, rfl⟩
      obtain ⟨d, hd⟩ : ∃ x, x = numK xs 2 := ⟨_, rfl⟩
      obtain ⟨h, hh⟩ : ∃ x, x = numK xs 3 := ⟨_, rfl⟩
      have c0 : wr.cell? ⟨w1.heap.size, 0, none⟩ = some (.int .i64 W) := by rw [hW]; exact cell_of_block (o := 0) hst.arr rfl
      have c1 : wr.cell? ⟨w1.heap.size, 1, none⟩ = some (.int .i64 F) := by rw [hF]; exact cell_of_block (o := 1) hst.arr rfl
      have c2 : wr.cell? ⟨w1.heap.size, 2, none⟩ = some (.int .i64 d) := by rw [hd]; exact cell_of_block (o := 2) hst.arr rfl
      have c3 : wr.cell? ⟨w1.heap.size, 3, none⟩ = some (.int .i64 h) := by rw [hh]; exact cell_of_block (o := 3) hst.arr rfl
      obtain ⟨D, hD⟩ : ∃ D : NSet, D = BitVec.ofInt 64 d := ⟨_, rfl⟩
      obtain ⟨H, hH⟩ : ∃ D : NSet, D = BitVec.ofInt 64 h := ⟨_, rfl⟩
      have w2 : IntKind.u64.wrap d = nv D := by rw [hD, nv_ofInt]
      have w3 : IntKind.u64.wrap h = nv H := by rw [hH, nv_ofInt]
      have HNM := Lib.hid (And.intro hW (And.intro hF (And.intro (hD.trans (by rw [hd])) (hH.trans (by rw [hh])))))
      have hA9 := below_alloc (Below.refl _ wr) (.cells #[.int .i64 W, .int .i64 F, .int .u64 (nv D), .int .u64 (nv H)] 26)
      have hbW := hst.below.trans (hA9.mono hst.below.size)
      have nR := (hA9.block _ (Array.getElem?_eq_some_iff.1 hst.box).1).trans hst.box
      have nB := World.alloc_heap_new wr (.cells #[.int .i64 W, .int .i64 F, .int .u64 (nv D), .int .u64 (nv H)] 26)
      have KB := Lib.hid (bad_cur (hst.cur.below hA9) (HE.out _ hbW))
      have HC9 := Lib.hid (hst.cur.below hA9)
      have HB8 := Lib.hid hbW
      have HR8 := Lib.hid nR
      have HX8 := Lib.hid nB
      clear hst hW hF hd hh hD hH hA9 hbW nR nB
      go_wp2_with fail
      refine KB.out.mono ?_
      rintro e W9 ⟨rfl, hb9⟩
      have hlb := (Array.getElem?_eq_some_iff.1 HX8.out).1
      have nR := (hb9.block _ (Array.getElem?_eq_some_iff.1 HR8.out).1).trans HR8.out
      have nB := (hb9.block _ hlb).trans HX8.out
      have hcu := HC9.out.below hb9
      have HB9 := Lib.hid (HB8.out.trans (hb9.mono HB8.out.size))
      have HCU9 := Lib.hid hcu
      have b0 := cell_of_block (o := 0) nB rfl
      have b1 := cell_of_block (o := 1) nB rfl
      have b2 := cell_of_block (o := 2) nB rfl
      have b3 := cell_of_block (o := 3) nB rfl
      have HNB := Lib.hid nB
      have KRT := Lib.hid (right_any W F D H W9)
      have hok : okR xs = (decide ((csK xs 4).bad = 0) && rightR W F D H) := by unfold okR; rw [← HNM.out.1, ← HNM.out.2.1, ← HNM.out.2.2.1, ← HNM.out.2.2.2]
      have HOK := Lib.hid hok
      obtain ⟨bd, hbd⟩ : ∃ b, b = (csK xs 4).bad := ⟨_, rfl⟩
      have HBD := Lib.hid hbd
      rw [← hbd]
      obtain ⟨rt, hrt⟩ : ∃ b, b = rightR W F D H := ⟨_, rfl⟩
      have HRT := Lib.hid hrt
      rw [← hrt] at KRT
      clear hb9 nB hcu hok hbd hrt KB c0 c1 c2 c3 hlb
      by_cases h0 : bd = 0
      case neg =>
        have hne : (bd == 0) = false := by simpa using h0
        have hne2 : (bd != 0) = true := by simp [h0]
        have HNO := Lib.hid (show okR xs = false from by rw [HOK.out, decide_eq_false (by rw [← HBD.out]; exact h0)]; rfl)
        clear h0 b0 b1 b2 b3
        have N := Lib.hid nR
        have r0 := cell_of_block (o := 0) nR rfl
        have r1 := cell_of_block (o := 1) nR rfl
        have r2 := cell_of_block (o := 2) nR rfl
        have r3 := cell_of_block (o := 3) nR rfl
        have f0 := free_of_block 0 nR
        have f1 := free_of_block 1 nR
        have f2 := free_of_block 2 nR
        have f3 := free_of_block 3 nR
        have hw := ((((wrote_refl nR).set 0 (.int .i64 0)).set 1 (.int .i64 0)).set 2 (.int .u64 0)).set 3 (.int .u64 0)
        have e0 := cell_of_block (o := 0) hw.there rfl
        have e1 := cell_of_block (o := 1) hw.there rfl
        have e2 := cell_of_block (o := 2) hw.there rfl
        have e3 := cell_of_block (o := 3) hw.there rfl
        have HW := Lib.hid hw
        clear hw nR
        go_wp2_with fail
        generalize (((W9.setCell ⟨w.heap.size, 0, none⟩ (.int .i64 0)).setCell ⟨w.heap.size, 1, none⟩ (.int .i64 0)).setCell ⟨w.heap.size, 2, none⟩ (.int .u64 0)).setCell ⟨w.heap.size, 3, none⟩ (.int .u64 0) = W2 at *
        clear r0 r1 r2 r3 f0 f1 f2 f3
        refine bodyPost_ret (v := .tuple #[.agg #[.int .i64 0, .int .i64 0, .int .u64 0, .int .u64 0], .int .i64 0, .int .i64 11]) (by simp [results, Tryd.results9, go_sem]; try go_simp) rfl ⟨?_, HW.out.below HB9.out (Nat.le_refl _)⟩
        rw [if_neg (by rw [HNO.out]; simp)]
      case pos =>
      subst h0
      clear b0 b1 b2 b3
      have b0 := cell_of_block (o := 0) HNB.out rfl
      have b1 := cell_of_block (o := 1) HNB.out rfl
      have b2 := cell_of_block (o := 2) HNB.out rfl
      have b3 := cell_of_block (o := 3) HNB.out rfl
      go_wp2_with fail
      refine KRT.out.mono ?_
      rintro e W10 ⟨rfl, hb10⟩
      have hlR := (Array.getElem?_eq_some_iff.1 nR).1
      have hlB := (Array.getElem?_eq_some_iff.1 HNB.out).1
      have nR9 := nR
      clear nR
      have nR := (hb10.block _ hlR).trans nR9
      have nB := (hb10.block _ hlB).trans HNB.out
      have HB10 := Lib.hid (HB9.out.trans (hb10.mono HB9.out.size))
      have HCU10 := Lib.hid (HCU9.out.below hb10)
      clear b0 b1 b2 b3 nR9 hb10 hlR hlB KRT
      cases rt with
      | false =>
        have HNO := Lib.hid (show okR xs = false from by rw [HOK.out, ← HRT.out]; simp)
        clear nB
        have N := Lib.hid nR
        have r0 := cell_of_block (o := 0) nR rfl
        have r1 := cell_of_block (o := 1) nR rfl
        have r2 := cell_of_block (o := 2) nR rfl
        have r3 := cell_of_block (o := 3) nR rfl
        have f0 := free_of_block 0 nR
        have f1 := free_of_block 1 nR
        have f2 := free_of_block 2 nR
        have f3 := free_of_block 3 nR
        have hw := ((((wrote_refl nR).set 0 (.int .i64 0)).set 1 (.int .i64 0)).set 2 (.int .u64 0)).set 3 (.int .u64 0)
        have e0 := cell_of_block (o := 0) hw.there rfl
        have e1 := cell_of_block (o := 1) hw.there rfl
        have e2 := cell_of_block (o := 2) hw.there rfl
        have e3 := cell_of_block (o := 3) hw.there rfl
        have HW := Lib.hid hw
        clear hw nR
        go_wp2_with fail
        generalize (((W10.setCell ⟨w.heap.size, 0, none⟩ (.int .i64 0)).setCell ⟨w.heap.size, 1, none⟩ (.int .i64 0)).setCell ⟨w.heap.size, 2, none⟩ (.int .u64 0)).setCell ⟨w.heap.size, 3, none⟩ (.int .u64 0) = W2 at *
        clear r0 r1 r2 r3 f0 f1 f2 f3
        refine bodyPost_ret (v := .tuple #[.agg #[.int .i64 0, .int .i64 0, .int .u64 0, .int .u64 0], .int .i64 0, .int .i64 11]) (by simp [results, Tryd.results9, go_sem]; try go_simp) rfl ⟨?_, HW.out.below HB10.out (Nat.le_refl _)⟩
        rw [if_neg (by rw [HNO.out]; simp)]
      | true =>
        have HYES := Lib.hid (show okR xs = true from by rw [HOK.out, ← HRT.out, ← HBD.out]; rfl)
        have b0 := cell_of_block (o := 0) nB rfl
        have b1 := cell_of_block (o := 1) nB rfl
        have b2 := cell_of_block (o := 2) nB rfl
        have b3 := cell_of_block (o := 3) nB rfl
        have nRd : W10.drew.heap[w.heap.size]? = some (.cells #[.int .i64 0, .int .i64 0, .int .u64 0, .int .u64 0] 26 (0, 0)) := nR
        have r0 := cell_of_block (o := 0) nR rfl
        have r1 := cell_of_block (o := 1) nR rfl
        have r2 := cell_of_block (o := 2) nR rfl
        have r3 := cell_of_block (o := 3) nR rfl
        have f0 := free_of_block 0 nR
        have f1 := free_of_block 1 nR
        have f2 := free_of_block 2 nR
        have f3 := free_of_block 3 nR
        have hcd : Cur W10.drew C (fun j => w.heap.size < j ∧ j ≠ w1.heap.size) (csK xs 4) := Fr.cur HCU10.out (G := fun _ => False) ⟨rfl, rfl, rfl, Nat.le_refl _, fun _ _ _ => rfl⟩ (fun _ _ _ => id)
        have hw := ((((wrote_refl nRd).set 0 (.int .i64 W)).set 1 (.int .i64 F)).set 2 (.int .u64 (nv D))).set 3 (.int .u64 (nv H))
        have hc12 := Fr.cur hcd (G := fun j => j = w.heap.size) ⟨hw.os, hw.tape, hw.output, Nat.le_of_eq hw.size.symm, fun j _ hn => hw.rest j hn⟩ (fun j hj _ e => by have := hj.1; omega)
        have nB12 := (hw.rest _ HBR.out).trans (show W10.drew.heap[wr.heap.size]? = _ from nB)
        obtain ⟨W12, hW12⟩ : ∃ X, X = (((W10.drew.setCell ⟨w.heap.size, 0, none⟩ (.int .i64 W)).setCell ⟨w.heap.size, 1, none⟩ (.int .i64 F)).setCell ⟨w.heap.size, 2, none⟩ (.int .u64 (nv D))).setCell ⟨w.heap.size, 3, none⟩ (.int .u64 (nv H)) := ⟨_, rfl⟩
        rw [← hW12] at hw hc12 nB12
        have y0 := cell_of_block (o := 0) nB12 rfl
        have y1 := cell_of_block (o := 1) nB12 rfl
        have y2 := cell_of_block (o := 2) nB12 rfl
        have y3 := cell_of_block (o := 3) nB12 rfl
        have z0 := cell_of_block (o := 0) hw.there rfl
        have z1 := cell_of_block (o := 1) hw.there rfl
        have z2 := cell_of_block (o := 2) hw.there rfl
        have z3 := cell_of_block (o := 3) hw.there rfl
        have HW := Lib.hid hw
        have KD := Lib.hid (rest_cur hcd)
        have K12 := Lib.hid (rest_cur hc12)
        have HB12 := Lib.hid (hw.below (show Below w.heap.size w W10.drew from HB10.out.drew) (Nat.le_refl _))
        have HWE := Lib.hid hW12
        obtain ⟨rl, hrl⟩ : ∃ x, x = (csK xs 4).xs.length := ⟨_, rfl⟩
        have HRL := Lib.hid hrl
        rw [← hrl] at KD K12
        have hsub : IntKind.i64.wrap ((n : Int) - (rl : Int)) = (n : Int) - (rl : Int) := by have h1 := HNL.out; have h2 := HCU10.out.fits; rw [← hrl] at h2; rw [IntKind.wrap_i64]; omega
        clear nR nRd nB hw hc12 hcd nB12 hW12 hrl
        go_upto_region 11 with fail
        refine (wpIn_wide (n := 0)).1 ?_
        refine wpIn_region_twoA WideF.wide 6 (fun b w' => w' = bif b then W12 else W10.drew) hmx (by kernel_rfl) (by kernel_rfl) (by decide) rfl ?_
        iterate 4 (refine textT2_run ?_ (by decide) ?_ (fun p W hS => ?_) ?_; rotate_left; (focus go_simp); (focus (cases p <;> (simp only [cond_true, cond_false] at hS; subst hS; go_simp; all_goals (first | exact ⟨rfl, rfl⟩ | rfl | (refine ⟨?_, rfl⟩; rfl))))); (try go_simp))
        refine textT2_run (.int .i64 (rl : Int)) (by decide) ?_ (fun p W hS => ?_) ?_
        · go_simp
        · cases p <;> (simp only [cond_true, cond_false] at hS; subst hS; go_simp)
          · refine KD.out.mono ?_
            rintro e w1 ⟨rfl, rfl⟩
            first | exact ⟨rfl, rfl⟩ | exact ⟨_, rfl, rfl, rfl⟩
          · refine K12.out.mono ?_
            rintro e w1 ⟨rfl, rfl⟩
            first | exact ⟨rfl, rfl⟩ | exact ⟨_, rfl, rfl, rfl⟩
        (try go_simp)
        (refine textT2_run ?_ (by decide) ?_ (fun p W hS => ?_) ?_; rotate_left; (focus go_simp); (focus (cases p <;> (simp only [cond_true, cond_false] at hS; subst hS; go_simp; all_goals (first | exact ⟨rfl, rfl⟩ | rfl | (refine ⟨?_, rfl⟩; rfl))))); (try go_simp))
        refine textT2_call undef rfl ?_ (fun W hS => ?_) ?_
        · go_simp
        · simp only [cond_false] at hS
          subst hS
          go_simp
          first | exact HWE.out | exact HWE.out.symm
        (try go_simp)
        iterate 2 (refine textT2_run ?_ (by decide) ?_ (fun p W hS => ?_) ?_; rotate_left; (focus go_simp); (focus (cases p <;> (simp only [cond_true, cond_false] at hS; subst hS; go_simp; all_goals (first | exact ⟨rfl, rfl⟩ | rfl | (refine ⟨?_, rfl⟩; rfl))))); (try go_simp))
        refine textT2_nil ?_
        clear y0 y1 y2 y3 b0 b1 b2 b3 r0 r1 r2 r3 f0 f1 f2 f3
        go_wp2
        refine bodyPost_ret (v := .tuple #[.agg #[.int .i64 W, .int .i64 F, .int .u64 (nv D), .int .u64 (nv H)], .int .i64 ((n : Int) - (rl : Int)), .int .i64 0]) (by simp [results, Tryd.results9, go_sem]; try go_simp) rfl ⟨?_, HB12.out⟩
        rw [if_pos HYES.out, HRL.out, HN.out, HNM.out.1, HNM.out.2.1, ← HNM.out.2.2.1, ← HNM.out.2.2.2]
end Go.Proofs.YtdpfbpmdpdfpdaaDoor
