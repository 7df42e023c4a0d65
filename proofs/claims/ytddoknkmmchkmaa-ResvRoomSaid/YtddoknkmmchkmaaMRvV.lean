/- ResvRoom walked, at any acts (layer 18). No condition. -/
import Derived.Test.YtddoknkmmchkmaaMak
import Derived.Test.YtddoknkmmchkmaaMask
import Derived.Test.YtddoknkmmchkmaaMad
namespace Go.Proofs.Ytddoknkmmchkmaa
set_option linter.unusedVariables false
open Go.ChangeShapes Go.WideShapes Go.ChangeAt Go.RowKit
attribute [local go_sem ↓] Go.wp_at_zero Go.wp_at_succ comesTo_value_eq comesTo_skip_eq comesTo_enter_eq

theorem R18.ActR.Cells.below' {w w' : World} {b o : Nat} {a : R18.ActR} (h : R18.ActR.Cells w b o a) (hb : Below w.heap.size w w') : R18.ActR.Cells w' b o a :=
  ⟨(hb.cell (World.block_lt_of_cell? w _ h.c0)).trans h.c0, (hb.cell (World.block_lt_of_cell? w _ h.c1)).trans h.c1, (hb.cell (World.block_lt_of_cell? w _ h.c2)).trans h.c2, (hb.cell (World.block_lt_of_cell? w _ h.c3)).trans h.c3, h.n64, h.f64, h.t64⟩
theorem mask63 (x : Int) : bits .and .i64 x 63 = x % 64 := mask_i64 x 6 64 rfl (by decide) (by decide) (by decide)
theorem mask4095 (x : Int) : bits .and .i64 x 4095 = x % 4096 := mask_i64 x 12 4096 rfl (by decide) (by decide) (by decide)
theorem atU_flat {first : Int} (hf : 0 ≤ first ∧ first ≤ 63) : atU (flatL first) 0 = first := by
  have h := at_spec (L := flatL first) (rightF first) 0
  rw [h]
  exact flat_lvl hf (by decide)
set_option maxRecDepth 100000 in
set_option maxHeartbeats 16000000 in
theorem resvroom_walk (first : Int) (lad : Option Addr) (ll lcap : Nat) (A : Nat → R18.ActR) (ak an af at_ : Int) (w : World) (hA : R18.ActsR w lad ll A) :
    Calls Try.prog 4 #[.int .i64 first, .slice lad ll lcap, .agg #[.int .i64 ak, .int .i64 an, .int .i64 af, .int .i64 at_]] w fun e w' => e = .returned (.bool true) ∧ Below w.heap.size w w' := by
  have hmx : Try.prog.follows .mixedOrders = true := by kernel_rfl
  have HA := Lib.hid hA
  have hb0 := below_alloc (Below.refl _ w) (.cells #[.int .i64 ak, .int .i64 an, .int .i64 af, .int .i64 at_] 41)
  have HZ := Lib.hid (World.alloc_heap_new w (.cells #[.int .i64 ak, .int .i64 an, .int .i64 af, .int .i64 at_] 41))
  have HB0 := Lib.hid hb0
  have hm63 := mask63 first
  have hf63 : 0 ≤ first % 64 ∧ first % 64 ≤ 63 := by omega
  generalize first % 64 = fi at *
  have HFI := Lib.hid hf63
  have KF := Lib.hid (fun X => flat_any fi X)
  have KN := Lib.hid (fun X => new_rs X)
  have HRT := Lib.hid (rightF fi)
  clear hA hb0 hf63
  go_enter Try.func4, Try.ntmps4
  go_upto_region 1 with fail
  generalize w.alloc (.cells #[.int .i64 ak, .int .i64 an, .int .i64 af, .int .i64 at_] 41) = W0 at *
  go_upto_region 2 with fail
  clear hm63
  go_wp2_with fail
  refine (KF.out _).mono ?_
  rintro e W1 ⟨S, rfl, _, hu, hb⟩
  have HU := Lib.hid (show USt W1 S (flatL fi) from hu)
  have HZ1 := Lib.hid ((hb.block _ (Array.getElem?_eq_some_iff.1 HZ.out).1).trans HZ.out)
  have HB1 := Lib.hid (below_next HB0.out hb)
  clear hu hb KF HZ HB0
  go_wp2_with fail
  refine (KN.out _).mono ?_
  rintro e W2 ⟨rfl, hr, hb⟩
  obtain ⟨F, hF⟩ : ∃ F, F = W1.heap.size := ⟨_, rfl⟩
  rw [← hF] at hr ⊢
  have HR2 := Lib.hid hr
  have HB2 := Lib.hid hb
  have HF := Lib.hid hF
  clear hr hb hF KN
  go_wp2_with fail
  go_loopw [9] (fun i wr => ∃ (j : Nat) (lst : List RV) (nx : Int), j ≤ 30 ∧ i = .int .i64 j ∧ Rs wr F F lst nx ∧ RoomR fi lst ∧ nx ≤ (j : Int) + 1 ∧ Below W1.heap.size W1 wr) (fun i _ => 30 - (intOf i).toNat)
  case atStart => exact ⟨0, [], 1, by decide, rfl, HR2.out, RoomR.new HFI.out, by decide, HB2.out⟩
  case round =>
    obtain ⟨j, lst, nx, hj, rfl, hr, hg, hnx, hbw⟩ := hrel
    have HR := Lib.hid hr
    have HG := Lib.hid hg
    have HBW := Lib.hid hbw
    have HNX := Lib.hid hnx
    clear hr hg hbw HR2 HB2 hnx
    by_cases hj2 : j < ll ∧ j < 30
    case pos =>
      obtain ⟨hjl, hj30⟩ := hj2
      have d1 : decide (j < ll) = true := decide_eq_true hjl
      have d2 : decide ((j : Int) < (ll : Int)) = true := decide_eq_true (by omega)
      have d3 : decide ((j : Int) < 30) = true := decide_eq_true (by omega)
      have d4 : decide (j < 30) = true := decide_eq_true hj30
      have hjI : (j : Int) < (ll : Int) := by omega
      have hw1 : IntKind.i64.wrap ((j : Int) + 1) = (j : Int) + 1 := by rw [IntKind.wrap_i64]; omega
      obtain ⟨tb, toff, had, hcells⟩ := HA.out.2 (by omega)
      have HCL := Lib.hid (fun X (hX : Below w.heap.size w X) => (hcells j hjl).below' hX)
      have HBJ := Lib.hid (below_next HB1.out HBW.out)
      subst had
      clear hcells
      generalize A j = aj at *
      obtain ⟨jk, jn, jf, jt⟩ := aj
      have HJ30 := Lib.hid hj30
      clear hjl hj30 hj
      have hcw := HCL.out wr HBJ.out
      have x0 : wr.cell? ⟨tb, toff + j * 4, none⟩ = some (.int .i64 jk) := hcw.c0
      have x1 : wr.cell? ⟨tb, toff + j * 4 + 1, none⟩ = some (.int .i64 jn) := hcw.c1
      clear hcw
      by_cases hk1 : jk = 1
      case pos =>
        subst hk1
        have KD := Lib.hid (drop_rs HR.out (Nat.le_refl _) jn)
        have HG2 := Lib.hid (HG.out.drop jn)
        go_wp2_with fail
        refine KD.out.mono ?_
        rintro e w2 ⟨rfl, hr2, hf2⟩
        have HR3 := Lib.hid hr2
        have HBX := Lib.hid (HBW.out.trans (show Below W1.heap.size wr w2 from by rw [← HF.out]; exact hf2.below HR.out (Nat.le_refl _)))
        have HN3 := Lib.hid (show nx ≤ (j : Int) + 1 + 1 by have := HNX.out; omega)
        clear hr2 hf2 KD HG HR HBW x0 x1 HCL HBJ HNX
        generalize (dropR lst jn).1 = dr at *
        generalize (dropR lst jn).2 = lst2 at *
        obtain ⟨nx2, hnx2⟩ : ∃ x, x = nx := ⟨_, rfl⟩
        rw [← hnx2] at HR3 HN3
        clear hnx2
        have HU2 := Lib.hid (HU.out.below HBX.out)
        go_wp2_with fail
        refine (clone_any HU2.out).mono ?_
        rintro e w3 ⟨S', rfl, hS', hu', hb⟩
        have HU3 := Lib.hid hu'
        have HB3 := Lib.hid hb
        have HR4 := Lib.hid (HR3.out.below hb)
        have HS3 := Lib.hid hS'
        have hSlt : S' < w3.heap.size := by obtain ⟨_, _, _, h2, _⟩ := hu'.at_; exact (Array.getElem?_eq_some_iff.1 h2).1
        have HSL := Lib.hid hSlt
        clear hu' hb hS' HU2 hSlt
        go_wp2_with fail
        refine (all_rs HR4.out).mono ?_
        rintro e w4 ⟨v4, rfl, ho4, hb4⟩
        have HU4 := Lib.hid (HU3.out.below hb4)
        have HB4 := Lib.hid (below_next HB3.out hb4)
        obtain ⟨ad4, c4, rfl, _, _, hr4⟩ := ho4.rd
        have KL := Lib.hid (lower_any (c := c4) HU4.out HRT.out (show (1 : Nat) * 6561 ≤ 1099511627776 by decide) HG2.out.len (fun k hk => by
          obtain ⟨g, h1, h2, h3⟩ := hr4 (by omega)
          exact ⟨g, h1, h2, by have := Ap.own_blk ho4 g (by rw [h1]; rfl); have := HSL.out; omega, h3⟩))
        clear ho4 hb4 hr4 HU3
        have HR5 := Lib.hid (HR3.out.below HB4.out)
        go_wp2_with fail
        refine KL.out.mono ?_
        rintro e w5 ⟨rfl, hu5, hf5⟩
        have HU5 := Lib.hid hu5
        have HB5 := Lib.hid (show Below w2.heap.size w2 w5 from HB4.out.trans (hf5.below (B := w2.heap.size) HB4.out.size (fun j hj => by subst hj; exact HS3.out)))
        have HLS := Lib.hid (HG2.out.least HFI.out)
        clear hu5 hf5 KL HB3 HB4 HU4 HR4 HR5
        go_wp2_with fail
        refine (least_any HU5.out 0 1099511627776).mono ?_
        rintro e w6 ⟨rfl, hb6⟩
        have hz := HLS.out
        generalize chooseU minU (lowerU (flatL fi) lst2) (0, 1099511627776) = z at *
        have dz : decide (z < 0) = false := decide_eq_false (by omega)
        have HB6 := Lib.hid (below_next HB5.out hb6)
        have HR6 := Lib.hid (HR3.out.below HB6.out)
        clear hb6 hz HU5 HB5 HLS
        go_wp2_with fail
        refine (all_rs HR6.out).mono ?_
        rintro e w7 ⟨v7, rfl, ho7, hb7⟩
        obtain ⟨a7, c7, rfl⟩ := ho7.form
        have HB7 := Lib.hid (below_next HB6.out hb7)
        have HR7 := Lib.hid (HR3.out.below HB7.out)
        have HBY := Lib.hid (HBX.out.trans (HB7.out.mono HBX.out.size))
        have hlen := HG2.out.len
        have e1 : decide (lst2.length > 8) = false := decide_eq_false (by omega)
        have e2 : decide ((lst2.length : Int) > 8) = false := decide_eq_false (by omega)
        have e3 : decide (8 < (lst2.length : Int)) = false := decide_eq_false (by omega)
        have e4 : decide (8 < lst2.length) = false := decide_eq_false (by omega)
        have HREL := Lib.hid (show ∃ (j' : Nat) (lst : List RV) (nx : Int), j' ≤ 30 ∧ Value.int .i64 ((j : Int) + 1) = .int .i64 j' ∧ Rs w7 F F lst nx ∧ RoomR fi lst ∧ nx ≤ (j' : Int) + 1 ∧ Below W1.heap.size W1 w7 from
          ⟨j + 1, lst2, nx2, by have := HJ30.out; omega, by simp, HR7.out, HG2.out, by have := HN3.out; simp; omega, HBY.out⟩)
        clear ho7 hb7 hlen HB6 HR6 HB7 HR7 HBY HBX HR3
        go_wp2_with fail
        go_roundw
        case rel => exact HREL.out
        case measure => have := HJ30.out; simp [intOf]; omega
      case neg =>
        have d5 : (jk == 1) = false := by simpa using hk1
        have d6 : decide (jk = 1) = false := decide_eq_false hk1
        have KA := Lib.hid (fun X (hX : Below wr.heap.size wr X) => add_rs (HR.out.below hX) ((HU.out.below HBW.out).below hX) HRT.out (show (1 : Nat) * 6561 ≤ 1099511627776 by decide) (Nat.le_refl _) jf jt jn)
        have HGA := Lib.hid (HG.out.add HFI.out nx jf jt jn)
        go_upto_region 9 with fail
        clear d5 d6 x0 x1 hk1
        refine wp_region_held (S := fun X => X.cell? ⟨tb, toff + j * 4 + 1, none⟩ = some (.int .i64 jn) ∧ X.cell? ⟨tb, toff + j * 4 + 2, none⟩ = some (.int .i64 jf) ∧ X.cell? ⟨tb, toff + j * 4 + 3, none⟩ = some (.int .i64 jt)) hmx ?_
        have HBD := Lib.hid (show Below wr.heap.size wr wr.drew from (Below.refl _ _).drew)
        change wpAnyH _ _ _ _ _ 13 _ _ wr.drew
        generalize wr.drew = wd at *
        have hc := HCL.out wd (below_next HBJ.out HBD.out)
        have hS : wd.cell? ⟨tb, toff + j * 4 + 1, none⟩ = some (.int .i64 jn) ∧ wd.cell? ⟨tb, toff + j * 4 + 2, none⟩ = some (.int .i64 jf) ∧ wd.cell? ⟨tb, toff + j * 4 + 3, none⟩ = some (.int .i64 jt) := ⟨hc.c1, hc.c2, hc.c3⟩
        clear hc
        (refine wpAnyH_take (i := 0) (v := .pointer (some ⟨F, 0, none⟩)) rfl (by decide +kernel) (by decide +kernel) (by decide +kernel) (fun _ _ _ h => h) (.inl ⟨by first | rfl | (go_simp; done), fun X hX => by obtain ⟨hx0, hx1, hx2⟩ := hX; first | (go_simp; done) | (go_simp; rfl)⟩) hS ?_)
        (refine wpAnyH_take (i := 1) (v := .pointer (some ⟨S, 0, none⟩)) rfl (by decide +kernel) (by decide +kernel) (by decide +kernel) (fun _ _ _ h => h) (.inl ⟨by first | rfl | (go_simp; done), fun X hX => by obtain ⟨hx0, hx1, hx2⟩ := hX; first | (go_simp; done) | (go_simp; rfl)⟩) hS ?_)
        (refine wpAnyH_take (i := 2) (v := .slice (some ⟨tb, toff, none⟩) ll lcap) rfl (by decide +kernel) (by decide +kernel) (by decide +kernel) (fun _ _ _ h => h) (.inl ⟨by first | rfl | (go_simp; done), fun X hX => by obtain ⟨hx0, hx1, hx2⟩ := hX; first | (go_simp; done) | (go_simp; rfl)⟩) hS ?_)
        (refine wpAnyH_take (i := 3) (v := .int .i64 j) rfl (by decide +kernel) (by decide +kernel) (by decide +kernel) (fun _ _ _ h => h) (.inl ⟨by first | rfl | (go_simp; done), fun X hX => by obtain ⟨hx0, hx1, hx2⟩ := hX; first | (go_simp; done) | (go_simp; rfl)⟩) hS ?_)
        (refine wpAnyH_take (i := 4) (v := .pointer (some ⟨tb, toff + j * 4, none⟩)) rfl (by decide +kernel) (by decide +kernel) (by decide +kernel) (fun _ _ _ h => h) (.inl ⟨by first | rfl | (go_simp; done), fun X hX => by obtain ⟨hx0, hx1, hx2⟩ := hX; first | (go_simp; done) | (go_simp; rfl)⟩) hS ?_)
        (refine wpAnyH_take (i := 5) (v := .pointer (some ⟨tb, toff + j * 4 + 2, none⟩)) rfl (by decide +kernel) (by decide +kernel) (by decide +kernel) (fun _ _ _ h => h) (.inl ⟨by first | rfl | (go_simp; done), fun X hX => by obtain ⟨hx0, hx1, hx2⟩ := hX; first | (go_simp; done) | (go_simp; rfl)⟩) hS ?_)
        (refine wpAnyH_take (i := 6) (v := .agg #[.int .i64 jf, .int .i64 jt]) rfl (by decide +kernel) (by decide +kernel) (by decide +kernel) (fun _ _ _ h => h) (.inl ⟨by first | rfl | (go_simp; done), fun X hX => by obtain ⟨hx0, hx1, hx2⟩ := hX; first | (go_simp; done) | (go_simp; rfl)⟩) hS ?_)
        (refine wpAnyH_take (i := 7) (v := .slice (some ⟨tb, toff, none⟩) ll lcap) rfl (by decide +kernel) (by decide +kernel) (by decide +kernel) (fun _ _ _ h => h) (.inl ⟨by first | rfl | (go_simp; done), fun X hX => by obtain ⟨hx0, hx1, hx2⟩ := hX; first | (go_simp; done) | (go_simp; rfl)⟩) hS ?_)
        (refine wpAnyH_take (i := 8) (v := .int .i64 j) rfl (by decide +kernel) (by decide +kernel) (by decide +kernel) (fun _ _ _ h => h) (.inl ⟨by first | rfl | (go_simp; done), fun X hX => by obtain ⟨hx0, hx1, hx2⟩ := hX; first | (go_simp; done) | (go_simp; rfl)⟩) hS ?_)
        (refine wpAnyH_take (i := 9) (v := .pointer (some ⟨tb, toff + j * 4, none⟩)) rfl (by decide +kernel) (by decide +kernel) (by decide +kernel) (fun _ _ _ h => h) (.inl ⟨by first | rfl | (go_simp; done), fun X hX => by obtain ⟨hx0, hx1, hx2⟩ := hX; first | (go_simp; done) | (go_simp; rfl)⟩) hS ?_)
        (refine wpAnyH_take (i := 10) (v := .pointer (some ⟨tb, toff + j * 4 + 1, none⟩)) rfl (by decide +kernel) (by decide +kernel) (by decide +kernel) (fun _ _ _ h => h) (.inl ⟨by first | rfl | (go_simp; done), fun X hX => by obtain ⟨hx0, hx1, hx2⟩ := hX; first | (go_simp; done) | (go_simp; rfl)⟩) hS ?_)
        (refine wpAnyH_take (i := 11) (v := .int .i64 jn) rfl (by decide +kernel) (by decide +kernel) (by decide +kernel) (fun _ _ _ h => h) (.inl ⟨by first | rfl | (go_simp; done), fun X hX => by obtain ⟨hx0, hx1, hx2⟩ := hX; first | (go_simp; done) | (go_simp; rfl)⟩) hS ?_)
        clear hS
        refine anyH_call (i := 12) (by decide +kernel) rfl (by first | rfl | (go_simp; done)) (by go_simp) (KA.out wd HBD.out) ?_
        rintro e w2 ⟨rfl, hr2, hf2⟩
        have HBX := Lib.hid (HBW.out.trans (show Below W1.heap.size wr w2 from (HBD.out.mono (HBW.out.size)).trans (by rw [← HF.out]; exact hf2.below (HR.out.below HBD.out) (Nat.le_refl _))))
        have HR3 := Lib.hid hr2
        have hc := HCL.out w2 (below_next HB1.out HBX.out)
        refine ⟨_, rfl, ⟨hc.c1, hc.c2, hc.c3⟩, ?_⟩
        clear hr2 hf2 hc HCL KA HBD HBJ HR HBW HG
        refine wpAnyH_done (by decide +kernel) ?_ _
        generalize addR (flatL fi) lst nx jf jt jn = ar at *
        obtain ⟨ar1, ar2, lst2, nx2⟩ := ar
        dsimp only at HR3 HGA ⊢
        have HG2 := Lib.hid HGA.out.1
        have HN3 := Lib.hid (show nx2 ≤ (j : Int) + 1 + 1 by have := HNX.out; have := HGA.out.2; omega)
        clear HGA HNX
        go_simp
        have HU2 := Lib.hid (HU.out.below HBX.out)
        go_wp2_with fail
        refine (clone_any HU2.out).mono ?_
        rintro e w3 ⟨S', rfl, hS', hu', hb⟩
        have HU3 := Lib.hid hu'
        have HB3 := Lib.hid hb
        have HR4 := Lib.hid (HR3.out.below hb)
        have HS3 := Lib.hid hS'
        have hSlt : S' < w3.heap.size := by obtain ⟨_, _, _, h2, _⟩ := hu'.at_; exact (Array.getElem?_eq_some_iff.1 h2).1
        have HSL := Lib.hid hSlt
        clear hu' hb hS' HU2 hSlt
        go_wp2_with fail
        refine (all_rs HR4.out).mono ?_
        rintro e w4 ⟨v4, rfl, ho4, hb4⟩
        have HU4 := Lib.hid (HU3.out.below hb4)
        have HB4 := Lib.hid (below_next HB3.out hb4)
        obtain ⟨ad4, c4, rfl, _, _, hr4⟩ := ho4.rd
        have KL := Lib.hid (lower_any (c := c4) HU4.out HRT.out (show (1 : Nat) * 6561 ≤ 1099511627776 by decide) HG2.out.len (fun k hk => by
          obtain ⟨g, h1, h2, h3⟩ := hr4 (by omega)
          exact ⟨g, h1, h2, by have := Ap.own_blk ho4 g (by rw [h1]; rfl); have := HSL.out; omega, h3⟩))
        clear ho4 hb4 hr4 HU3
        have HR5 := Lib.hid (HR3.out.below HB4.out)
        go_wp2_with fail
        refine KL.out.mono ?_
        rintro e w5 ⟨rfl, hu5, hf5⟩
        have HU5 := Lib.hid hu5
        have HB5 := Lib.hid (show Below w2.heap.size w2 w5 from HB4.out.trans (hf5.below (B := w2.heap.size) HB4.out.size (fun j hj => by subst hj; exact HS3.out)))
        have HLS := Lib.hid (HG2.out.least HFI.out)
        clear hu5 hf5 KL HB3 HB4 HU4 HR4 HR5
        go_wp2_with fail
        refine (least_any HU5.out 0 1099511627776).mono ?_
        rintro e w6 ⟨rfl, hb6⟩
        have hz := HLS.out
        generalize chooseU minU (lowerU (flatL fi) lst2) (0, 1099511627776) = z at *
        have dz : decide (z < 0) = false := decide_eq_false (by omega)
        have HB6 := Lib.hid (below_next HB5.out hb6)
        have HR6 := Lib.hid (HR3.out.below HB6.out)
        clear hb6 hz HU5 HB5 HLS
        go_wp2_with fail
        refine (all_rs HR6.out).mono ?_
        rintro e w7 ⟨v7, rfl, ho7, hb7⟩
        obtain ⟨a7, c7, rfl⟩ := ho7.form
        have HB7 := Lib.hid (below_next HB6.out hb7)
        have HR7 := Lib.hid (HR3.out.below HB7.out)
        have HBY := Lib.hid (HBX.out.trans (HB7.out.mono HBX.out.size))
        have hlen := HG2.out.len
        have e1 : decide (lst2.length > 8) = false := decide_eq_false (by omega)
        have e2 : decide ((lst2.length : Int) > 8) = false := decide_eq_false (by omega)
        have e3 : decide (8 < (lst2.length : Int)) = false := decide_eq_false (by omega)
        have e4 : decide (8 < lst2.length) = false := decide_eq_false (by omega)
        have HREL := Lib.hid (show ∃ (j' : Nat) (lst : List RV) (nx : Int), j' ≤ 30 ∧ Value.int .i64 ((j : Int) + 1) = .int .i64 j' ∧ Rs w7 F F lst nx ∧ RoomR fi lst ∧ nx ≤ (j' : Int) + 1 ∧ Below W1.heap.size W1 w7 from
          ⟨j + 1, lst2, nx2, by have := HJ30.out; omega, by simp, HR7.out, HG2.out, by have := HN3.out; simp; omega, HBY.out⟩)
        clear ho7 hb7 hlen HB6 HR6 HB7 HR7 HBY HBX HR3
        go_wp2_with fail
        go_roundw
        case rel => exact HREL.out
        case measure => have := HJ30.out; simp [intOf]; omega
    case neg =>
    go_upto_region 5 with fail
    go_cut [29] (fun c wx => c = .bool false ∧ wx = wr)
    case first =>
      by_cases hjl : j < ll
      · have d1 : decide (j < ll) = true := decide_eq_true hjl
        have d2 : decide ((j : Int) < (ll : Int)) = true := decide_eq_true (by omega)
        have d3 : decide ((j : Int) < 30) = false := decide_eq_false (by omega)
        have d4 : decide (j < 30) = false := decide_eq_false (by omega)
        clear hj2 hjl hj
        go_wp2_with fail
        go_meet
        exact ⟨rfl, rfl⟩
      · have d1 : decide (j < ll) = false := decide_eq_false hjl
        have d2 : decide ((j : Int) < (ll : Int)) = false := decide_eq_false (by omega)
        clear hj2 hjl hj
        go_wp2_with fail
        go_meet
        exact ⟨rfl, rfl⟩
    case rest =>
    obtain ⟨rfl, rfl⟩ := hcut
    have HJ := Lib.hid hj
    clear hj2 hj
    have HBB := Lib.hid (below_next HB1.out HBW.out)
    have HZ2 := Lib.hid ((HBW.out.block _ (Array.getElem?_eq_some_iff.1 HZ1.out).1).trans HZ1.out)
    have y1 : wc.cell? ⟨w.heap.size, 1, none⟩ = some (.int .i64 an) := cell_of_block (o := 1) HZ2.out rfl
    have y2 : wc.cell? ⟨w.heap.size, 2, none⟩ = some (.int .i64 af) := cell_of_block (o := 2) HZ2.out rfl
    have y3 : wc.cell? ⟨w.heap.size, 3, none⟩ = some (.int .i64 at_) := cell_of_block (o := 3) HZ2.out rfl
    have hmn := mask63 an
    have hmt := mask4095 at_
    have hbn : 0 ≤ an % 64 ∧ an % 64 ≤ 63 := by omega
    have hbt : 0 ≤ at_ % 4096 ∧ at_ % 4096 ≤ 4095 := by omega
    generalize an % 64 = wi at *
    generalize at_ % 4096 = mi at *
    have hwn : IntKind.i64.wrap (1 + wi) = 1 + wi := by rw [IntKind.wrap_i64]; omega
    have hwt : IntKind.i64.wrap (1 + mi) = 1 + mi := by rw [IntKind.wrap_i64]; omega
    have HFD := Lib.hid (HG.out.find HFI.out af (m := 1 + mi) (W := 1 + wi) (by omega) (by omega))
    have KFD := Lib.hid (find_rs HR.out (HU.out.below HBW.out) HRT.out (show (1 : Nat) * 6561 ≤ 1099511627776 by decide) af (1 + mi) (1 + wi))
    have hHU := HU.out.below HBW.out
    have HUC := Lib.hid hHU
    clear hHU hbn hbt
    go_upto_region 15 with fail
    clear hmn hmt hwn hwt
    go_wp2_with fail
    refine KFD.out.mono ?_
    rintro e w3 ⟨rfl, hb3⟩
    have HFD2 := Lib.hid (show (findR (flatL fi) lst af (1 + mi) (1 + wi)).2 = 0 from HFD.out.1)
    have HFD3 := Lib.hid (show (af < 1099511627776 → ((findR (flatL fi) lst af (1 + mi) (1 + wi)).1 = 1099511627776 ↔ fi < 1 + wi)) from HFD.out.2.2.1)
    have HFD4 := Lib.hid HFD.out.2.2.2
    rw [HFD2.out]
    generalize hfa : (findR (flatL fi) lst af (1 + mi) (1 + wi)).1 = fa at *
    clear hfa HFD HFD2 KFD
    have HB3 := Lib.hid (below_next HBB.out hb3)
    have HBK3 := Lib.hid (HBW.out.trans (hb3.mono HBW.out.size))
    have HR3 := Lib.hid (HR.out.below hb3)
    have HU3 := Lib.hid (HUC.out.below hb3)
    have HZ3 := Lib.hid ((hb3.block _ (Array.getElem?_eq_some_iff.1 HZ2.out).1).trans HZ2.out)
    clear hb3 y1 y2 y3 HBB HUC HZ2
    have y2 : w3.cell? ⟨w.heap.size, 2, none⟩ = some (.int .i64 af) := cell_of_block (o := 2) HZ3.out rfl
    go_upto_region 16 with fail
    go_cut [112] (fun c wx => c = .bool false ∧ wx = w3)
    case first =>
      by_cases hfr : af < 1099511627776
      case pos =>
        have hiff := HFD3.out hfr
        have q0 : decide (af < 1099511627776) = true := decide_eq_true hfr
        by_cases hz : fa = 1099511627776
        case pos =>
          have hw := hiff.1 hz
          have q1 : (fa == 1099511627776) = true := by simpa using hz
          have q2 : decide (1 + wi > fi) = true := decide_eq_true hw
          have q3 : decide (fi < 1 + wi) = true := decide_eq_true hw
          clear hiff hw hz hfr
          go_wp2_with fail
          go_meet
          exact ⟨rfl, rfl⟩
        case neg =>
          have hw : ¬ fi < 1 + wi := fun h => hz (hiff.2 h)
          have q1 : (fa == 1099511627776) = false := by simpa using hz
          have q2 : decide (1 + wi > fi) = false := decide_eq_false hw
          have q3 : decide (fi < 1 + wi) = false := decide_eq_false hw
          clear hiff hw hz hfr
          go_wp2_with fail
          go_meet
          exact ⟨rfl, rfl⟩
      case neg =>
        have q0 : decide (af < 1099511627776) = false := decide_eq_false hfr
        cases hz : (fa == 1099511627776)
        all_goals cases hw : decide (fi < 1 + wi)
        all_goals have hw2 : decide (1 + wi > fi) = _ := hw
        all_goals clear hfr
        all_goals go_wp2_with fail
        all_goals go_meet
        all_goals exact ⟨rfl, rfl⟩
    case rest =>
    obtain ⟨rfl, rfl⟩ := hcut
    clear HFD3 y2
    have HAT := Lib.hid (atU_flat HFI.out)
    by_cases h39 : fa < 549755813888
    case neg =>
      have q1 : decide (fa < 549755813888) = false := decide_eq_false h39
      clear h39 HFD4
      have KAT := Lib.hid (at_any HU3.out 0)
      rw [show atU (flatL fi) 0 = fi from HAT.out] at KAT
      go_wp2_with fail
      refine KAT.out.mono ?_
      rintro e w9 ⟨rfl, hb9⟩
      have HB9 := Lib.hid (below_next HB3.out hb9)
      clear hb9 KAT
      go_wp2_with fail
      refine (rone w9).mono ?_
      rintro e w10 ⟨rfl, hb10⟩
      have HB10 := Lib.hid (below_next HB9.out hb10)
      clear hb10
      go_wp2_with fail
      go_ret
      exact ⟨rfl, HB10.out⟩
    case pos =>
    have q1 : decide (fa < 549755813888) = true := decide_eq_true h39
    have H39 := Lib.hid h39
    clear h39
    go_wp2_with fail
    refine (all_rs HR3.out).mono ?_
    rintro e w4 ⟨v4, rfl, ho4, hb4⟩
    obtain ⟨a4, c4, rfl⟩ := ho4.form
    have HB4 := Lib.hid (below_next HB3.out hb4)
    have HBK4 := Lib.hid (HBK3.out.trans (hb4.mono HBK3.out.size))
    have HR4 := Lib.hid (HR3.out.below hb4)
    have HU4 := Lib.hid (HU3.out.below hb4)
    clear ho4 hb4 HB3 HR3 HU3 q1
    by_cases h8 : lst.length < 8
    case neg =>
      have q2 : decide (lst.length < 8) = false := decide_eq_false h8
      have q3 : decide ((lst.length : Int) < 8) = false := decide_eq_false (by omega)
      clear h8 HFD4
      have KAT := Lib.hid (at_any HU4.out 0)
      rw [show atU (flatL fi) 0 = fi from HAT.out] at KAT
      go_wp2_with fail
      refine KAT.out.mono ?_
      rintro e w9 ⟨rfl, hb9⟩
      have HB9 := Lib.hid (below_next HB4.out hb9)
      clear hb9 KAT
      go_wp2_with fail
      refine (rone w9).mono ?_
      rintro e w10 ⟨rfl, hb10⟩
      have HB10 := Lib.hid (below_next HB9.out hb10)
      clear hb10
      go_wp2_with fail
      go_ret
      exact ⟨rfl, HB10.out⟩
    case pos =>
    have q2 : decide (lst.length < 8) = true := decide_eq_true h8
    have q3 : decide ((lst.length : Int) < 8) = true := decide_eq_true (by omega)
    have HAD := Lib.hid (HFD4.out H39.out h8 nx (by have := HNX.out; have := HJ.out; omega))
    clear h8
    go_wp2_with fail
    refine (of_any fa (1 + mi) _).mono ?_
    rintro e w5 ⟨rfl, hb5⟩
    have HB5 := Lib.hid (below_next HB4.out hb5)
    have HBK5 := Lib.hid (HBK4.out.trans (hb5.mono HBK4.out.size))
    have HR5 := Lib.hid (HR4.out.below hb5)
    have HU5 := Lib.hid (HU4.out.below hb5)
    clear hb5 HB4 HR4 HU4 q2 q3
    have KA := Lib.hid (add_rs HR5.out HU5.out HRT.out (show (1 : Nat) * 6561 ≤ 1099511627776 by decide) (Nat.le_refl _) (clampI fa) (addI fa (1 + mi)) (1 + wi))
    go_wp2_with fail
    refine KA.out.mono ?_
    rintro e w6 ⟨rfl, hr6, hf6⟩
    have HBK6 := Lib.hid (HBK5.out.trans (show Below W1.heap.size w5 w6 from by rw [← HF.out]; exact hf6.below HR5.out (Nat.le_refl _)))
    have HU6 := Lib.hid (show USt w6 S (flatL fi) from HU.out.below HBK6.out)
    have HB6 := Lib.hid (show Below w.heap.size w w6 from below_next HB1.out HBK6.out)
    have hz : (addR (flatL fi) lst nx (clampI fa) (addI fa (1 + mi)) (1 + wi)).2.1 = 0 := HAD.out
    rw [hz]
    clear hr6 hf6 KA hz
    generalize (addR (flatL fi) lst nx (clampI fa) (addI fa (1 + mi)) (1 + wi)).1 = a1 at *
    have KAT := Lib.hid (at_any HU6.out 0)
    rw [show atU (flatL fi) 0 = fi from HAT.out] at KAT
    go_wp2_with fail
    refine KAT.out.mono ?_
    rintro e w9 ⟨rfl, hb9⟩
    have HB9 := Lib.hid (below_next HB6.out hb9)
    clear hb9 KAT
    go_wp2_with fail
    refine (rone w9).mono ?_
    rintro e w10 ⟨rfl, hb10⟩
    have HB10 := Lib.hid (below_next HB9.out hb10)
    clear hb10
    go_wp2_with fail
    go_ret
    exact ⟨rfl, HB10.out⟩
end Go.Proofs.Ytddoknkmmchkmaa
