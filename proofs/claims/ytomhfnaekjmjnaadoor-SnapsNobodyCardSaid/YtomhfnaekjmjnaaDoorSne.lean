/- What is kept behind a file that was written: the deferred part of saving. No condition. -/
import Derived.Test.YtomhfnaekjmjnaaDoorSnA
import Derived.Defers
namespace Go.Proofs.YtomhfnaekjmjnaaDoor
set_option linter.unusedVariables false
open Go.ChangeShapes Go.WideShapes Go.ChangeAt Go.RowKit
attribute [local go_sem ↓] Go.wp_at_zero Go.wp_at_succ comesTo_value_eq comesTo_skip_eq comesTo_enter_eq

/-- a store in a region by Ap.wp_region_K, ahead of the number js too -/
theorem anyK_storeS {P : Program} {md : Region.Mode} {ops : Array Oper} {Q : Exit → Act → World → Prop} {S1 S2 : World → Prop} {js fuel : Nat} {listed : Array Bool} {a : Act} {w : World} {i : Nat} {oi : Oper} {w' : World} (hr : Region.ready md ops listed = [i]) (hi : ops[i]? = some oi) (hg : oi.guard = none)
    (h : (execOp a.eval oi).run P w = .ok .skip w') (hS : S1 w' ∧ ((listed.setIfInBounds i true).getD js true = false → S2 w')) (hR : Ap.wpAnyK P md ops Q S1 S2 js fuel (listed.setIfInBounds i true) (a.put oi.dst undef) w') :
    Ap.wpAnyK P md ops Q S1 S2 js (fuel + 1) listed a w := by
  refine Ap.wpAnyK_all hr (by simp) fun k hk => ?_
  obtain rfl : k = i := by simpa using hk
  unfold wpOp
  simp only [hi, Region.wanted, hg, if_true]
  refine .inl ?_
  unfold Oper.wp
  rw [h]
  exact ⟨hS, hR⟩
set_option maxRecDepth 100000 in
set_option maxHeartbeats 1000000 in
theorem save1_bad {w : World} {S Bb Bs Bt Bx : Nat} {code : Int} {x0 x1 x2 x3 x5 : Value} {x4 x6 : Value} (hcode : code ≠ 0) (cb : w.cell? ⟨Bb, 0, none⟩ = some (.int .i64 code)) (cs : w.cell? ⟨Bs, 0, none⟩ = some (.pointer (some ⟨S, 0, none⟩))) (hBS : Bs ≠ S)
    (hS : w.heap[S]? = some (.cells #[x0, x1, x2, x3, x4, x5, x6] 87 (0, 0))) (u : FrameMode) :
    CallsD Tryd.prog 71 #[.pointer (some ⟨Bb, 0, none⟩), .pointer (some ⟨Bs, 0, none⟩), .pointer (some ⟨Bt, 0, none⟩), .pointer (some ⟨Bx, 0, none⟩)] u w fun e u' w' => u' = u ∧ (e = .returned (.tuple #[]) ∧ WroteTo S 87 #[x0, x1, x2, x3, x4, x5, .bool true] w w') := by
  have hb : (code == 0) = false := by simpa using hcode
  have hb2 : (code != 0) = true := by simp [hcode]
  have hw := (wrote_refl hS).set 6 (.bool true)
  have c6 := cell_of_block (o := 6) hS rfl
  have f6 := free_of_block 6 hS
  have HW := Lib.hid hw
  have cs' : (w.setCell ⟨S, 6, none⟩ (.bool true)).cell? ⟨Bs, 0, none⟩ = some (.pointer (some ⟨S, 0, none⟩)) := (World.cell?_of_block (a := ⟨Bs, 0, none⟩) (hw.rest Bs hBS)).trans cs
  have c6' := cell_of_block (o := 6) hw.there rfl
  clear hcode hw hS
  go_enter_d Tryd.func71, Tryd.ntmps71
  go_wp2
  go_end0
  exact ⟨rfl, HW.out⟩
set_option maxRecDepth 100000 in
set_option maxHeartbeats 4000000 in
theorem save1_ok {w : World} {S Bb Bs Bt Bx : Nat} {x0 x1 x2 x3 x4 x6 : Value} {gen turn : Int} {ad : Option Addr} {n c : Nat} {bs : List Int} (hlen : bs.length ≤ 65536) (cb : w.cell? ⟨Bb, 0, none⟩ = some (.int .i64 0)) (cs : w.cell? ⟨Bs, 0, none⟩ = some (.pointer (some ⟨S, 0, none⟩))) (ct : w.cell? ⟨Bt, 0, none⟩ = some (.int .i64 turn)) (cx : w.cell? ⟨Bx, 0, none⟩ = some (.slice ad n c)) (hBS : Bs ≠ S) (hBt : Bt ≠ S) (hBx : Bx ≠ S)
    (hS : w.heap[S]? = some (.cells #[x0, x1, x2, x3, x4, .int .i64 gen, x6] 87 (0, 0))) (hg : 0 ≤ gen ∧ gen < 4611686018427387904) (hT : ∀ w', WroteTo S 87 #[x0, x1, x2, x3, x4, .int .i64 gen, .bool false] w w' → TxtAt w' (.slice ad n c) bs) (u : FrameMode) :
    CallsD Tryd.prog 71 #[.pointer (some ⟨Bb, 0, none⟩), .pointer (some ⟨Bs, 0, none⟩), .pointer (some ⟨Bt, 0, none⟩), .pointer (some ⟨Bx, 0, none⟩)] u w fun e u' w' => u' = u ∧ (e = .returned (.tuple #[]) ∧ ∃ v, OwnTxt w' w.heap.size v bs ∧ w'.heap[S]? = some (.cells #[x0, x1, x2, .int .i64 turn, v, .int .i64 (gen + 1), .bool false] 87 (0, 0)) ∧ Fr (fun j => j = S) w w') := by
  have hmx : Tryd.prog.follows .mixedOrders = true := by kernel_rfl
  have hlS := (Array.getElem?_eq_some_iff.1 hS).1
  have hw := (wrote_refl hS).set 6 (.bool false)
  have c6 := cell_of_block (o := 6) hS rfl
  have f6 := free_of_block 6 hS
  have HW := Lib.hid hw
  have HT := Lib.hid hT
  have cs' : (w.setCell ⟨S, 6, none⟩ (.bool false)).cell? ⟨Bs, 0, none⟩ = some (.pointer (some ⟨S, 0, none⟩)) := (World.cell?_of_block (a := ⟨Bs, 0, none⟩) (hw.rest Bs hBS)).trans cs
  have ct' : (w.setCell ⟨S, 6, none⟩ (.bool false)).cell? ⟨Bt, 0, none⟩ = some (.int .i64 turn) := (World.cell?_of_block (a := ⟨Bt, 0, none⟩) (hw.rest Bt hBt)).trans ct
  have cx' : (w.setCell ⟨S, 6, none⟩ (.bool false)).cell? ⟨Bx, 0, none⟩ = some (.slice ad n c) := (World.cell?_of_block (a := ⟨Bx, 0, none⟩) (hw.rest Bx hBx)).trans cx
  have c6' := cell_of_block (o := 6) hw.there rfl
  have HLT := Lib.hid (show Bs < w.heap.size ∧ Bt < w.heap.size ∧ Bx < w.heap.size from ⟨World.block_lt_of_cell? w _ cs, World.block_lt_of_cell? w _ ct, World.block_lt_of_cell? w _ cx⟩)
  have HNE := Lib.hid (And.intro hBS (And.intro hBt hBx))
  have HG := Lib.hid hg
  have HCC := Lib.hid (And.intro cs' (And.intro ct' cx'))
  have HLEN := Lib.hid (And.intro hlen hlS)
  clear hw hS hT hBS hBt hBx hg hlen hlS ct cx
  go_enter_d Tryd.func71, Tryd.ntmps71
  go_upto_region 2 with fail
  have mS := HW.out.there
  have hs0 := HW.out.size
  have KC := Lib.hid (clone_bytes ((HT.out _ HW.out).below (Below.refl _ _).drew) (by have := HLEN.out; omega))
  clear cs' ct' cx' c6 f6 c6' cb
  have cs1 := (World.cell?_of_block (a := ⟨Bs, 0, none⟩) (HW.out.rest Bs HNE.out.1)).trans cs
  generalize w.setCell ⟨S, 6, none⟩ (.bool false) = w1 at *
  refine Ap.wp_region_K (S1 := fun X : World => X.cell? ⟨Bs, 0, none⟩ = some (.pointer (some ⟨S, 0, none⟩)) ∧ X.cell? ⟨Bt, 0, none⟩ = some (.int .i64 turn) ∧ X.cell? ⟨Bx, 0, none⟩ = some (.slice ad n c)) (S2 := fun X : World => X.cell? ⟨S, 5, none⟩ = some (.int .i64 gen)) (js := 19) hmx ?_
  change Ap.wpAnyK _ _ _ _ _ _ _ 20 _ _ w1.drew
  have hSS : (fun X : World => X.cell? ⟨Bs, 0, none⟩ = some (.pointer (some ⟨S, 0, none⟩)) ∧ X.cell? ⟨Bt, 0, none⟩ = some (.int .i64 turn) ∧ X.cell? ⟨Bx, 0, none⟩ = some (.slice ad n c)) w1.drew ∧ (fun X : World => X.cell? ⟨S, 5, none⟩ = some (.int .i64 gen)) w1.drew := ⟨HCC.out, cell_of_block (o := 5) mS rfl⟩
  clear cs cs1
  refine Ap.wpAnyK_take1 (i := 0) (v := .pointer (some ⟨S, 0, none⟩)) rfl (by decide) (by decide +kernel) (by decide +kernel) (by decide +kernel) (fun _ _ _ h => h) (.inl ⟨by first | rfl | (go_simp; done), fun X hX => by have hx1 := hX.1; have hx2 := hX.2.1; have hx3 := hX.2.2; clear hX; first | (go_simp; done) | (go_simp; rfl)⟩) hSS ?_
  refine Ap.wpAnyK_take1 (i := 1) (v := .pointer (some ⟨S, 0, none⟩)) rfl (by decide) (by decide +kernel) (by decide +kernel) (by decide +kernel) (fun _ _ _ h => h) (.inl ⟨by first | rfl | (go_simp; done), fun X hX => by have hx1 := hX.1; have hx2 := hX.2.1; have hx3 := hX.2.2; clear hX; first | (go_simp; done) | (go_simp; rfl)⟩) hSS ?_
  refine Ap.wpAnyK_take1 (i := 2) (v := .pointer (some ⟨S, 0, none⟩)) rfl (by decide) (by decide +kernel) (by decide +kernel) (by decide +kernel) (fun _ _ _ h => h) (.inl ⟨by first | rfl | (go_simp; done), fun X hX => by have hx1 := hX.1; have hx2 := hX.2.1; have hx3 := hX.2.2; clear hX; first | (go_simp; done) | (go_simp; rfl)⟩) hSS ?_
  refine Ap.wpAnyK_take1 (i := 3) (v := .int .i64 turn) rfl (by decide) (by decide +kernel) (by decide +kernel) (by decide +kernel) (fun _ _ _ h => h) (.inl ⟨by first | rfl | (go_simp; done), fun X hX => by have hx1 := hX.1; have hx2 := hX.2.1; have hx3 := hX.2.2; clear hX; first | (go_simp; done) | (go_simp; rfl)⟩) hSS ?_
  refine Ap.wpAnyK_take1 (i := 4) (v := .slice ad n c) rfl (by decide) (by decide +kernel) (by decide +kernel) (by decide +kernel) (fun _ _ _ h => h) (.inl ⟨by first | rfl | (go_simp; done), fun X hX => by have hx1 := hX.1; have hx2 := hX.2.1; have hx3 := hX.2.2; clear hX; first | (go_simp; done) | (go_simp; rfl)⟩) hSS ?_
  refine Ap.wpAnyK_take1 (i := 6) (v := .pointer (some ⟨S, 0, none⟩)) rfl (by decide) (by decide +kernel) (by decide +kernel) (by decide +kernel) (fun _ _ _ h => h) (.inl ⟨by first | rfl | (go_simp; done), fun X hX => by have hx1 := hX.1; have hx2 := hX.2.1; have hx3 := hX.2.2; clear hX; first | (go_simp; done) | (go_simp; rfl)⟩) hSS ?_
  refine Ap.wpAnyK_take1 (i := 7) (v := .pointer (some ⟨S, 0, none⟩)) rfl (by decide) (by decide +kernel) (by decide +kernel) (by decide +kernel) (fun _ _ _ h => h) (.inl ⟨by first | rfl | (go_simp; done), fun X hX => by have hx1 := hX.1; have hx2 := hX.2.1; have hx3 := hX.2.2; clear hX; first | (go_simp; done) | (go_simp; rfl)⟩) hSS ?_
  refine Ap.wpAnyK_take1 (i := 8) (v := .pointer (some ⟨S, 5, none⟩)) rfl (by decide) (by decide +kernel) (by decide +kernel) (by decide +kernel) (fun _ _ _ h => h) (.inl ⟨by first | rfl | (go_simp; done), fun X hX => by have hx1 := hX.1; have hx2 := hX.2.1; have hx3 := hX.2.2; clear hX; first | (go_simp; done) | (go_simp; rfl)⟩) hSS ?_
  refine Ap.wpAnyK_take2 (i := 9) (v := .int .i64 gen) rfl (by decide) (by decide +kernel) (by decide +kernel) (by decide +kernel) rfl (by decide +kernel) (by decide +kernel) (fun _ _ _ h => h) (.inl ⟨by first | rfl | (go_simp; done), fun X hX => by have hx1 := hX.2; clear hX; first | (go_simp; done) | (go_simp; rfl)⟩) hSS ?_
  have hwg : IntKind.i64.wrap (gen + 1) = gen + 1 := by have := HG.out; rw [IntKind.wrap_i64]; omega
  have hwg2 : wrap64 (gen + 1) = gen + 1 := by have := HG.out; unfold wrap64; omega
  refine Ap.wpAnyK_take1 (i := 10) (v := .int .i64 (gen + 1)) rfl (by decide) (by decide +kernel) (by decide +kernel) (by decide +kernel) (fun _ _ _ h => h) (.inl ⟨by first | rfl | (go_simp; done), fun X hX => by have hx1 := hX.1; have hx2 := hX.2.1; have hx3 := hX.2.2; clear hX; first | (go_simp; done) | (go_simp; rfl)⟩) hSS ?_
  clear hwg hwg2
  refine Ap.anyK_call (i := 5) (by decide +kernel) rfl rfl (by go_simp) KC.out ?_
  rintro e w2 ⟨u, rfl, ho, hb2, _⟩
  have hb2 : Below w1.heap.size w1 w2 := (Below.refl w1.heap.size w1).drew.trans hb2
  have ho : OwnTxt w2 w1.heap.size u bs := ho
  obtain ⟨ua, un, uc, rfl⟩ : ∃ a n c, u = .slice a n c := by
    rcases ho.form with ⟨rfl, _⟩ | ⟨g, c, rfl, _⟩
    · exact ⟨_, _, _, rfl⟩
    · exact ⟨_, _, _, rfl⟩
  have hlS := HLEN.out.2
  have hlt := HLT.out
  have m2 := (hb2.block S (by omega)).trans mS
  have hSS2 : (fun X : World => X.cell? ⟨Bs, 0, none⟩ = some (.pointer (some ⟨S, 0, none⟩)) ∧ X.cell? ⟨Bt, 0, none⟩ = some (.int .i64 turn) ∧ X.cell? ⟨Bx, 0, none⟩ = some (.slice ad n c)) w2 ∧ (fun X : World => X.cell? ⟨S, 5, none⟩ = some (.int .i64 gen)) w2 :=
    ⟨⟨(hb2.cell (p := ⟨Bs, 0, none⟩) (by show Bs < _; omega)).trans hSS.1.1, (hb2.cell (p := ⟨Bt, 0, none⟩) (by show Bt < _; omega)).trans hSS.1.2.1, (hb2.cell (p := ⟨Bx, 0, none⟩) (by show Bx < _; omega)).trans hSS.1.2.2⟩, cell_of_block (o := 5) m2 rfl⟩
  refine ⟨_, rfl, ⟨hSS2.1, fun _ => hSS2.2⟩, ?_⟩
  refine Ap.anyK_val1 (i := 11) (v := .pointer (some ⟨S, 0, none⟩)) (w' := w2) (by decide +kernel) rfl rfl (by first | (go_simp; done) | (go_simp; rfl)) hSS2 ?_
  refine Ap.anyK_val1 (i := 12) (v := .pointer (some ⟨S, 3, none⟩)) (w' := w2) (by decide +kernel) rfl rfl (by first | (go_simp; done) | (go_simp; rfl)) hSS2 ?_
  have c3 := cell_of_block (o := 3) m2 rfl
  have f3 := free_of_block 3 m2
  have hw3 := (wrote_refl m2).set 3 (.int .i64 turn)
  have hSS3 : (fun X : World => X.cell? ⟨Bs, 0, none⟩ = some (.pointer (some ⟨S, 0, none⟩)) ∧ X.cell? ⟨Bt, 0, none⟩ = some (.int .i64 turn) ∧ X.cell? ⟨Bx, 0, none⟩ = some (.slice ad n c)) (w2.setCell ⟨S, 3, none⟩ (.int .i64 turn)) ∧ (fun X : World => X.cell? ⟨S, 5, none⟩ = some (.int .i64 gen)) (w2.setCell ⟨S, 3, none⟩ (.int .i64 turn)) :=
    ⟨⟨(World.cell?_of_block (a := ⟨Bs, 0, none⟩) (hw3.rest Bs HNE.out.1)).trans hSS2.1.1, (World.cell?_of_block (a := ⟨Bt, 0, none⟩) (hw3.rest Bt HNE.out.2.1)).trans hSS2.1.2.1, (World.cell?_of_block (a := ⟨Bx, 0, none⟩) (hw3.rest Bx HNE.out.2.2)).trans hSS2.1.2.2⟩, cell_of_block (o := 5) hw3.there rfl⟩
  refine anyK_storeS (i := 13) (w' := w2.setCell ⟨S, 3, none⟩ (.int .i64 turn)) (by decide +kernel) rfl rfl (by first | (go_simp; done) | (go_simp; rfl)) ⟨hSS3.1, fun _ => hSS3.2⟩ ?_
  refine Ap.anyK_val1 (i := 14) (v := .pointer (some ⟨S, 0, none⟩)) (w' := w2.setCell ⟨S, 3, none⟩ (.int .i64 turn)) (by decide +kernel) rfl rfl (by first | (go_simp; done) | (go_simp; rfl)) hSS3 ?_
  refine Ap.anyK_val1 (i := 15) (v := .pointer (some ⟨S, 4, none⟩)) (w' := w2.setCell ⟨S, 3, none⟩ (.int .i64 turn)) (by decide +kernel) rfl rfl (by first | (go_simp; done) | (go_simp; rfl)) hSS3 ?_
  have HB2 := Lib.hid hb2
  have HO2 := Lib.hid ho
  have HW3 := Lib.hid hw3
  have m3 := hw3.there
  clear c3 f3 hSS hSS2 hb2 ho m2 mS hw3 hlS hlt
  generalize w2.setCell ⟨S, 3, none⟩ (.int .i64 turn) = w3 at *
  have c4 := cell_of_block (o := 4) m3 rfl
  have f4 := free_of_block 4 m3
  have hw4 := (wrote_refl m3).set 4 (.slice ua un uc)
  have hSS4 : (fun X : World => X.cell? ⟨Bs, 0, none⟩ = some (.pointer (some ⟨S, 0, none⟩)) ∧ X.cell? ⟨Bt, 0, none⟩ = some (.int .i64 turn) ∧ X.cell? ⟨Bx, 0, none⟩ = some (.slice ad n c)) (w3.setCell ⟨S, 4, none⟩ (.slice ua un uc)) ∧ (fun X : World => X.cell? ⟨S, 5, none⟩ = some (.int .i64 gen)) (w3.setCell ⟨S, 4, none⟩ (.slice ua un uc)) :=
    ⟨⟨(World.cell?_of_block (a := ⟨Bs, 0, none⟩) (hw4.rest Bs HNE.out.1)).trans hSS3.1.1, (World.cell?_of_block (a := ⟨Bt, 0, none⟩) (hw4.rest Bt HNE.out.2.1)).trans hSS3.1.2.1, (World.cell?_of_block (a := ⟨Bx, 0, none⟩) (hw4.rest Bx HNE.out.2.2)).trans hSS3.1.2.2⟩, cell_of_block (o := 5) hw4.there rfl⟩
  refine anyK_storeS (i := 16) (w' := w3.setCell ⟨S, 4, none⟩ (.slice ua un uc)) (by decide +kernel) rfl rfl (by first | (go_simp; done) | (go_simp; rfl)) ⟨hSS4.1, fun _ => hSS4.2⟩ ?_
  have HW4 := Lib.hid hw4
  have m4 := hw4.there
  clear c4 f4 hSS3 m3 hw4
  generalize w3.setCell ⟨S, 4, none⟩ (.slice ua un uc) = w4 at *
  refine Ap.anyK_val1 (i := 17) (v := .pointer (some ⟨S, 0, none⟩)) (w' := w4) (by decide +kernel) rfl rfl (by first | (go_simp; done) | (go_simp; rfl)) hSS4 ?_
  refine Ap.anyK_val1 (i := 18) (v := .pointer (some ⟨S, 5, none⟩)) (w' := w4) (by decide +kernel) rfl rfl (by first | (go_simp; done) | (go_simp; rfl)) hSS4 ?_
  have c5 := cell_of_block (o := 5) m4 rfl
  have f5 := free_of_block 5 m4
  have hw5 := (wrote_refl m4).set 5 (.int .i64 (gen + 1))
  refine anyK_storeS (i := 19) (w' := w4.setCell ⟨S, 5, none⟩ (.int .i64 (gen + 1))) (by decide +kernel) rfl rfl (by first | (go_simp; done) | (go_simp; rfl)) ⟨⟨(World.cell?_of_block (a := ⟨Bs, 0, none⟩) (hw5.rest Bs HNE.out.1)).trans hSS4.1.1, (World.cell?_of_block (a := ⟨Bt, 0, none⟩) (hw5.rest Bt HNE.out.2.1)).trans hSS4.1.2.1, (World.cell?_of_block (a := ⟨Bx, 0, none⟩) (hw5.rest Bx HNE.out.2.2)).trans hSS4.1.2.2⟩, fun h => absurd h (by decide +kernel)⟩ ?_
  refine Ap.wpAnyK_done (by decide +kernel) ?_ _
  have HW5 := Lib.hid hw5
  clear c5 f5 hSS4 m4 hw5
  generalize w4.setCell ⟨S, 5, none⟩ (.int .i64 (gen + 1)) = w5 at *
  go_simp
  go_wp2
  go_end0
  have hrest : ∀ j, j ≠ S → w5.heap[j]? = w2.heap[j]? := fun j hj => (HW5.out.rest j hj).trans ((HW4.out.rest j hj).trans (HW3.out.rest j hj))
  have hs1 := HW.out.size
  have hs2 := HB2.out.size
  have hs3 := HW3.out.size
  have hs4 := HW4.out.size
  have hs5 := HW5.out.size
  have hlS := HLEN.out.2
  refine ⟨rfl, .slice ua un uc, (HO2.out.base (B' := w.heap.size) (by omega)).of_block fun k hk => hrest k (by have := HO2.out.blockGe hk; omega), HW5.out.there, ⟨HW5.out.os.trans (HW4.out.os.trans (HW3.out.os.trans (HB2.out.os.trans HW.out.os))), HW5.out.tape.trans (HW4.out.tape.trans (HW3.out.tape.trans (HB2.out.tape.trans HW.out.tape))), HW5.out.output.trans (HW4.out.output.trans (HW3.out.output.trans (HB2.out.output.trans HW.out.output))), by omega, fun j hj hn => (hrest j hn).trans ((HB2.out.block j (by omega)).trans (HW.out.rest j hn))⟩⟩
end Go.Proofs.YtomhfnaekjmjnaaDoor
