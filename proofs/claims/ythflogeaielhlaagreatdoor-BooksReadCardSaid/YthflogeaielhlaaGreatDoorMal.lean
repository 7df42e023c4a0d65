/- Laws that belong together: The bytes of books that were made (Put, layer 14). Condition: their numbers fit.; What is read of books' bytes, plainly; books cloned (layer 14). Condition: the numbers are within their bounds.; The document's reading of books, plainly: it is the program's (layer 14). No condition. -/
import Derived.Test.YthflogeaielhlaaGreatDoorMak
import Derived.Test.YthflogeaielhlaaGreatDoorMad
import Derived.Laws.EntriesVeiled
import Derived.Test.YthflogeaielhlaaGreatDoorMaf
import Derived.Test.YthflogeaielhlaaGreatDoorMaj
namespace Go.Proofs.YthflogeaielhlaaGreatDoor
set_option linter.unusedVariables false
open Go.ChangeShapes Go.WideShapes Go.ChangeAt Go.RowKit Bk
attribute [local go_sem ↓] Go.wp_at_zero Go.wp_at_succ comesTo_value_eq comesTo_skip_eq comesTo_enter_eq

/-- the bytes of books -/
def bytesB (h : Int) (L : List LV) : List Int := putI h ++ putI (L.length : Int) ++ putsB L.flatten
theorem FrB.st {B : Nat} {w w' : World} (h : FrB B w w') {cq : Array Value} (hq : w.heap[B]? = some (.cells cq 22 (0, 0))) : StB w w' := ⟨h.size, fun j cs mk hj => h.block j (Array.getElem?_eq_some_iff.1 hj).1 (by rintro rfl; rw [hj] at hq; injection hq with hq; injection hq with _ hq _; exact absurd hq (by decide))⟩
theorem FrB.bk {B : Nat} {w w' : World} (h : FrB B w w') {b m : Nat} {hf : Int} {L : List LV} (H : BkAt w b m hf L) (h1 : b ≠ B) (h2 : m ≠ B) : BkAt w' b m hf L := H.keep (h.block b H.lt.1 h1) (h.block m H.lt.2 h2)
theorem flat9 {L : List LV} (h : ∀ l ∈ L, l.length = 9) : L.flatten.length = 9 * L.length := by
  induction L with
  | nil => rfl
  | cons l L ih =>
    have h1 := ih fun x hx => h x (List.mem_cons_of_mem _ hx)
    have h2 := h l List.mem_cons_self
    simp only [List.flatten_cons, List.length_append, List.length_cons]
    omega
theorem take_flat {L : List LV} {k : Nat} (hk : k < L.length) : (L.take (k + 1)).flatten = (L.take k).flatten ++ L.getD k zL := by
  rw [List.take_succ_eq_append_getElem hk, List.flatten_append, show L[k] = L.getD k zL by rw [List.getD_eq_getElem?_getD, List.getElem?_eq_getElem hk]; rfl]
  simp
set_option maxRecDepth 100000 in
set_option maxHeartbeats 4000000 in
theorem put_bk {w : World} {b m : Nat} {h : Int} {L : List LV} (H : BkAt w b m h L) (hh : i64B h) (hx : ∀ l ∈ L, ∀ x ∈ l, i64B x) :
    Calls Tryz.prog 19 #[.pointer (some ⟨b, 0, none⟩)] w fun e w' => ∃ u, e = .returned u ∧ OwnTxt w' w.heap.size u (bytesB h L) ∧ Below w.heap.size w w' := by
  have hmx : Tryz.prog.follows .mixedOrders = true := by kernel_rfl
  have hE := enters_of (P := Tryz.prog) Tryz.func35 (by kernel_rfl) rfl
  unfold Go.Proofs.Enters at hE
  have HX := Lib.hid hx
  have HHI := Lib.hid hh
  have HLN := Lib.hid H.good.len
  have K0 := Lib.hid (there_bk H)
  have hb1 := below_alloc (Below.refl _ w) (.cells #[.slice none 0 0] 22)
  have HN1 := Lib.hid (World.alloc_heap_new w (.cells #[.slice none 0 0] 22))
  have HB1 := Lib.hid (H.below hb1)
  have HE1 := Lib.hid hb1
  have HNE := Lib.hid (show b ≠ w.heap.size ∧ m ≠ w.heap.size from by have := H.lt; omega)
  clear H hx hh hb1
  go_enter Tryz.func19, Tryz.ntmps19
  go_wp2_with fail
  refine K0.out.mono ?_
  rintro e w' ⟨rfl, hw⟩
  obtain rfl := hw
  go_upto_region 4 with fail
  clear K0
  generalize w'.alloc (.cells #[.slice none 0 0] 22) = W0 at *
  obtain ⟨B, hB⟩ : ∃ B, B = w'.heap.size := ⟨_, rfl⟩
  have HBW := Lib.hid hB
  rw [← hB] at HN1 HNE ⊢
  clear hB
  have hb2 := below_alloc (Below.refl _ W0) (.cells #[.func (.func 35) #[] #[.pointer (some ⟨B, 0, none⟩)]] 85)
  have HQ := Lib.hid (World.alloc_heap_new W0 (.cells #[.func (.func 35) #[] #[.pointer (some ⟨B, 0, none⟩)]] 85))
  have HBE := Lib.hid (below_next HE1.out hb2)
  have HB := Lib.hid (HB1.out.below hb2)
  have HY := Lib.hid (show LayB B [] _ from ⟨none, 0, 0, (hb2.block _ (Array.getElem?_eq_some_iff.1 HN1.out).1).trans HN1.out, OwnTxt.nil⟩)
  have HQB := Lib.hid (show W0.heap.size ≠ B from by have := (Array.getElem?_eq_some_iff.1 HN1.out).1; omega)
  clear hb2 HB1 HE1 HN1
  go_upto_region 5 with fail
  generalize W0.alloc (.cells #[.func (.func 35) #[] #[.pointer (some ⟨B, 0, none⟩)]] 85) = W1 at *
  generalize W0.heap.size = Q at *
  refine wp_region_held (S := fun X => X.cell? ⟨Q, 0, none⟩ = some (.func (.func 35) #[] #[.pointer (some ⟨B, 0, none⟩)]) ∧ X.cell? ⟨b, 0, none⟩ = some (.int .i64 h)) hmx ?_
  change wpAnyH _ _ _ _ _ 6 _ _ W1.drew
  have HD := Lib.hid (show Below W1.heap.size W1 W1.drew from (Below.refl _ _).drew)
  generalize W1.drew = wd at *
  have HB2 := Lib.hid (HB.out.below HD.out)
  have HQ2 := Lib.hid ((HD.out.block Q (Array.getElem?_eq_some_iff.1 HQ.out).1).trans HQ.out)
  have HE2 := Lib.hid (below_next HBE.out HD.out)
  obtain ⟨sa, sn, sc, hv, ho⟩ := HY.out.ex
  have HY2 := Lib.hid (show LayB B [] wd from ⟨sa, sn, sc, (HD.out.block B (Array.getElem?_eq_some_iff.1 hv).1).trans hv, ho.below HD.out⟩)
  clear hv ho HY HB HQ HBE HD
  have hS : wd.cell? ⟨Q, 0, none⟩ = some (.func (.func 35) #[] #[.pointer (some ⟨B, 0, none⟩)]) ∧ wd.cell? ⟨b, 0, none⟩ = some (.int .i64 h) := ⟨cell_of_block (o := 0) HQ2.out rfl, cell_of_block (o := 0) HB2.out.blk rfl⟩
  (refine wpAnyH_take (i := 0) (v := .func (.func 35) #[] #[.pointer (some ⟨B, 0, none⟩)]) rfl (by decide +kernel) (by decide +kernel) (by decide +kernel) (fun _ _ _ h => h) (.inl ⟨by first | rfl | (go_simp; done), fun X hX => by obtain ⟨hx0, hx1⟩ := hX; first | (go_simp; done) | (go_simp; rfl)⟩) hS ?_)
  (refine wpAnyH_take (i := 1) (v := .pointer (some ⟨b, 0, none⟩)) rfl (by decide +kernel) (by decide +kernel) (by decide +kernel) (fun _ _ _ h => h) (.inl ⟨by first | rfl | (go_simp; done), fun X hX => by obtain ⟨hx0, hx1⟩ := hX; first | (go_simp; done) | (go_simp; rfl)⟩) hS ?_)
  (refine wpAnyH_take (i := 2) (v := .pointer (some ⟨b, 0, none⟩)) rfl (by decide +kernel) (by decide +kernel) (by decide +kernel) (fun _ _ _ h => h) (.inl ⟨by first | rfl | (go_simp; done), fun X hX => by obtain ⟨hx0, hx1⟩ := hX; first | (go_simp; done) | (go_simp; rfl)⟩) hS ?_)
  (refine wpAnyH_take (i := 3) (v := .pointer (some ⟨b, 0, none⟩)) rfl (by decide +kernel) (by decide +kernel) (by decide +kernel) (fun _ _ _ h => h) (.inl ⟨by first | rfl | (go_simp; done), fun X hX => by obtain ⟨hx0, hx1⟩ := hX; first | (go_simp; done) | (go_simp; rfl)⟩) hS ?_)
  (refine wpAnyH_take (i := 4) (v := .int .i64 h) rfl (by decide +kernel) (by decide +kernel) (by decide +kernel) (fun _ _ _ h => h) (.inl ⟨by first | rfl | (go_simp; done), fun X hX => by obtain ⟨hx0, hx1⟩ := hX; first | (go_simp; done) | (go_simp; rfl)⟩) hS ?_)
  refine anyH_call (i := 5) (by decide +kernel) rfl (by first | rfl | (go_simp; done)) (by go_simp) (layn_any HY2.out (by decide) HHI.out) ?_
  rintro e w2 ⟨rfl, h3, f3⟩
  have HY3 := Lib.hid h3
  have HB3 := Lib.hid (f3.bk HB2.out HNE.out.1 HNE.out.2)
  have HQ3 := Lib.hid (f3.stays HQ2.out HQB.out)
  have HE3 := Lib.hid (show Below B w' w2 from by rw [← HBW.out] at HE2; exact HE2.out.trans (f3.below (B := B) (by have := HE2.out.size; have := HBW.out; omega) (fun j hj => by omega)))
  have hS3 : w2.cell? ⟨Q, 0, none⟩ = some (.func (.func 35) #[] #[.pointer (some ⟨B, 0, none⟩)]) ∧ w2.cell? ⟨b, 0, none⟩ = some (.int .i64 h) := ⟨cell_of_block (o := 0) HQ3.out rfl, cell_of_block (o := 0) HB3.out.blk rfl⟩
  refine ⟨_, rfl, hS3, ?_⟩
  clear hS hS3 h3 f3 HY2 HB2 HQ2 HE2
  refine wpAnyH_done (by decide +kernel) ?_ _
  go_simp
  go_upto_region 6 with fail
  rw [List.nil_append] at HY3
  refine wp_region_held (S := fun X => X.cell? ⟨Q, 0, none⟩ = some (.func (.func 35) #[] #[.pointer (some ⟨B, 0, none⟩)]) ∧ X.cell? ⟨b, 1, none⟩ = some (.map (some m)) ∧ BkAt X b m h L) hmx ?_
  change wpAnyH _ _ _ _ _ 7 _ _ w2.drew
  have HD3 := Lib.hid (show Below w2.heap.size w2 w2.drew from (Below.refl _ _).drew)
  generalize w2.drew = we at *
  have HB4 := Lib.hid (HB3.out.below HD3.out)
  have HQ4 := Lib.hid ((HD3.out.block Q (Array.getElem?_eq_some_iff.1 HQ3.out).1).trans HQ3.out)
  have HE4 := Lib.hid (show Below B w' we from HE3.out.trans (HD3.out.mono (by have := HE3.out.size; have := HBW.out; omega)))
  obtain ⟨sa, sn, sc, hv, ho⟩ := HY3.out.ex
  have HY4 := Lib.hid (show LayB B (putI h) we from ⟨sa, sn, sc, (HD3.out.block B (Array.getElem?_eq_some_iff.1 hv).1).trans hv, ho.below HD3.out⟩)
  clear hv ho HY3 HB3 HQ3 HE3 HD3
  have hS : we.cell? ⟨Q, 0, none⟩ = some (.func (.func 35) #[] #[.pointer (some ⟨B, 0, none⟩)]) ∧ we.cell? ⟨b, 1, none⟩ = some (.map (some m)) ∧ BkAt we b m h L := ⟨cell_of_block (o := 0) HQ4.out rfl, cell_of_block (o := 1) HB4.out.blk rfl, HB4.out⟩
  (refine wpAnyH_take (i := 0) (v := .func (.func 35) #[] #[.pointer (some ⟨B, 0, none⟩)]) rfl (by decide +kernel) (by decide +kernel) (by decide +kernel) (fun _ _ _ h => h) (.inl ⟨by first | rfl | (go_simp; done), fun X hX => by obtain ⟨hx0, hx1, hx2⟩ := hX; first | (go_simp; done) | (go_simp; rfl)⟩) hS ?_)
  (refine wpAnyH_take (i := 1) (v := .pointer (some ⟨b, 0, none⟩)) rfl (by decide +kernel) (by decide +kernel) (by decide +kernel) (fun _ _ _ h => h) (.inl ⟨by first | rfl | (go_simp; done), fun X hX => by obtain ⟨hx0, hx1, hx2⟩ := hX; first | (go_simp; done) | (go_simp; rfl)⟩) hS ?_)
  (refine wpAnyH_take (i := 2) (v := .pointer (some ⟨b, 0, none⟩)) rfl (by decide +kernel) (by decide +kernel) (by decide +kernel) (fun _ _ _ h => h) (.inl ⟨by first | rfl | (go_simp; done), fun X hX => by obtain ⟨hx0, hx1, hx2⟩ := hX; first | (go_simp; done) | (go_simp; rfl)⟩) hS ?_)
  (refine wpAnyH_take (i := 3) (v := .pointer (some ⟨b, 1, none⟩)) rfl (by decide +kernel) (by decide +kernel) (by decide +kernel) (fun _ _ _ h => h) (.inl ⟨by first | rfl | (go_simp; done), fun X hX => by obtain ⟨hx0, hx1, hx2⟩ := hX; first | (go_simp; done) | (go_simp; rfl)⟩) hS ?_)
  (refine wpAnyH_take (i := 4) (v := .map (some m)) rfl (by decide +kernel) (by decide +kernel) (by decide +kernel) (fun _ _ _ h => h) (.inl ⟨by first | rfl | (go_simp; done), fun X hX => by obtain ⟨hx0, hx1, hx2⟩ := hX; first | (go_simp; done) | (go_simp; rfl)⟩) hS ?_)
  refine wpAnyH_take (i := 5) (v := .int .i64 (L.length : Int)) rfl (by decide +kernel) (by decide +kernel) (by decide +kernel) (fun _ _ _ h => h) (.inl ⟨by first | rfl | (go_simp; done), fun X hX => by
    obtain ⟨hx0, hx1, hx2⟩ := hX
    have hlen := hx2.own.len Tryz.underlying48
    rw [show Maps.size (bD L) = L.length from by unfold bD Maps.size; simp] at hlen
    clear hx0 hx1 hx2
    first | (go_simp; done) | (go_simp; rfl)⟩) hS ?_
  refine anyH_call (i := 6) (by decide +kernel) rfl (by first | rfl | (go_simp; done)) (by go_simp) (layn_any HY4.out (by have := putI_le HHI.out; omega) (show i64B (L.length : Int) from by have := HLN.out; unfold i64B; omega)) ?_
  rintro e w5 ⟨rfl, h5, f5⟩
  have HY5 := Lib.hid h5
  have HB5 := Lib.hid (f5.bk HB4.out HNE.out.1 HNE.out.2)
  have HQ5 := Lib.hid (f5.stays HQ4.out HQB.out)
  have HE5 := Lib.hid (show Below B w' w5 from HE4.out.trans (f5.below (B := B) (by have := HE4.out.size; have := HBW.out; omega) (fun j hj => by omega)))
  have hS5 : w5.cell? ⟨Q, 0, none⟩ = some (.func (.func 35) #[] #[.pointer (some ⟨B, 0, none⟩)]) ∧ w5.cell? ⟨b, 1, none⟩ = some (.map (some m)) ∧ BkAt w5 b m h L := ⟨cell_of_block (o := 0) HQ5.out rfl, cell_of_block (o := 1) HB5.out.blk rfl, HB5.out⟩
  refine ⟨_, rfl, hS5, ?_⟩
  clear hS hS5 h5 f5 HY4 HB4 HQ4 HE4
  refine wpAnyH_done (by decide +kernel) ?_ _
  go_simp
  obtain ⟨pre, hpre⟩ : ∃ pre, pre = putI h ++ putI (L.length : Int) := ⟨_, rfl⟩
  have HPRE := Lib.hid (show bytesB h L = pre ++ putsB L.flatten from by rw [hpre]; rfl)
  have HPL := Lib.hid (show pre.length ≤ 20 from by rw [hpre, List.length_append]; have := putI_le HHI.out; have := putI_le (show i64B (L.length : Int) from by have := HLN.out; unfold i64B; omega); omega)
  rw [← hpre] at HY5
  clear hpre
  have KE := Lib.hid (each_bk HB5.out 37 #[.pointer (some ⟨Q, 0, none⟩)]
    (fun k W => BkAt W b m h L ∧ LayB B (pre ++ putsB (L.take k).flatten) W ∧ W.heap[Q]? = some (.cells #[.func (.func 35) #[] #[.pointer (some ⟨B, 0, none⟩)]] 85 (0, 0)) ∧ Below B w' W)
    (enters_of Tryz.func37 (by kernel_rfl) rfl)
    (fun W hW => by
      obtain ⟨sa, sn, sc, hv, ho⟩ := HY5.out.ex
      refine ⟨HB5.out.below hW, ⟨sa, sn, sc, (hW.block B (Array.getElem?_eq_some_iff.1 hv).1).trans hv, ?_⟩, (hW.block Q (Array.getElem?_eq_some_iff.1 HQ5.out).1).trans HQ5.out, HE5.out.trans (hW.mono (by have := HE5.out.size; have := HBW.out; omega))⟩
      have := ho.below hW
      simpa [putsB] using this)
    (fun k W hi => hi.1)
    (fun k W hk hi => by
      obtain ⟨iB, iY, iQ, iE⟩ := hi
      have hg := iB.good
      have hl9 := (hg.all _ (hg.at hk)).1
      have hxs : ∀ x ∈ (L.take k).flatten, i64B x := fun x hx => by
        obtain ⟨l, hl, hxl⟩ := List.mem_flatten.1 hx
        exact HX.out l (List.mem_of_mem_take hl) x hxl
      have hfl := flat9 (L := L.take k) (fun l hl => (hg.all l (List.mem_of_mem_take hl)).1)
      have hpl := putsB_len _ hxs
      have hlen : (pre ++ putsB (L.take k).flatten).length ≤ 50000 := by
        rw [List.length_append]
        rw [List.length_take] at hfl
        have := HPL.out
        have := HLN.out
        omega
      refine (layl_any iY iQ HQB.out hlen hl9 (fun x hx => HX.out _ (hg.at hk) x hx)).mono ?_
      rintro e w6 ⟨rfl, h6, f6⟩
      obtain ⟨sa, sn, sc, hv, _⟩ := iY.ex
      refine ⟨rfl, ⟨f6.bk iB HNE.out.1 HNE.out.2, ?_, f6.stays iQ HQB.out, iE.trans (f6.below (B := B) (by have := iE.size; have := HBW.out; omega) (fun j hj => by omega))⟩, f6.st hv⟩
      rw [take_flat hk, putsB_app, ← List.append_assoc]
      exact h6))
  rw [List.take_length, ← HPRE.out] at KE
  clear HY5 HB5 HQ5 HE5 hE
  go_wp2_with fail
  refine KE.out.mono ?_
  rintro e w6 ⟨rfl, ⟨_, hy, _, he⟩, _⟩
  obtain ⟨sa, sn, sc, hv, ho⟩ := hy.ex
  have b0 := cell_of_block (o := 0) hv rfl
  have HO := Lib.hid (show OwnTxt w6 w'.heap.size (.slice sa sn sc) (bytesB h L) from ho.base (by have := HBW.out; omega))
  have HE := Lib.hid (show Below w'.heap.size w' w6 from by rw [← HBW.out]; exact he)
  clear hv ho hy he KE
  go_wp2_with fail
  go_ret
  exact ⟨_, rfl, HO.out, HE.out⟩
end Go.Proofs.YthflogeaielhlaaGreatDoor
namespace Go.Proofs.YthflogeaielhlaaGreatDoor
set_option linter.unusedVariables false
open Go.ChangeShapes Go.WideShapes Go.ChangeAt Go.RowKit Bk
attribute [local go_sem ↓] Go.wp_at_zero Go.wp_at_succ comesTo_value_eq comesTo_skip_eq comesTo_enter_eq

theorem rdL_put {l : LV} (hl : l.length = 9) (h1 : 1 ≤ usr l ∧ usr l ≤ 16) (hN : Num l) (ys : List Int) : rdL ⟨putsB l ++ ys, 0⟩ mosts = (⟨ys, 0⟩, l) := by
  obtain ⟨a0, a1, a2, a3, a4, a5, a6, a7, a8, rfl⟩ := nine hl
  have c1 := hN.c 1 (by decide) (by decide)
  have c2 := hN.c 2 (by decide) (by decide)
  have c3 := hN.c 3 (by decide) (by decide)
  have c4 := hN.c 4 (by decide) (by decide)
  have c5 := hN.c 5 (by decide) (by decide)
  have c6 := hN.t
  have c7 := hN.s
  have c8 := hN.n
  simp only [List.getD_cons_succ, List.getD_cons_zero] at c1 c2 c3 c4 c5 c6 c7 c8
  have h1' : 1 ≤ a0 ∧ a0 ≤ 16 := h1
  have e : putsB [a0, a1, a2, a3, a4, a5, a6, a7, a8] ++ ys = putI a0 ++ (putI a1 ++ (putI a2 ++ (putI a3 ++ (putI a4 ++ (putI a5 ++ (putI a6 ++ (putI a7 ++ (putI a8 ++ ys)))))))) := by simp [putsB]
  rw [e]
  simp only [mosts, rdL]
  rw [smallF_put (by omega) (by omega) (by omega)]
  dsimp only
  rw [smallF_put (by omega) (by omega) (by omega)]
  dsimp only
  rw [smallF_put (by omega) (by omega) (by omega)]
  dsimp only
  rw [smallF_put (by omega) (by omega) (by omega)]
  dsimp only
  rw [smallF_put (by omega) (by omega) (by omega)]
  dsimp only
  rw [smallF_put (by omega) (by omega) (by omega)]
  dsimp only
  rw [smallF_put (by omega) (by omega) (by omega)]
  dsimp only
  rw [smallF_put (by omega) (by omega) (by omega)]
  dsimp only
  rw [smallF_put (by omega) (by omega) (by omega)]
theorem rdB_put : ∀ (R A : List LV), BG (A ++ R) → BN R → ∀ ys, rdB R.length ⟨putsB R.flatten ++ ys, 0⟩ A = some (⟨ys, 0⟩, A ++ R)
  | [], A, _, _, ys => by simp [rdB, putsB]
  | l :: R, A, hg, hn, ys => by
    have hl := hg.all l (List.mem_append_right _ List.mem_cons_self)
    have ih := rdB_put R (A ++ [l]) (by simpa using hg) (fun x hx => hn x (List.mem_cons_of_mem _ hx)) ys
    have e : putsB (l :: R).flatten ++ ys = putsB l ++ (putsB R.flatten ++ ys) := by rw [List.flatten_cons, putsB_app, List.append_assoc]
    have hr := rdL_put hl.1 hl.2 (hn l List.mem_cons_self) (putsB R.flatten ++ ys)
    have hlast : lastB A < usr l := by
      have hgA : BG A := ⟨(List.pairwise_append.1 hg.up).1, fun x hx => hg.all x (List.mem_append_left _ hx)⟩
      cases hA : A.getLast? with
      | none => unfold lastB; rw [hA]; simp; omega
      | some z =>
        have hz := List.mem_of_getLast? hA
        have := (List.pairwise_append.1 hg.up).2.2 z hz l List.mem_cons_self
        unfold lastB; rw [hA]; simpa using this
    rw [List.length_cons, e]
    unfold rdB
    rw [hr]
    dsimp only
    rw [if_neg (by omega), ih]
    simp
theorem okB_tail {h : Int} {L : List LV} (hh : 1 ≤ h ∧ h ≤ 1099511627776) (hg : BG L) (hn : BN L) (ys : List Int) : okB (bytesB h L ++ ys) = if endF ⟨ys, 0⟩ = 0 then some (h, L) else none := by
  have hlen := hg.len
  have e : bytesB h L ++ ys = putI h ++ (putI (L.length : Int) ++ (putsB L.flatten ++ ys)) := by simp [bytesB]
  unfold okB
  rw [e, intF_put (by omega)]
  dsimp only
  rw [if_pos hh, smallF_put (by omega) (by omega) (by omega)]
  dsimp only
  rw [Int.toNat_natCast]
  have := rdB_put L [] (by simpa using hg) hn ys
  rw [this]
  simp
theorem okB_put {h : Int} {L : List LV} (hh : 1 ≤ h ∧ h ≤ 1099511627776) (hg : BG L) (hn : BN L) : okB (bytesB h L) = some (h, L) := by
  have := okB_tail hh hg hn []
  rw [List.append_nil] at this
  rw [this]
  rfl
theorem okB_more {h : Int} {L : List LV} (hh : 1 ≤ h ∧ h ≤ 1099511627776) (hg : BG L) (hn : BN L) : okB (bytesB h L ++ [0]) = none := by
  rw [okB_tail hh hg hn]
  rfl
theorem Num.i64 {l : LV} (hl : l.length = 9) (hu : 1 ≤ usr l ∧ usr l ≤ 16) (hN : Num l) : ∀ x ∈ l, i64B x := by
  obtain ⟨a0, a1, a2, a3, a4, a5, a6, a7, a8, rfl⟩ := nine hl
  have c1 := hN.c 1 (by decide) (by decide)
  have c2 := hN.c 2 (by decide) (by decide)
  have c3 := hN.c 3 (by decide) (by decide)
  have c4 := hN.c 4 (by decide) (by decide)
  have c5 := hN.c 5 (by decide) (by decide)
  have c6 := hN.t
  have c7 := hN.s
  have c8 := hN.n
  simp only [List.getD_cons_succ, List.getD_cons_zero] at c1 c2 c3 c4 c5 c6 c7 c8
  have h1' : 1 ≤ a0 ∧ a0 ≤ 16 := hu
  intro x hx
  unfold i64B
  simp only [List.mem_cons, List.not_mem_nil, or_false] at hx
  omega
theorem bytesB_len {h : Int} {L : List LV} (hh : i64B h) (hg : BG L) (hn : BN L) : (bytesB h L).length ≤ 2000 := by
  have h1 := putI_le hh
  have h2 := putI_le (show i64B (L.length : Int) from by have := hg.len; unfold i64B; omega)
  have h3 := putsB_len L.flatten (fun x hx => by
    obtain ⟨l, hl, hxl⟩ := List.mem_flatten.1 hx
    have := hg.all l hl
    exact Num.i64 this.1 this.2 (hn l hl) x hxl)
  have h4 := flat9 (L := L) (fun l hl => (hg.all l hl).1)
  have h5 := hg.len
  unfold bytesB
  rw [List.length_append, List.length_append]
  omega
end Go.Proofs.YthflogeaielhlaaGreatDoor
namespace Go.Proofs.YthflogeaielhlaaGreatDoor
set_option linter.unusedVariables false
open Go.ChangeShapes Go.WideShapes Go.ChangeAt Go.RowKit Bk

/-- the k-th number of a line, as the document reads it -/
def rdf (k : Nat) (s : CS) : CS × Int := if k = 0 then smallF s 16 else if k < 6 then smallF s 1073741824 else intF s
/-- the first k numbers of a line -/
def dK (st : CS) : Nat → CS × List Int
  | 0 => (st, [])
  | k + 1 => ((rdf k (dK st k).1).1, (dK st k).2 ++ [(rdf k (dK st k).1).2])
theorem dK_len (st : CS) : ∀ k, (dK st k).2.length = k
  | 0 => rfl
  | k + 1 => by simp [dK, dK_len st k]
/-- a line may be so, behind another one -/
def okW (la : Int) (x : LV) : Bool := decide (la < usr x) && decide (0 ≤ x.getD 6 0 ∧ x.getD 6 0 ≤ 1125899906842624) && decide (0 ≤ x.getD 7 0 ∧ x.getD 7 0 ≤ 1125899906842624) && decide (0 ≤ x.getD 8 0 ∧ x.getD 8 0 ≤ 1099511627776)
def dB : Nat → CS → List LV → Option (CS × List LV)
  | 0, st, L => some (st, L)
  | n + 1, st, L => if okW (lastB L) (dK st 9).2 then dB n (dK st 9).1 (L ++ [(dK st 9).2]) else none
def finB (o : Option (CS × List LV)) : Option (List LV) := match o with
  | none => none
  | some (st, L) => if endF st = 0 then some L else none
def okD (xs : List Int) : Option (Int × List LV) :=
  if 1 ≤ (intF ⟨xs, 0⟩).2 ∧ (intF ⟨xs, 0⟩).2 ≤ 1099511627776 then
    (finB (dB (smallF (intF ⟨xs, 0⟩).1 16).2.toNat (smallF (intF ⟨xs, 0⟩).1 16).1 [])).map fun L => ((intF ⟨xs, 0⟩).2, L)
  else none
theorem smallB_in {st : CS} {m : Int} (h1 : 0 ≤ (intF st).2) (h2 : (intF st).2 ≤ m) : smallF st m = intF st := by
  unfold smallF
  rw [if_neg (by omega)]
theorem smallB_out {st : CS} {m : Int} (h : ¬ (0 ≤ (intF st).2 ∧ (intF st).2 ≤ m)) : (smallF st m).1.bad ≠ 0 := by
  unfold smallF
  rw [if_pos (by omega)]
  unfold failF
  split
  · decide
  · assumption
theorem smallB_bad {st : CS} (h : st.bad ≠ 0) {m : Int} (hm : 0 ≤ m) : (smallF st m).1.bad ≠ 0 := by
  rw [Cs.smallF_off h hm]
  exact h
theorem rdL_snoc : ∀ (ms : List Int) (st : CS) (m : Int), rdL st (ms ++ [m]) = ((smallF (rdL st ms).1 m).1, (rdL st ms).2 ++ [(smallF (rdL st ms).1 m).2])
  | [], _, _ => rfl
  | x :: ms, st, m => by
    have ih := rdL_snoc ms (smallF st x).1 m
    show ((rdL (smallF st x).1 (ms ++ [m])).1, (smallF st x).2 :: (rdL (smallF st x).1 (ms ++ [m])).2) = _
    rw [ih]
    rfl
theorem dK_snoc {st : CS} {ms : List Int} {k : Nat} {m : Int} (h : dK st k = rdL st ms) (hf : ∀ s, rdf k s = smallF s m) : dK st (k + 1) = rdL st (ms ++ [m]) := by
  rw [rdL_snoc, ← h, ← hf]
  rfl
theorem dK6 (st : CS) : dK st 6 = rdL st [16, 1073741824, 1073741824, 1073741824, 1073741824, 1073741824] := by
  have h0 : dK st 0 = rdL st [] := rfl
  have h1 := dK_snoc (m := 16) h0 fun s => by unfold rdf; rw [if_pos rfl]
  have h2 := dK_snoc (m := 1073741824) h1 fun s => by unfold rdf; rw [if_neg (by decide), if_pos (by decide)]
  have h3 := dK_snoc (m := 1073741824) h2 fun s => by unfold rdf; rw [if_neg (by decide), if_pos (by decide)]
  have h4 := dK_snoc (m := 1073741824) h3 fun s => by unfold rdf; rw [if_neg (by decide), if_pos (by decide)]
  have h5 := dK_snoc (m := 1073741824) h4 fun s => by unfold rdf; rw [if_neg (by decide), if_pos (by decide)]
  exact dK_snoc (m := 1073741824) h5 fun s => by unfold rdf; rw [if_neg (by decide), if_pos (by decide)]
theorem rdL9 (st : CS) : rdL st mosts = ((smallF (smallF (smallF (dK st 6).1 1125899906842624).1 1125899906842624).1 1099511627776).1,
    (dK st 6).2 ++ [(smallF (dK st 6).1 1125899906842624).2, (smallF (smallF (dK st 6).1 1125899906842624).1 1125899906842624).2, (smallF (smallF (smallF (dK st 6).1 1125899906842624).1 1125899906842624).1 1099511627776).2]) := by
  rw [dK6]
  have e : mosts = (([16, 1073741824, 1073741824, 1073741824, 1073741824, 1073741824] ++ [1125899906842624]) ++ [1125899906842624]) ++ [1099511627776] := by simp [mosts]
  rw [e]
  generalize ([16, 1073741824, 1073741824, 1073741824, 1073741824, 1073741824] : List Int) = l6
  rw [rdL_snoc, rdL_snoc, rdL_snoc]
  dsimp only
  simp only [List.append_assoc, List.cons_append, List.nil_append]
theorem dK_int (st : CS) (k : Nat) (h : 6 ≤ k) : dK st (k + 1) = ((intF (dK st k).1).1, (dK st k).2 ++ [(intF (dK st k).1).2]) := by
  show ((rdf k (dK st k).1).1, (dK st k).2 ++ [(rdf k (dK st k).1).2]) = _
  rw [show rdf k (dK st k).1 = intF (dK st k).1 from by unfold rdf; rw [if_neg (by omega), if_neg (by omega)]]
theorem dK9 (st : CS) : dK st 9 = ((intF (intF (intF (dK st 6).1).1).1).1, (dK st 6).2 ++ [(intF (dK st 6).1).2, (intF (intF (dK st 6).1).1).2, (intF (intF (intF (dK st 6).1).1).1).2]) := by
  rw [dK_int st 8 (by decide), dK_int st 7 (by decide), dK_int st 6 (by decide)]
  dsimp only
  simp
theorem rdL_bad {st : CS} (h : st.bad ≠ 0) : (rdL st mosts).1.bad ≠ 0 := by
  have go : ∀ (ms : List Int) (st : CS), (∀ m ∈ ms, 0 ≤ m) → st.bad ≠ 0 → (rdL st ms).1.bad ≠ 0 := by
    intro ms
    induction ms with
    | nil => intro st _ h; exact h
    | cons m ms ih => intro st hm h; exact ih _ (fun x hx => hm x (List.mem_cons_of_mem _ hx)) (smallB_bad h (hm m List.mem_cons_self))
  exact go mosts st (by decide) h
theorem fin_bad : ∀ (n : Nat) (st : CS) (L : List LV), st.bad ≠ 0 → finB (rdB n st L) = none
  | 0, st, L, h => by
    unfold rdB finB
    dsimp only
    rw [if_neg]
    intro he
    rw [Cs.endF_ok he] at h
    exact h rfl
  | n + 1, st, L, h => by
    unfold rdB
    split
    · rfl
    · exact fin_bad n _ _ (rdL_bad h)
theorem usr_app {l m : List Int} (h : 0 < l.length) : usr (l ++ m) = usr l := by
  unfold usr
  simp only [List.getD_eq_getElem?_getD]
  rw [List.getElem?_append_left h]
theorem get6 {l : List Int} (h : l.length = 6) (a b c : Int) : (l ++ [a, b, c]).getD 6 0 = a ∧ (l ++ [a, b, c]).getD 7 0 = b ∧ (l ++ [a, b, c]).getD 8 0 = c := by
  match l, h with
  | [_, _, _, _, _, _], _ => exact ⟨rfl, rfl, rfl⟩
theorem fin_eq : ∀ (n : Nat) (st : CS) (L : List LV), finB (dB n st L) = finB (rdB n st L)
  | 0, _, _ => rfl
  | n + 1, st, L => by
    have h6 := dK_len st 6
    unfold dB rdB
    rw [rdL9, dK9]
    dsimp only
    obtain ⟨s, hs⟩ : ∃ s, s = (dK st 6).1 := ⟨_, rfl⟩
    obtain ⟨l, hl⟩ : ∃ l, l = (dK st 6).2 := ⟨_, rfl⟩
    rw [← hs, ← hl]
    rw [← hl] at h6
    unfold okW
    rw [usr_app (by omega), usr_app (by omega), (get6 h6 _ _ _).1, (get6 h6 _ _ _).2.1, (get6 h6 _ _ _).2.2]
    by_cases hu : usr l ≤ lastB L
    · rw [if_pos hu, decide_eq_false (show ¬ lastB L < usr l by omega)]
      rfl
    · rw [if_neg hu, decide_eq_true (show lastB L < usr l by omega), Bool.true_and]
      by_cases h1 : 0 ≤ (intF s).2 ∧ (intF s).2 ≤ 1125899906842624
      · rw [smallB_in h1.1 h1.2, decide_eq_true h1, Bool.true_and]
        by_cases h2 : 0 ≤ (intF (intF s).1).2 ∧ (intF (intF s).1).2 ≤ 1125899906842624
        · rw [smallB_in h2.1 h2.2, decide_eq_true h2, Bool.true_and]
          by_cases h3 : 0 ≤ (intF (intF (intF s).1).1).2 ∧ (intF (intF (intF s).1).1).2 ≤ 1099511627776
          · rw [smallB_in h3.1 h3.2, decide_eq_true h3, if_pos rfl]
            exact fin_eq n _ _
          · rw [decide_eq_false h3, if_neg (by decide), fin_bad _ _ _ (smallB_out h3)]
            rfl
        · rw [decide_eq_false h2, Bool.false_and, if_neg (by decide), fin_bad _ _ _ (smallB_bad (smallB_out h2) (by decide))]
          rfl
      · rw [decide_eq_false h1, Bool.false_and, Bool.false_and, if_neg (by decide), fin_bad _ _ _ (smallB_bad (smallB_bad (smallB_out h1) (by decide)) (by decide))]
        rfl
/-- the document's reading is the program's -/
theorem okD_eq (xs : List Int) : okD xs = okB xs := by
  unfold okD okB
  split
  · rw [fin_eq]
    unfold finB
    cases rdB (smallF (intF ⟨xs, 0⟩).1 16).2.toNat (smallF (intF ⟨xs, 0⟩).1 16).1 [] with
    | none => rfl
    | some p =>
      obtain ⟨st, L⟩ := p
      dsimp only
      split <;> rfl
  · rfl
theorem rdf_bd (k : Nat) (s : CS) (hk : k < 6) : 0 ≤ (rdf k s).2 ∧ (rdf k s).2 ≤ 1073741824 := by
  unfold rdf
  by_cases h : k = 0
  · rw [if_pos h]
    have := small_bd s (m := 16) (by decide)
    omega
  · rw [if_neg h, if_pos hk]
    exact small_bd s (by decide)
theorem dK_bd (st : CS) : ∀ k, k ≤ 6 → ∀ x ∈ (dK st k).2, 0 ≤ x ∧ x ≤ 1073741824
  | 0, _, x, h => by cases h
  | k + 1, hk, x, h => by
    rcases List.mem_append.1 h with h | h
    · exact dK_bd st k (by omega) x h
    · rw [List.mem_singleton.1 h]; exact rdf_bd k _ (by omega)
theorem num_of {st : CS} {la : Int} (h : okW la (dK st 9).2 = true) : Num (dK st 9).2 := by
  unfold okW at h
  rw [Bool.and_eq_true, Bool.and_eq_true, Bool.and_eq_true, decide_eq_true_eq, decide_eq_true_eq, decide_eq_true_eq, decide_eq_true_eq] at h
  refine ⟨fun i h1 h5 => ?_, h.1.1.2, h.1.2, h.2⟩
  have hb := dK_bd st 6 (Nat.le_refl _)
  have h6 := dK_len st 6
  rw [dK9]
  dsimp only
  rw [List.getD_eq_getElem?_getD, List.getElem?_append_left (by omega), List.getElem?_eq_getElem (by omega)]
  exact hb _ (List.getElem_mem _)
theorem dB_num : ∀ (n : Nat) (st : CS) (L : List LV) {st' : CS} {L' : List LV}, BN L → dB n st L = some (st', L') → BN L'
  | 0, st, L, st', L', h, e => by
    unfold dB at e
    cases e
    exact h
  | n + 1, st, L, st', L', h, e => by
    unfold dB at e
    split at e
    · rename_i hw
      exact dB_num n _ _ (fun l hl => by
        rcases List.mem_append.1 hl with h1 | h1
        · exact h l h1
        · rw [List.mem_singleton.1 h1]; exact num_of hw) e
    · cases e
theorem okD_num {xs : List Int} {h : Int} {L : List LV} (e : okD xs = some (h, L)) : BN L ∧ 1 ≤ h ∧ h ≤ 1099511627776 := by
  unfold okD at e
  split at e
  · rename_i hh
    unfold finB at e
    cases hd : dB (smallF (intF ⟨xs, 0⟩).1 16).2.toNat (smallF (intF ⟨xs, 0⟩).1 16).1 [] with
    | none => rw [hd] at e; cases e
    | some p =>
      obtain ⟨st, M⟩ := p
      rw [hd] at e
      dsimp only at e
      split at e
      · simp only [Option.map_some, Option.some.injEq, Prod.mk.injEq] at e
        obtain ⟨rfl, rfl⟩ := e
        exact ⟨dB_num _ _ _ BN.nil hd, hh⟩
      · cases e
  · cases e
end Go.Proofs.YthflogeaielhlaaGreatDoor
