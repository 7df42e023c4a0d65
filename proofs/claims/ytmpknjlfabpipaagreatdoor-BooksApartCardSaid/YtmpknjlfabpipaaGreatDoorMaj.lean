/- Laws that belong together: The bytes of books that were made (Put, layer 14). Condition: their numbers fit.; What is read of books' bytes, plainly; books cloned (layer 14). Condition: the numbers are within their bounds.; One act done to books, by the law's closure; books of all and of one user (layer 14). No condition.; The walk of BooksApart (layer 14). Condition: the errors' table. -/
import Derived.Test.YtmpknjlfabpipaaGreatDoorMai
import Derived.Test.YtmpknjlfabpipaaGreatDoorMad
import Derived.Laws.EntriesVeiled
import Derived.Test.YtmpknjlfabpipaaGreatDoorMae
import Derived.Test.YtmpknjlfabpipaaGreatDoorMah
import Derived.Test.YtmpknjlfabpipaaGreatDoorMaf
import Derived.Test.YtmpknjlfabpipaaGreatDoorMab
namespace Go.Proofs.YtmpknjlfabpipaaGreatDoor
set_option linter.unusedVariables false
open Go.ChangeShapes Go.WideShapes Go.ChangeAt Go.RowKit Bk
attribute [local go_sem ↓] Go.wp_at_zero Go.wp_at_succ comesTo_value_eq comesTo_skip_eq comesTo_enter_eq

/-- the bytes of books -/
def bytesB (h : Int) (L : List LV) : List Int := putI h ++ putI (L.length : Int) ++ putsB L.flatten
theorem FrB.st {B : Nat} {w w' : World} (h : FrB B w w') {cq : Array Value} (hq : w.heap[B]? = some (.cells cq 22 (0, 0))) : StB w w' := ⟨h.size, fun j cs mk hj => h.block j (Array.getElem?_eq_some_iff.1 hj).1 (by rintro rfl; rw [hj] at hq; injection hq with hq; injection hq with _ hq _; exact absurd hq (by decide))⟩
theorem FrB.bk {B : Nat} {w w' : World} (h : FrB B w w') {b m : Nat} {hf : Int} {L : List LV} (H : BkAt w b m hf L) (h1 : b ≠ B) (h2 : m ≠ B) : BkAt w' b m hf L := H.keep (h.block b H.lt.1 h1) (h.block m H.lt.2 h2)
theorem flat9 {L : List LV} (h : ∀ l ∈ L, l.length = 9) : L.flatten.length = 9 * L.length := by
  induction L with
  | nil => rfl
  | cons l L ih =>
    have h1 := ih fun x hx => h x (List.mem_cons_of_mem _ hx)
    have h2 := h l List.mem_cons_self
    simp only [List.flatten_cons, List.length_append, List.length_cons]
    omega
theorem take_flat {L : List LV} {k : Nat} (hk : k < L.length) : (L.take (k + 1)).flatten = (L.take k).flatten ++ L.getD k zL := by
  rw [List.take_succ_eq_append_getElem hk, List.flatten_append, show L[k] = L.getD k zL by rw [List.getD_eq_getElem?_getD, List.getElem?_eq_getElem hk]; rfl]
  simp
set_option maxRecDepth 100000 in
set_option maxHeartbeats 4000000 in
theorem put_bk {w : World} {b m : Nat} {h : Int} {L : List LV} (H : BkAt w b m h L) (hh : i64B h) (hx : ∀ l ∈ L, ∀ x ∈ l, i64B x) :
    Calls Tryz.prog 16 #[.pointer (some ⟨b, 0, none⟩)] w fun e w' => ∃ u, e = .returned u ∧ OwnTxt w' w.heap.size u (bytesB h L) ∧ Below w.heap.size w w' := by
  have hmx : Tryz.prog.follows .mixedOrders = true := by kernel_rfl
  have hE := enters_of (P := Tryz.prog) Tryz.func37 (by kernel_rfl) rfl
  unfold Go.Proofs.Enters at hE
  have HX := Lib.hid hx
  have HHI := Lib.hid hh
  have HLN := Lib.hid H.good.len
  have K0 := Lib.hid (there_bk H)
  have hb1 := below_alloc (Below.refl _ w) (.cells #[.slice none 0 0] 22)
  have HN1 := Lib.hid (World.alloc_heap_new w (.cells #[.slice none 0 0] 22))
  have HB1 := Lib.hid (H.below hb1)
  have HE1 := Lib.hid hb1
  have HNE := Lib.hid (show b ≠ w.heap.size ∧ m ≠ w.heap.size from by have := H.lt; omega)
  clear H hx hh hb1
  go_enter Tryz.func16, Tryz.ntmps16
  go_wp2_with fail
  refine K0.out.mono ?_
  rintro e w' ⟨rfl, hw⟩
  obtain rfl := hw
  go_upto_region 4 with fail
  clear K0
  generalize w'.alloc (.cells #[.slice none 0 0] 22) = W0 at *
  obtain ⟨B, hB⟩ : ∃ B, B = w'.heap.size := ⟨_, rfl⟩
  have HBW := Lib.hid hB
  rw [← hB] at HN1 HNE ⊢
  clear hB
  have hb2 := below_alloc (Below.refl _ W0) (.cells #[.func (.func 37) #[] #[.pointer (some ⟨B, 0, none⟩)]] 88)
  have HQ := Lib.hid (World.alloc_heap_new W0 (.cells #[.func (.func 37) #[] #[.pointer (some ⟨B, 0, none⟩)]] 88))
  have HBE := Lib.hid (below_next HE1.out hb2)
  have HB := Lib.hid (HB1.out.below hb2)
  have HY := Lib.hid (show LayB B [] _ from ⟨none, 0, 0, (hb2.block _ (Array.getElem?_eq_some_iff.1 HN1.out).1).trans HN1.out, OwnTxt.nil⟩)
  have HQB := Lib.hid (show W0.heap.size ≠ B from by have := (Array.getElem?_eq_some_iff.1 HN1.out).1; omega)
  clear hb2 HB1 HE1 HN1
  go_upto_region 5 with fail
  generalize W0.alloc (.cells #[.func (.func 37) #[] #[.pointer (some ⟨B, 0, none⟩)]] 88) = W1 at *
  generalize W0.heap.size = Q at *
  refine wp_region_held (S := fun X => X.cell? ⟨Q, 0, none⟩ = some (.func (.func 37) #[] #[.pointer (some ⟨B, 0, none⟩)]) ∧ X.cell? ⟨b, 0, none⟩ = some (.int .i64 h)) hmx ?_
  change wpAnyH _ _ _ _ _ 6 _ _ W1.drew
  have HD := Lib.hid (show Below W1.heap.size W1 W1.drew from (Below.refl _ _).drew)
  generalize W1.drew = wd at *
  have HB2 := Lib.hid (HB.out.below HD.out)
  have HQ2 := Lib.hid ((HD.out.block Q (Array.getElem?_eq_some_iff.1 HQ.out).1).trans HQ.out)
  have HE2 := Lib.hid (below_next HBE.out HD.out)
  obtain ⟨sa, sn, sc, hv, ho⟩ := HY.out.ex
  have HY2 := Lib.hid (show LayB B [] wd from ⟨sa, sn, sc, (HD.out.block B (Array.getElem?_eq_some_iff.1 hv).1).trans hv, ho.below HD.out⟩)
  clear hv ho HY HB HQ HBE HD
  have hS : wd.cell? ⟨Q, 0, none⟩ = some (.func (.func 37) #[] #[.pointer (some ⟨B, 0, none⟩)]) ∧ wd.cell? ⟨b, 0, none⟩ = some (.int .i64 h) := ⟨cell_of_block (o := 0) HQ2.out rfl, cell_of_block (o := 0) HB2.out.blk rfl⟩
  (refine wpAnyH_take (i := 0) (v := .func (.func 37) #[] #[.pointer (some ⟨B, 0, none⟩)]) rfl (by decide +kernel) (by decide +kernel) (by decide +kernel) (fun _ _ _ h => h) (.inl ⟨by first | rfl | (go_simp; done), fun X hX => by obtain ⟨hx0, hx1⟩ := hX; first | (go_simp; done) | (go_simp; rfl)⟩) hS ?_)
  (refine wpAnyH_take (i := 1) (v := .pointer (some ⟨b, 0, none⟩)) rfl (by decide +kernel) (by decide +kernel) (by decide +kernel) (fun _ _ _ h => h) (.inl ⟨by first | rfl | (go_simp; done), fun X hX => by obtain ⟨hx0, hx1⟩ := hX; first | (go_simp; done) | (go_simp; rfl)⟩) hS ?_)
  (refine wpAnyH_take (i := 2) (v := .pointer (some ⟨b, 0, none⟩)) rfl (by decide +kernel) (by decide +kernel) (by decide +kernel) (fun _ _ _ h => h) (.inl ⟨by first | rfl | (go_simp; done), fun X hX => by obtain ⟨hx0, hx1⟩ := hX; first | (go_simp; done) | (go_simp; rfl)⟩) hS ?_)
  (refine wpAnyH_take (i := 3) (v := .pointer (some ⟨b, 0, none⟩)) rfl (by decide +kernel) (by decide +kernel) (by decide +kernel) (fun _ _ _ h => h) (.inl ⟨by first | rfl | (go_simp; done), fun X hX => by obtain ⟨hx0, hx1⟩ := hX; first | (go_simp; done) | (go_simp; rfl)⟩) hS ?_)
  (refine wpAnyH_take (i := 4) (v := .int .i64 h) rfl (by decide +kernel) (by decide +kernel) (by decide +kernel) (fun _ _ _ h => h) (.inl ⟨by first | rfl | (go_simp; done), fun X hX => by obtain ⟨hx0, hx1⟩ := hX; first | (go_simp; done) | (go_simp; rfl)⟩) hS ?_)
  refine anyH_call (i := 5) (by decide +kernel) rfl (by first | rfl | (go_simp; done)) (by go_simp) (layn_any HY2.out (by decide) HHI.out) ?_
  rintro e w2 ⟨rfl, h3, f3⟩
  have HY3 := Lib.hid h3
  have HB3 := Lib.hid (f3.bk HB2.out HNE.out.1 HNE.out.2)
  have HQ3 := Lib.hid (f3.stays HQ2.out HQB.out)
  have HE3 := Lib.hid (show Below B w' w2 from by rw [← HBW.out] at HE2; exact HE2.out.trans (f3.below (B := B) (by have := HE2.out.size; have := HBW.out; omega) (fun j hj => by omega)))
  have hS3 : w2.cell? ⟨Q, 0, none⟩ = some (.func (.func 37) #[] #[.pointer (some ⟨B, 0, none⟩)]) ∧ w2.cell? ⟨b, 0, none⟩ = some (.int .i64 h) := ⟨cell_of_block (o := 0) HQ3.out rfl, cell_of_block (o := 0) HB3.out.blk rfl⟩
  refine ⟨_, rfl, hS3, ?_⟩
  clear hS hS3 h3 f3 HY2 HB2 HQ2 HE2
  refine wpAnyH_done (by decide +kernel) ?_ _
  go_simp
  go_upto_region 6 with fail
  rw [List.nil_append] at HY3
  refine wp_region_held (S := fun X => X.cell? ⟨Q, 0, none⟩ = some (.func (.func 37) #[] #[.pointer (some ⟨B, 0, none⟩)]) ∧ X.cell? ⟨b, 1, none⟩ = some (.map (some m)) ∧ BkAt X b m h L) hmx ?_
  change wpAnyH _ _ _ _ _ 7 _ _ w2.drew
  have HD3 := Lib.hid (show Below w2.heap.size w2 w2.drew from (Below.refl _ _).drew)
  generalize w2.drew = we at *
  have HB4 := Lib.hid (HB3.out.below HD3.out)
  have HQ4 := Lib.hid ((HD3.out.block Q (Array.getElem?_eq_some_iff.1 HQ3.out).1).trans HQ3.out)
  have HE4 := Lib.hid (show Below B w' we from HE3.out.trans (HD3.out.mono (by have := HE3.out.size; have := HBW.out; omega)))
  obtain ⟨sa, sn, sc, hv, ho⟩ := HY3.out.ex
  have HY4 := Lib.hid (show LayB B (putI h) we from ⟨sa, sn, sc, (HD3.out.block B (Array.getElem?_eq_some_iff.1 hv).1).trans hv, ho.below HD3.out⟩)
  clear hv ho HY3 HB3 HQ3 HE3 HD3
  have hS : we.cell? ⟨Q, 0, none⟩ = some (.func (.func 37) #[] #[.pointer (some ⟨B, 0, none⟩)]) ∧ we.cell? ⟨b, 1, none⟩ = some (.map (some m)) ∧ BkAt we b m h L := ⟨cell_of_block (o := 0) HQ4.out rfl, cell_of_block (o := 1) HB4.out.blk rfl, HB4.out⟩
  (refine wpAnyH_take (i := 0) (v := .func (.func 37) #[] #[.pointer (some ⟨B, 0, none⟩)]) rfl (by decide +kernel) (by decide +kernel) (by decide +kernel) (fun _ _ _ h => h) (.inl ⟨by first | rfl | (go_simp; done), fun X hX => by obtain ⟨hx0, hx1, hx2⟩ := hX; first | (go_simp; done) | (go_simp; rfl)⟩) hS ?_)
  (refine wpAnyH_take (i := 1) (v := .pointer (some ⟨b, 0, none⟩)) rfl (by decide +kernel) (by decide +kernel) (by decide +kernel) (fun _ _ _ h => h) (.inl ⟨by first | rfl | (go_simp; done), fun X hX => by obtain ⟨hx0, hx1, hx2⟩ := hX; first | (go_simp; done) | (go_simp; rfl)⟩) hS ?_)
  (refine wpAnyH_take (i := 2) (v := .pointer (some ⟨b, 0, none⟩)) rfl (by decide +kernel) (by decide +kernel) (by decide +kernel) (fun _ _ _ h => h) (.inl ⟨by first | rfl | (go_simp; done), fun X hX => by obtain ⟨hx0, hx1, hx2⟩ := hX; first | (go_simp; done) | (go_simp; rfl)⟩) hS ?_)
  (refine wpAnyH_take (i := 3) (v := .pointer (some ⟨b, 1, none⟩)) rfl (by decide +kernel) (by decide +kernel) (by decide +kernel) (fun _ _ _ h => h) (.inl ⟨by first | rfl | (go_simp; done), fun X hX => by obtain ⟨hx0, hx1, hx2⟩ := hX; first | (go_simp; done) | (go_simp; rfl)⟩) hS ?_)
  (refine wpAnyH_take (i := 4) (v := .map (some m)) rfl (by decide +kernel) (by decide +kernel) (by decide +kernel) (fun _ _ _ h => h) (.inl ⟨by first | rfl | (go_simp; done), fun X hX => by obtain ⟨hx0, hx1, hx2⟩ := hX; first | (go_simp; done) | (go_simp; rfl)⟩) hS ?_)
  refine wpAnyH_take (i := 5) (v := .int .i64 (L.length : Int)) rfl (by decide +kernel) (by decide +kernel) (by decide +kernel) (fun _ _ _ h => h) (.inl ⟨by first | rfl | (go_simp; done), fun X hX => by
    obtain ⟨hx0, hx1, hx2⟩ := hX
    have hlen := hx2.own.len Tryz.underlying61
    rw [show Maps.size (bD L) = L.length from by unfold bD Maps.size; simp] at hlen
    clear hx0 hx1 hx2
    first | (go_simp; done) | (go_simp; rfl)⟩) hS ?_
  refine anyH_call (i := 6) (by decide +kernel) rfl (by first | rfl | (go_simp; done)) (by go_simp) (layn_any HY4.out (by have := putI_le HHI.out; omega) (show i64B (L.length : Int) from by have := HLN.out; unfold i64B; omega)) ?_
  rintro e w5 ⟨rfl, h5, f5⟩
  have HY5 := Lib.hid h5
  have HB5 := Lib.hid (f5.bk HB4.out HNE.out.1 HNE.out.2)
  have HQ5 := Lib.hid (f5.stays HQ4.out HQB.out)
  have HE5 := Lib.hid (show Below B w' w5 from HE4.out.trans (f5.below (B := B) (by have := HE4.out.size; have := HBW.out; omega) (fun j hj => by omega)))
  have hS5 : w5.cell? ⟨Q, 0, none⟩ = some (.func (.func 37) #[] #[.pointer (some ⟨B, 0, none⟩)]) ∧ w5.cell? ⟨b, 1, none⟩ = some (.map (some m)) ∧ BkAt w5 b m h L := ⟨cell_of_block (o := 0) HQ5.out rfl, cell_of_block (o := 1) HB5.out.blk rfl, HB5.out⟩
  refine ⟨_, rfl, hS5, ?_⟩
  clear hS hS5 h5 f5 HY4 HB4 HQ4 HE4
  refine wpAnyH_done (by decide +kernel) ?_ _
  go_simp
  obtain ⟨pre, hpre⟩ : ∃ pre, pre = putI h ++ putI (L.length : Int) := ⟨_, rfl⟩
  have HPRE := Lib.hid (show bytesB h L = pre ++ putsB L.flatten from by rw [hpre]; rfl)
  have HPL := Lib.hid (show pre.length ≤ 20 from by rw [hpre, List.length_append]; have := putI_le HHI.out; have := putI_le (show i64B (L.length : Int) from by have := HLN.out; unfold i64B; omega); omega)
  rw [← hpre] at HY5
  clear hpre
  have KE := Lib.hid (each_bk HB5.out 39 #[.pointer (some ⟨Q, 0, none⟩)]
    (fun k W => BkAt W b m h L ∧ LayB B (pre ++ putsB (L.take k).flatten) W ∧ W.heap[Q]? = some (.cells #[.func (.func 37) #[] #[.pointer (some ⟨B, 0, none⟩)]] 88 (0, 0)) ∧ Below B w' W)
    (enters_of Tryz.func39 (by kernel_rfl) rfl)
    (fun W hW => by
      obtain ⟨sa, sn, sc, hv, ho⟩ := HY5.out.ex
      refine ⟨HB5.out.below hW, ⟨sa, sn, sc, (hW.block B (Array.getElem?_eq_some_iff.1 hv).1).trans hv, ?_⟩, (hW.block Q (Array.getElem?_eq_some_iff.1 HQ5.out).1).trans HQ5.out, HE5.out.trans (hW.mono (by have := HE5.out.size; have := HBW.out; omega))⟩
      have := ho.below hW
      simpa [putsB] using this)
    (fun k W hi => hi.1)
    (fun k W hk hi => by
      obtain ⟨iB, iY, iQ, iE⟩ := hi
      have hg := iB.good
      have hl9 := (hg.all _ (hg.at hk)).1
      have hxs : ∀ x ∈ (L.take k).flatten, i64B x := fun x hx => by
        obtain ⟨l, hl, hxl⟩ := List.mem_flatten.1 hx
        exact HX.out l (List.mem_of_mem_take hl) x hxl
      have hfl := flat9 (L := L.take k) (fun l hl => (hg.all l (List.mem_of_mem_take hl)).1)
      have hpl := putsB_len _ hxs
      have hlen : (pre ++ putsB (L.take k).flatten).length ≤ 50000 := by
        rw [List.length_append]
        rw [List.length_take] at hfl
        have := HPL.out
        have := HLN.out
        omega
      refine (layl_any iY iQ HQB.out hlen hl9 (fun x hx => HX.out _ (hg.at hk) x hx)).mono ?_
      rintro e w6 ⟨rfl, h6, f6⟩
      obtain ⟨sa, sn, sc, hv, _⟩ := iY.ex
      refine ⟨rfl, ⟨f6.bk iB HNE.out.1 HNE.out.2, ?_, f6.stays iQ HQB.out, iE.trans (f6.below (B := B) (by have := iE.size; have := HBW.out; omega) (fun j hj => by omega))⟩, f6.st hv⟩
      rw [take_flat hk, putsB_app, ← List.append_assoc]
      exact h6))
  rw [List.take_length, ← HPRE.out] at KE
  clear HY5 HB5 HQ5 HE5 hE
  go_wp2_with fail
  refine KE.out.mono ?_
  rintro e w6 ⟨rfl, ⟨_, hy, _, he⟩, _⟩
  obtain ⟨sa, sn, sc, hv, ho⟩ := hy.ex
  have b0 := cell_of_block (o := 0) hv rfl
  have HO := Lib.hid (show OwnTxt w6 w'.heap.size (.slice sa sn sc) (bytesB h L) from ho.base (by have := HBW.out; omega))
  have HE := Lib.hid (show Below w'.heap.size w' w6 from by rw [← HBW.out]; exact he)
  clear hv ho hy he KE
  go_wp2_with fail
  go_ret
  exact ⟨_, rfl, HO.out, HE.out⟩
end Go.Proofs.YtmpknjlfabpipaaGreatDoor
namespace Go.Proofs.YtmpknjlfabpipaaGreatDoor
set_option linter.unusedVariables false
open Go.ChangeShapes Go.WideShapes Go.ChangeAt Go.RowKit Bk
attribute [local go_sem ↓] Go.wp_at_zero Go.wp_at_succ comesTo_value_eq comesTo_skip_eq comesTo_enter_eq

theorem rdL_put {l : LV} (hl : l.length = 9) (h1 : 1 ≤ usr l ∧ usr l ≤ 16) (hN : Num l) (ys : List Int) : rdL ⟨putsB l ++ ys, 0⟩ mosts = (⟨ys, 0⟩, l) := by
  obtain ⟨a0, a1, a2, a3, a4, a5, a6, a7, a8, rfl⟩ := nine hl
  have c1 := hN.c 1 (by decide) (by decide)
  have c2 := hN.c 2 (by decide) (by decide)
  have c3 := hN.c 3 (by decide) (by decide)
  have c4 := hN.c 4 (by decide) (by decide)
  have c5 := hN.c 5 (by decide) (by decide)
  have c6 := hN.t
  have c7 := hN.s
  have c8 := hN.n
  simp only [List.getD_cons_succ, List.getD_cons_zero] at c1 c2 c3 c4 c5 c6 c7 c8
  have h1' : 1 ≤ a0 ∧ a0 ≤ 16 := h1
  have e : putsB [a0, a1, a2, a3, a4, a5, a6, a7, a8] ++ ys = putI a0 ++ (putI a1 ++ (putI a2 ++ (putI a3 ++ (putI a4 ++ (putI a5 ++ (putI a6 ++ (putI a7 ++ (putI a8 ++ ys)))))))) := by simp [putsB]
  rw [e]
  simp only [mosts, rdL]
  rw [smallF_put (by omega) (by omega) (by omega)]
  dsimp only
  rw [smallF_put (by omega) (by omega) (by omega)]
  dsimp only
  rw [smallF_put (by omega) (by omega) (by omega)]
  dsimp only
  rw [smallF_put (by omega) (by omega) (by omega)]
  dsimp only
  rw [smallF_put (by omega) (by omega) (by omega)]
  dsimp only
  rw [smallF_put (by omega) (by omega) (by omega)]
  dsimp only
  rw [smallF_put (by omega) (by omega) (by omega)]
  dsimp only
  rw [smallF_put (by omega) (by omega) (by omega)]
  dsimp only
  rw [smallF_put (by omega) (by omega) (by omega)]
theorem rdB_put : ∀ (R A : List LV), BG (A ++ R) → BN R → ∀ ys, rdB R.length ⟨putsB R.flatten ++ ys, 0⟩ A = some (⟨ys, 0⟩, A ++ R)
  | [], A, _, _, ys => by simp [rdB, putsB]
  | l :: R, A, hg, hn, ys => by
    have hl := hg.all l (List.mem_append_right _ List.mem_cons_self)
    have ih := rdB_put R (A ++ [l]) (by simpa using hg) (fun x hx => hn x (List.mem_cons_of_mem _ hx)) ys
    have e : putsB (l :: R).flatten ++ ys = putsB l ++ (putsB R.flatten ++ ys) := by rw [List.flatten_cons, putsB_app, List.append_assoc]
    have hr := rdL_put hl.1 hl.2 (hn l List.mem_cons_self) (putsB R.flatten ++ ys)
    have hlast : lastB A < usr l := by
      have hgA : BG A := ⟨(List.pairwise_append.1 hg.up).1, fun x hx => hg.all x (List.mem_append_left _ hx)⟩
      cases hA : A.getLast? with
      | none => unfold lastB; rw [hA]; simp; omega
      | some z =>
        have hz := List.mem_of_getLast? hA
        have := (List.pairwise_append.1 hg.up).2.2 z hz l List.mem_cons_self
        unfold lastB; rw [hA]; simpa using this
    rw [List.length_cons, e]
    unfold rdB
    rw [hr]
    dsimp only
    rw [if_neg (by omega), ih]
    simp
theorem okB_tail {h : Int} {L : List LV} (hh : 1 ≤ h ∧ h ≤ 1099511627776) (hg : BG L) (hn : BN L) (ys : List Int) : okB (bytesB h L ++ ys) = if endF ⟨ys, 0⟩ = 0 then some (h, L) else none := by
  have hlen := hg.len
  have e : bytesB h L ++ ys = putI h ++ (putI (L.length : Int) ++ (putsB L.flatten ++ ys)) := by simp [bytesB]
  unfold okB
  rw [e, intF_put (by omega)]
  dsimp only
  rw [if_pos hh, smallF_put (by omega) (by omega) (by omega)]
  dsimp only
  rw [Int.toNat_natCast]
  have := rdB_put L [] (by simpa using hg) hn ys
  rw [this]
  simp
theorem okB_put {h : Int} {L : List LV} (hh : 1 ≤ h ∧ h ≤ 1099511627776) (hg : BG L) (hn : BN L) : okB (bytesB h L) = some (h, L) := by
  have := okB_tail hh hg hn []
  rw [List.append_nil] at this
  rw [this]
  rfl
theorem okB_more {h : Int} {L : List LV} (hh : 1 ≤ h ∧ h ≤ 1099511627776) (hg : BG L) (hn : BN L) : okB (bytesB h L ++ [0]) = none := by
  rw [okB_tail hh hg hn]
  rfl
theorem Num.i64 {l : LV} (hl : l.length = 9) (hu : 1 ≤ usr l ∧ usr l ≤ 16) (hN : Num l) : ∀ x ∈ l, i64B x := by
  obtain ⟨a0, a1, a2, a3, a4, a5, a6, a7, a8, rfl⟩ := nine hl
  have c1 := hN.c 1 (by decide) (by decide)
  have c2 := hN.c 2 (by decide) (by decide)
  have c3 := hN.c 3 (by decide) (by decide)
  have c4 := hN.c 4 (by decide) (by decide)
  have c5 := hN.c 5 (by decide) (by decide)
  have c6 := hN.t
  have c7 := hN.s
  have c8 := hN.n
  simp only [List.getD_cons_succ, List.getD_cons_zero] at c1 c2 c3 c4 c5 c6 c7 c8
  have h1' : 1 ≤ a0 ∧ a0 ≤ 16 := hu
  intro x hx
  unfold i64B
  simp only [List.mem_cons, List.not_mem_nil, or_false] at hx
  omega
theorem bytesB_len {h : Int} {L : List LV} (hh : i64B h) (hg : BG L) (hn : BN L) : (bytesB h L).length ≤ 2000 := by
  have h1 := putI_le hh
  have h2 := putI_le (show i64B (L.length : Int) from by have := hg.len; unfold i64B; omega)
  have h3 := putsB_len L.flatten (fun x hx => by
    obtain ⟨l, hl, hxl⟩ := List.mem_flatten.1 hx
    have := hg.all l hl
    exact Num.i64 this.1 this.2 (hn l hl) x hxl)
  have h4 := flat9 (L := L) (fun l hl => (hg.all l hl).1)
  have h5 := hg.len
  unfold bytesB
  rw [List.length_append, List.length_append]
  omega
set_option maxRecDepth 100000 in
set_option maxHeartbeats 4000000 in
theorem bclone_bk {w : World} {b m : Nat} {h : Int} {L : List LV} (H : BkAt w b m h L) :
    Calls Tryz.prog 17 #[.pointer (some ⟨b, 0, none⟩)] w fun e w' => ∃ b' m', e = .returned (.pointer (some ⟨b', 0, none⟩)) ∧ BkAt w' b' m' h L ∧ w.heap.size ≤ b' ∧ w.heap.size ≤ m' ∧ Below w.heap.size w w' := by
  have hmx : Tryz.prog.follows .mixedOrders = true := by kernel_rfl
  have K0 := Lib.hid (there_bk H)
  have HH := Lib.hid H
  clear H
  go_enter Tryz.func17, Tryz.ntmps17
  go_wp2_with fail
  refine K0.out.mono ?_
  rintro e w1 ⟨rfl, hw⟩
  obtain rfl := hw
  go_upto_region 3 with fail
  clear K0
  refine wp_region_held (S := fun X => X.cell? ⟨b, 0, none⟩ = some (.int .i64 h) ∧ X.cell? ⟨b, 1, none⟩ = some (.map (some m))) hmx ?_
  change wpAnyH _ _ _ _ _ 12 _ _ w1.drew
  have HD := Lib.hid (show Below w1.heap.size w1 w1.drew from (Below.refl _ _).drew)
  generalize w1.drew = wd at *
  have HB := Lib.hid (HH.out.below HD.out)
  have hS : wd.cell? ⟨b, 0, none⟩ = some (.int .i64 h) ∧ wd.cell? ⟨b, 1, none⟩ = some (.map (some m)) := ⟨cell_of_block (o := 0) HB.out.blk rfl, cell_of_block (o := 1) HB.out.blk rfl⟩
  (refine wpAnyH_take (i := 0) (v := .pointer (some ⟨b, 0, none⟩)) rfl (by decide +kernel) (by decide +kernel) (by decide +kernel) (fun _ _ _ h => h) (.inl ⟨by first | rfl | (go_simp; done), fun X hX => by obtain ⟨hx0, hx1⟩ := hX; first | (go_simp; done) | (go_simp; rfl)⟩) hS ?_)
  (refine wpAnyH_take (i := 1) (v := .pointer (some ⟨b, 0, none⟩)) rfl (by decide +kernel) (by decide +kernel) (by decide +kernel) (fun _ _ _ h => h) (.inl ⟨by first | rfl | (go_simp; done), fun X hX => by obtain ⟨hx0, hx1⟩ := hX; first | (go_simp; done) | (go_simp; rfl)⟩) hS ?_)
  (refine wpAnyH_take (i := 2) (v := .pointer (some ⟨b, 0, none⟩)) rfl (by decide +kernel) (by decide +kernel) (by decide +kernel) (fun _ _ _ h => h) (.inl ⟨by first | rfl | (go_simp; done), fun X hX => by obtain ⟨hx0, hx1⟩ := hX; first | (go_simp; done) | (go_simp; rfl)⟩) hS ?_)
  (refine wpAnyH_take (i := 3) (v := .int .i64 h) rfl (by decide +kernel) (by decide +kernel) (by decide +kernel) (fun _ _ _ h => h) (.inl ⟨by first | rfl | (go_simp; done), fun X hX => by obtain ⟨hx0, hx1⟩ := hX; first | (go_simp; done) | (go_simp; rfl)⟩) hS ?_)
  (refine wpAnyH_take (i := 4) (v := .pointer (some ⟨b, 0, none⟩)) rfl (by decide +kernel) (by decide +kernel) (by decide +kernel) (fun _ _ _ h => h) (.inl ⟨by first | rfl | (go_simp; done), fun X hX => by obtain ⟨hx0, hx1⟩ := hX; first | (go_simp; done) | (go_simp; rfl)⟩) hS ?_)
  (refine wpAnyH_take (i := 5) (v := .pointer (some ⟨b, 0, none⟩)) rfl (by decide +kernel) (by decide +kernel) (by decide +kernel) (fun _ _ _ h => h) (.inl ⟨by first | rfl | (go_simp; done), fun X hX => by obtain ⟨hx0, hx1⟩ := hX; first | (go_simp; done) | (go_simp; rfl)⟩) hS ?_)
  (refine wpAnyH_take (i := 6) (v := .pointer (some ⟨b, 1, none⟩)) rfl (by decide +kernel) (by decide +kernel) (by decide +kernel) (fun _ _ _ h => h) (.inl ⟨by first | rfl | (go_simp; done), fun X hX => by obtain ⟨hx0, hx1⟩ := hX; first | (go_simp; done) | (go_simp; rfl)⟩) hS ?_)
  (refine wpAnyH_take (i := 7) (v := .map (some m)) rfl (by decide +kernel) (by decide +kernel) (by decide +kernel) (fun _ _ _ h => h) (.inl ⟨by first | rfl | (go_simp; done), fun X hX => by obtain ⟨hx0, hx1⟩ := hX; first | (go_simp; done) | (go_simp; rfl)⟩) hS ?_)
  have KC := AnyW.maps_Clone_owns Tryz.cloneB 3 RL m L.length (bD L) wd HB.out.own
  change Calls Tryz.prog 40 _ _ _ at KC
  refine anyH_call (i := 8) (by decide +kernel) rfl (by first | rfl | (go_simp; done)) (by go_simp) (KC) ?_
  rintro e w2 ⟨rfl, ho, _, hb⟩
  have HB2 := Lib.hid (HB.out.below hb)
  have HO2 := Lib.hid ho
  have HE2 := Lib.hid (below_next HD.out hb)
  have HM := Lib.hid (show w1.heap.size ≤ wd.heap.size from HD.out.size)
  have HLT := Lib.hid (show wd.heap.size < w2.heap.size from ho.lt)
  have hS2 : w2.cell? ⟨b, 0, none⟩ = some (.int .i64 h) ∧ w2.cell? ⟨b, 1, none⟩ = some (.map (some m)) := ⟨cell_of_block (o := 0) HB2.out.blk rfl, cell_of_block (o := 1) HB2.out.blk rfl⟩
  refine ⟨_, rfl, hS2, ?_⟩
  clear hS ho hb KC HD HB
  generalize wd.heap.size = mm at *
  (refine wpAnyH_take (i := 9) (v := .agg #[.int .i64 h, .map (some mm)]) rfl (by decide +kernel) (by decide +kernel) (by decide +kernel) (fun _ _ _ h => h) (.inl ⟨by first | rfl | (go_simp; done), fun X hX => by obtain ⟨hx0, hx1⟩ := hX; first | (go_simp; done) | (go_simp; rfl)⟩) hS2 ?_)
  refine anyH_one (i := 10) (by decide +kernel) ?_
  refine opH_val (i := 10) (v := .pointer (some ⟨w2.heap.size, 0, none⟩)) (w' := w2.alloc (.cells #[.int .i64 h, .map (some mm)] 63)) rfl (by first | rfl | (go_simp; done)) (by first | (go_simp; done) | (go_simp; rfl)) ?_
  have hA3 := below_alloc (Below.refl _ w2) (.cells #[.int .i64 h, .map (some mm)] 63)
  have HN3 := Lib.hid (World.alloc_heap_new w2 (.cells #[.int .i64 h, .map (some mm)] 63))
  have HO3 := Lib.hid (HO2.out.alloc (.cells #[.int .i64 h, .map (some mm)] 63))
  have HB3 := Lib.hid (HB2.out.below hA3)
  have HE3 := Lib.hid (below_next HE2.out hA3)
  have hS3 : (w2.alloc (.cells #[.int .i64 h, .map (some mm)] 63)).cell? ⟨b, 0, none⟩ = some (.int .i64 h) ∧ (w2.alloc (.cells #[.int .i64 h, .map (some mm)] 63)).cell? ⟨b, 1, none⟩ = some (.map (some m)) := ⟨cell_of_block (o := 0) HB3.out.blk rfl, cell_of_block (o := 1) HB3.out.blk rfl⟩
  refine ⟨hS3, ?_⟩
  clear hS2 hA3 HO2 HB2 HE2
  generalize w2.alloc (.cells #[.int .i64 h, .map (some mm)] 63) = w3 at *
  generalize w2.heap.size = bb at *
  (refine wpAnyH_take (i := 11) (v := .pointer (some ⟨bb, 0, none⟩)) rfl (by decide +kernel) (by decide +kernel) (by decide +kernel) (fun _ _ _ h => h) (.inl ⟨by first | rfl | (go_simp; done), fun X hX => by obtain ⟨hx0, hx1⟩ := hX; first | (go_simp; done) | (go_simp; rfl)⟩) hS3 ?_)
  refine wpAnyH_done (by decide +kernel) ?_ _
  clear hS3
  go_simp
  go_wp2_with fail
  go_ret
  exact ⟨bb, mm, rfl, ⟨HN3.out, HO3.out, HB3.out.good⟩, by have := HM.out; have := HLT.out; omega, HM.out, HE3.out⟩
end Go.Proofs.YtmpknjlfabpipaaGreatDoor
namespace Go.Proofs.YtmpknjlfabpipaaGreatDoor
set_option linter.unusedVariables false
open Go.ChangeShapes Go.WideShapes Go.ChangeAt Go.RowKit Bk
attribute [local go_sem ↓] Go.wp_at_zero Go.wp_at_succ comesTo_value_eq comesTo_skip_eq comesTo_enter_eq

/-- what an act makes of lines -/
def actB (h k u t n y : Int) (L : List LV) : List LV :=
  if k = 0 then (if (1 ≤ u ∧ u ≤ 16) ∧ 0 ≤ t ∧ t ≤ 4 then notedB L u t.toNat else L)
  else (if (1 ≤ u ∧ u ≤ 16) ∧ 0 ≤ t ∧ t ≤ 64 then chargedB L h u n t y else L)
theorem actB_bn {h k u t n y : Int} {L : List LV} (hn : BN L) : BN (actB h k u t n y L) := by
  unfold actB
  split
  · split
    · exact hn.put (((hn.line u).set0 u).note (by omega))
    · exact hn
  · split
    · exact hn.put (((hn.line u).set0 u).charge (usedI_bd y t))
    · exact hn
theorem getB_put' {L : List LV} (h : Up L) (x : LV) (U : Int) : getB (putB L x) U = if usr x = U then some x else getB L U := getB_put h
/-- a user's line hangs on his acts alone -/
theorem actB_own {h k u t n y : Int} {La Lb : List LV} (ha : BG La) (hb : BG Lb) (e : getB La u = getB Lb u) : getB (actB h k u t n y La) u = getB (actB h k u t n y Lb) u := by
  have el : lineB La u = lineB Lb u := by unfold lineB; rw [e]
  unfold actB
  split
  · split
    · unfold notedB
      rw [getB_put ha.up, getB_put hb.up, el, if_pos (by rw [usr_note, usr_set0 (hb.line u)]), if_pos (by rw [usr_note, usr_set0 (hb.line u)])]
    · exact e
  · split
    · unfold chargedB
      rw [getB_put ha.up, getB_put hb.up, el, if_pos (by rw [usr_charge, usr_set0 (hb.line u)]), if_pos (by rw [usr_charge, usr_set0 (hb.line u)])]
    · exact e
theorem actB_other {h k u t n y U : Int} {L : List LV} (hg : BG L) (hu : u ≠ U) : getB (actB h k u t n y L) U = getB L U := by
  unfold actB
  split
  · split
    · unfold notedB
      rw [getB_put hg.up, if_neg (by rw [usr_note, usr_set0 (hg.line u)]; exact hu)]
    · rfl
  · split
    · unfold chargedB
      rw [getB_put hg.up, if_neg (by rw [usr_charge, usr_set0 (hg.line u)]; exact hu)]
    · rfl
theorem actB_one {h k u t n y : Int} {L : List LV} (hg : BG L) (ho : ∀ l ∈ L, usr l = u) : ∀ l ∈ actB h k u t n y L, usr l = u := by
  unfold actB
  split
  · split
    · intro l hl
      rcases putB_mem hl with rfl | hl
      · rw [usr_note, usr_set0 (hg.line u)]
      · exact ho l hl
    · exact ho
  · split
    · intro l hl
      rcases putB_mem hl with rfl | hl
      · rw [usr_charge, usr_set0 (hg.line u)]
      · exact ho l hl
    · exact ho
theorem one_len {L : List LV} {u : Int} (hg : BG L) (ho : ∀ l ∈ L, usr l = u) : L.length ≤ 1 := by
  match L, hg, ho with
  | [], _, _ => simp
  | [_], _, _ => simp
  | x :: y :: r, hg, ho =>
    have h1 := (List.pairwise_cons.1 hg.up).1 y List.mem_cons_self
    have h2 := ho x List.mem_cons_self
    have h3 := ho y (List.mem_cons_of_mem _ List.mem_cons_self)
    omega
theorem putB_len (x : LV) : ∀ L : List LV, L.length ≤ (putB L x).length
  | [] => by simp [putB]
  | y :: L => by
    unfold putB
    have := putB_len x L
    split
    · simp
    · split
      · simp
      · simpa using this
set_option maxRecDepth 100000 in
set_option maxHeartbeats 4000000 in
theorem do_bk {w : World} {b m : Nat} {h : Int} {L : List LV} (H : BkAt w b m h L) (hN : BN L) {p : Nat} {k u t n y : Int} (hp : w.heap[p]? = some (.cells #[.int .i64 k, .int .i64 u, .int .i64 t, .int .i64 n, .int .i64 y] 40 (0, 0))) :
    Calls Tryz.prog 11 #[.pointer (some ⟨b, 0, none⟩), .pointer (some ⟨p, 0, none⟩)] w fun e w' => e = .returned (.tuple #[]) ∧ BkAt w' b m h (actB h k u t n y L) ∧ w.grownBy w' (some m) := by
  have y0 : w.cell? ⟨p, 0, none⟩ = some (.int .i64 k) := cell_of_block (o := 0) hp rfl
  have y1 : w.cell? ⟨p, 1, none⟩ = some (.int .i64 u) := cell_of_block (o := 1) hp rfl
  have y2 : w.cell? ⟨p, 2, none⟩ = some (.int .i64 t) := cell_of_block (o := 2) hp rfl
  have y3 : w.cell? ⟨p, 3, none⟩ = some (.int .i64 n) := cell_of_block (o := 3) hp rfl
  have y4 : w.cell? ⟨p, 4, none⟩ = some (.int .i64 y) := cell_of_block (o := 4) hp rfl
  clear hp
  by_cases hk : k = 0
  · by_cases hok : (1 ≤ u ∧ u ≤ 16) ∧ 0 ≤ t ∧ t ≤ 4
    · obtain ⟨c, rfl⟩ : ∃ c : Nat, t = (c : Int) := ⟨t.toNat, by omega⟩
      have HE := Lib.hid (show actB h k u c n y L = notedB L u c from by unfold actB; rw [if_pos hk, if_pos hok, Int.toNat_natCast])
      rw [HE.out]
      have KN := Lib.hid (note_ok H hN hok.1.1 hok.1.2 (k := c) (by omega))
      subst hk
      clear hok H hN HE
      go_enter Tryz.func11, Tryz.ntmps11
      go_wp2_with fail
      refine KN.out.mono ?_
      rintro e w1 ⟨rfl, h1, g1⟩
      have H1 := Lib.hid (And.intro h1 g1)
      clear h1 g1 y0 y1 y2 y3 y4
      go_wp2_with fail
      go_end0
      exact ⟨rfl, H1.out⟩
    · have HE := Lib.hid (show actB h k u t n y L = L from by unfold actB; rw [if_pos hk, if_neg hok])
      rw [HE.out]
      have KN := Lib.hid (note_bad H hok)
      have HH := Lib.hid H
      subst hk
      clear hok H hN HE
      go_enter Tryz.func11, Tryz.ntmps11
      go_wp2_with fail
      refine KN.out.mono ?_
      rintro e w1 ⟨rfl, hw⟩
      obtain rfl := hw
      go_wp2_with fail
      go_end0
      exact ⟨rfl, HH.out, World.grownBy.refl _ _⟩
  · have hq : (k == 0) = false := by simpa using hk
    by_cases hok : (1 ≤ u ∧ u ≤ 16) ∧ 0 ≤ t ∧ t ≤ 64
    · have HE := Lib.hid (show actB h k u t n y L = chargedB L h u n t y from by unfold actB; rw [if_neg hk, if_pos hok])
      rw [HE.out]
      have KN := Lib.hid (charge_ok H hN hok.1.1 hok.1.2 hok.2.1 hok.2.2 n y)
      clear hok H hN HE hk
      go_enter Tryz.func11, Tryz.ntmps11
      go_wp2_with fail
      refine KN.out.mono ?_
      rintro e w1 ⟨rfl, h1, g1⟩
      have H1 := Lib.hid (And.intro h1 g1)
      clear h1 g1 y0 y1 y2 y3 y4
      go_wp2_with fail
      go_end0
      exact ⟨rfl, H1.out⟩
    · have HE := Lib.hid (show actB h k u t n y L = L from by unfold actB; rw [if_neg hk, if_neg hok])
      rw [HE.out]
      have KN := Lib.hid (charge_bad H n y hok)
      have HH := Lib.hid H
      clear hok H hN HE hk
      go_enter Tryz.func11, Tryz.ntmps11
      go_wp2_with fail
      refine KN.out.mono ?_
      rintro e w1 ⟨rfl, hw⟩
      obtain rfl := hw
      go_wp2_with fail
      go_end0
      exact ⟨rfl, HH.out, World.grownBy.refl _ _⟩
end Go.Proofs.YtmpknjlfabpipaaGreatDoor
namespace Go.Proofs.YtmpknjlfabpipaaGreatDoor
set_option linter.unusedVariables false
open Go.ChangeShapes Go.WideShapes Go.ChangeAt Go.RowKit Bk
attribute [local go_sem ↓] Go.wp_at_zero Go.wp_at_succ comesTo_value_eq comesTo_skip_eq comesTo_enter_eq Rl.comesToR_value_eq Rl.comesToR_skip_eq Rl.comesToR_enter_eq

theorem bk_grown {w w' : World} {b m m' : Nat} {h : Int} {L : List LV} (H : BkAt w b m h L) (g : w.grownBy w' (some m')) (h1 : b ≠ m') (h2 : m ≠ m') : BkAt w' b m h L :=
  H.keep (g.block b H.lt.1 (by intro e; injection e with e; exact h1 e)) (g.block m H.lt.2 (by intro e; injection e with e; exact h2 e))
/-- where the law stands -/
structure AS (w : World) (h U : Int) (ba ma bb mb : Nat) (wr : World) : Prop where
  ex : ∃ La Lb, BkAt wr ba ma h La ∧ BN La ∧ BkAt wr bb mb h Lb ∧ BN Lb ∧ getB La U = getB Lb U ∧ ∀ l ∈ Lb, usr l = U
  bel : Below w.heap.size w wr
theorem bn_i64 {L : List LV} (hg : BG L) (hn : BN L) : ∀ l ∈ L, ∀ x ∈ l, i64B x := fun l hl => Num.i64 (hg.all l hl).1 (hg.all l hl).2 (hn l hl)
set_option maxRecDepth 100000 in
set_option maxHeartbeats 8000000 in
theorem apart_walk (h : Int) (ad : Option Addr) (len cap : Nat) (A : Nat → B14.ActB) (U0 : Int) (w : World) (hA : B14.ActsB w ad len A) (hE : ErrAt w) : Calls Tryz.prog 4 #[.int .i64 h, .slice ad len cap, .int .i64 U0] w fun e w' => e = .returned (.bool true) ∧ Below w.heap.size w w' := by
  have hmx : Tryz.prog.follows .mixedOrders = true := by kernel_rfl
  have hm := mask_15 U0
  obtain ⟨U, hU⟩ : ∃ U, U = 1 + U0 % 16 := ⟨_, rfl⟩
  have hw0 : IntKind.i64.wrap (1 + U0 % 16) = U := by rw [IntKind.wrap_i64]; omega
  have HU := Lib.hid (show 1 ≤ U ∧ U ≤ 16 from by omega)
  have HA := Lib.hid hA.2
  have HLN := Lib.hid hA.1
  have HER := Lib.hid (fun X (hX : Below w.heap.size w X) => hE.below hX)
  clear hU hA hE
  by_cases hok : 1 ≤ h ∧ h ≤ 1099511627776
  · have HOK := Lib.hid hok
    have KN := Lib.hid (fun X => bnew_any h hok.1 hok.2 X)
    have hdo := enters_of (P := Tryz.prog) Tryz.func11 (by kernel_rfl) rfl
    unfold Go.Proofs.Enters at hdo
    clear hok
    go_enter Tryz.func4, Tryz.ntmps4
    go_wp2_with fail
    refine (KN.out _).mono ?_
    rintro e w1 ⟨rfl, h1, b1⟩
    have H1 := Lib.hid h1
    have B1 := Lib.hid b1
    clear h1 b1 hm hw0
    obtain ⟨ba, hba⟩ : ∃ b, b = w.heap.size + 1 := ⟨_, rfl⟩
    obtain ⟨ma, hma⟩ : ∃ m, m = w.heap.size := ⟨_, rfl⟩
    rw [← hba] at H1 ⊢
    rw [← hma] at H1
    have HM := Lib.hid (show w.heap.size ≤ ma ∧ w.heap.size ≤ ba from by omega)
    clear hba hma
    go_wp2_with fail
    refine (KN.out _).mono ?_
    rintro e w2 ⟨rfl, h2, b2⟩
    have H2 := Lib.hid h2
    have H1b := Lib.hid (H1.out.below b2)
    have B2 := Lib.hid (below_next B1.out b2)
    clear h2 b2 KN
    obtain ⟨bb, hbb⟩ : ∃ b, b = w1.heap.size + 1 := ⟨_, rfl⟩
    obtain ⟨mb, hmb⟩ : ∃ m, m = w1.heap.size := ⟨_, rfl⟩
    rw [← hbb] at H2 ⊢
    rw [← hmb] at H2
    have HMB := Lib.hid (show ba < mb ∧ ma < mb ∧ mb < bb from by have := H1.out.lt; omega)
    have HS0 := Lib.hid (show AS w h U ba ma bb mb w2 from ⟨⟨[], [], H1b.out, BN.nil, H2.out, BN.nil, rfl, fun _ h => by cases h⟩, B2.out⟩)
    clear hbb hmb H1 B1 H1b H2 B2
    go_wp2_with fail
    go_loopw [11] (fun i wr => ∃ k : Nat, k ≤ len ∧ k ≤ 40 ∧ i = .int .i64 k ∧ AS w h U ba ma bb mb wr) (fun i _ => 40 - (intOf i).toNat)
    case atStart => exact ⟨0, Nat.zero_le _, Nat.zero_le _, rfl, HS0.out⟩
    case round =>
      obtain ⟨k, hk, hk6, rfl, ⟨La, Lb, hBa, hNa, hBb, hNb, hee, hoo⟩, hbel⟩ := hrel
      have HBa := Lib.hid hBa
      have HNa := Lib.hid hNa
      have HBb := Lib.hid hBb
      have HNb := Lib.hid hNb
      have HEE := Lib.hid hee
      have HOO := Lib.hid hoo
      have HBE := Lib.hid hbel
      have HGa := Lib.hid hBa.good
      have HGb := Lib.hid hBb.good
      clear hBa hNa hBb hNb hee hoo hbel HS0
      by_cases hlt : k < len ∧ k < 40
      · have hd1 : decide ((k : Int) < (len : Int)) = true := decide_eq_true (by omega)
        have hd2 : decide ((k : Int) < 40) = true := decide_eq_true (by omega)
        have hi1 : (k : Int) < (len : Int) := by omega
        have hi2 : (k : Int) < 40 := by omega
        have hlo : (0 : Int) ≤ (k : Int) := by omega
        have hw1 : IntKind.i64.wrap ((k : Int) + 1) = (k : Int) + 1 := by rw [IntKind.wrap_i64]; omega
        have HK := Lib.hid (And.intro hlt.1 hlt.2)
        obtain ⟨ab, off, hab, hac⟩ := HA.out (by omega)
        have HX := hac k hlt.1
        subst hab
        have hltb : ab < w.heap.size := World.block_lt_of_cell? _ _ HX.c0
        have x0 := (HBE.out.cell (p := ⟨ab, off + k * 5, none⟩) hltb).trans HX.c0
        have x1 := (HBE.out.cell (p := ⟨ab, off + k * 5 + 1, none⟩) hltb).trans HX.c1
        have x2 := (HBE.out.cell (p := ⟨ab, off + k * 5 + 2, none⟩) hltb).trans HX.c2
        have x3 := (HBE.out.cell (p := ⟨ab, off + k * 5 + 3, none⟩) hltb).trans HX.c3
        have x4 := (HBE.out.cell (p := ⟨ab, off + k * 5 + 4, none⟩) hltb).trans HX.c4
        clear hltb HX hac hlt hk hk6
        generalize (A k).kind = ak at *
        generalize (A k).u = au at *
        generalize (A k).t = at_ at *
        generalize (A k).n = an at *
        generalize (A k).y = ay at *
        go_upto_region 10 with fail
        clear x0 x1 x2 x3 x4
        have b3 := below_alloc (Below.refl _ wr) (.cells #[.int .i64 ak, .int .i64 au, .int .i64 at_, .int .i64 an, .int .i64 ay] 40)
        have HP := Lib.hid (World.alloc_heap_new wr (.cells #[.int .i64 ak, .int .i64 au, .int .i64 at_, .int .i64 an, .int .i64 ay] 40))
        have HBa3 := Lib.hid (HBa.out.below b3)
        have HBb3 := Lib.hid (HBb.out.below b3)
        have HE3 := Lib.hid (below_next HBE.out b3)
        have HPM := Lib.hid (show ma < wr.heap.size ∧ mb < wr.heap.size from ⟨HBa.out.lt.2, HBb.out.lt.2⟩)
        clear b3 HBa HBb HBE
        generalize wr.alloc (.cells #[.int .i64 ak, .int .i64 au, .int .i64 at_, .int .i64 an, .int .i64 ay] 40) = W3 at *
        generalize wr.heap.size = p at *
        have KD := Lib.hid (do_bk HBa3.out HNa.out HP.out)
        go_wp2_with fail
        refine KD.out.mono ?_
        rintro e w4 ⟨rfl, h4, g4⟩
        have HBa4 := Lib.hid h4
        have HBb4 := Lib.hid (bk_grown HBb3.out g4 (by have := HMB.out; omega) (by have := HMB.out; omega))
        have HP4 := Lib.hid ((g4.block p (Array.getElem?_eq_some_iff.1 HP.out).1 (by have := HPM.out; intro e; injection e with e; omega)).trans HP.out)
        have HE4 := Lib.hid (below_grown HE3.out g4 HM.out.1 (Nat.le_refl _))
        have HNa4 := Lib.hid (actB_bn (h := h) (k := ak) (u := au) (t := at_) (n := an) (y := ay) HNa.out)
        clear h4 g4 HBa3 HBb3 HP HE3 KD
        have y1 : w4.cell? ⟨p, 1, none⟩ = some (.int .i64 au) := cell_of_block (o := 1) HP4.out rfl
        by_cases hu : au = U
        · have hdu : (au == U) = true := by simpa using hu
          have HEN := Lib.hid (show getB (actB h ak au at_ an ay La) U = getB (actB h ak au at_ an ay Lb) U from by subst hu; exact actB_own HGa.out HGb.out HEE.out)
          have HON := Lib.hid (show ∀ l ∈ actB h ak au at_ an ay Lb, usr l = U from by subst hu; exact actB_one HGb.out HOO.out)
          have KD := Lib.hid (do_bk HBb4.out HNb.out HP4.out)
          clear hu
          go_wp2_with fail
          refine KD.out.mono ?_
          rintro e w5 ⟨rfl, h5, g5⟩
          have HBb5 := Lib.hid h5
          have HBa5 := Lib.hid (bk_grown HBa4.out g5 (by have := HMB.out; omega) (by have := HMB.out; omega))
          have HE5 := Lib.hid (below_grown HE4.out g5 (by have := HMB.out; have := HM.out; omega) (Nat.le_refl _))
          have HNb5 := Lib.hid (actB_bn (h := h) (k := ak) (u := au) (t := at_) (n := an) (y := ay) HNb.out)
          clear h5 g5 HBa4 HBb4 HP4 HE4 KD y1
          go_wp2_with fail
          go_roundw
          case rel => exact ⟨k + 1, by have := HK.out; omega, by have := HK.out; omega, by go_num, ⟨⟨_, _, HBa5.out, HNa4.out, HBb5.out, HNb5.out, HEN.out, HON.out⟩, HE5.out⟩⟩
          case measure => simp [intOf]; have := HK.out; omega
        · have hdu : (au == U) = false := by simpa using hu
          have HEN := Lib.hid (show getB (actB h ak au at_ an ay La) U = getB Lb U from by rw [actB_other HGa.out hu]; exact HEE.out)
          clear hu
          go_wp2_with fail
          go_roundw
          case rel => exact ⟨k + 1, by have := HK.out; omega, by have := HK.out; omega, by go_num, ⟨⟨_, _, HBa4.out, HNa4.out, HBb4.out, HNb.out, HEN.out, HOO.out⟩, HE4.out⟩⟩
          case measure => simp [intOf]; have := HK.out; omega
      · have hle := show lineB La U = lineB Lb U from by unfold lineB; rw [HEE.out]
        have KXa := Lib.hid (fun X (hX : Below wr.heap.size wr X) => line_bk (HBa.out.below hX) (u := U) (by have := HU.out; omega) (by have := HU.out; omega))
        have KXb := Lib.hid (fun X (hX : Below wr.heap.size wr X) => line_bk (HBb.out.below hX) (u := U) (by have := HU.out; omega) (by have := HU.out; omega))
        obtain ⟨a0, a1, a2, a3, a4, a5, a6, a7, a8, e9⟩ := nine (HGa.out.line U)
        rw [← HEE.out, ← hle, e9] at KXb
        rw [e9] at KXa
        obtain ⟨s, hs⟩ : ∃ s, s = (getB La U).isSome := ⟨_, rfl⟩
        rw [← hs] at KXa KXb
        have hss : (s != s) = false := by simp
        have KXA : Hid (∀ X, Below wr.heap.size wr X → Calls Tryz.prog 14 #[.pointer (some ⟨ba, 0, none⟩), .int .i64 U] X fun e w' => e = .returned (.tuple #[.agg #[.int .i64 a0, .int .i64 a1, .int .i64 a2, .int .i64 a3, .int .i64 a4, .int .i64 a5, .int .i64 a6, .int .i64 a7, .int .i64 a8], .bool s]) ∧ Below X.heap.size X w') := KXa
        have KXB : Hid (∀ X, Below wr.heap.size wr X → Calls Tryz.prog 14 #[.pointer (some ⟨bb, 0, none⟩), .int .i64 U] X fun e w' => e = .returned (.tuple #[.agg #[.int .i64 a0, .int .i64 a1, .int .i64 a2, .int .i64 a3, .int .i64 a4, .int .i64 a5, .int .i64 a6, .int .i64 a7, .int .i64 a8], .bool s]) ∧ Below X.heap.size X w') := KXb
        have qE := eqinL a0 a1 a2 a3 a4 a5 a6 a7 a8
        have hlb := one_len HGb.out HOO.out
        have hlg : decide ((Lb.length : Int) > 1) = false := decide_eq_false (by omega)
        have hlg2 : decide (1 < (Lb.length : Int)) = false := decide_eq_false (by omega)
        have HX64 := Lib.hid (bn_i64 HGa.out HNa.out)
        have HHI := Lib.hid (show i64B h from by have := HOK.out; unfold i64B; omega)
        have HBL := Lib.hid (bytesB_len HHI.out HGa.out HNa.out)
        have HO1 := Lib.hid (okB_put HOK.out HGa.out HNa.out)
        have HO2 := Lib.hid (okB_more HOK.out HGa.out HNa.out)
        have HGE := Lib.hid (show La.length ≤ (notedB La U 0).length from putB_len _ _)
        clear KXa KXb e9 hle hs hlb HNb HGb HEE HOO
        by_cases hc : k < len
        · have hd1 : decide ((k : Int) < (len : Int)) = true := decide_eq_true (by omega)
          have hi1 : (k : Int) < (len : Int) := by omega
          have hd2 : decide ((k : Int) < 40) = false := decide_eq_false (by omega)
          have hi2 : ¬ (k : Int) < 40 := by omega
          clear hc hlt hk hk6
          go_upto_region 14 with fail
          go_wp2_with fail
          refine (KXA.out _ (Below.refl _ _)).mono ?_
          rintro e w3 ⟨rfl, b3⟩
          have HB3 := Lib.hid b3
          clear b3 KXA
          go_upto_region 15 with fail
          have b4 := below_alloc (Below.refl _ w3) (.cells #[.int .i64 a0, .int .i64 a1, .int .i64 a2, .int .i64 a3, .int .i64 a4, .int .i64 a5, .int .i64 a6, .int .i64 a7, .int .i64 a8] 48)
          have HP := Lib.hid (World.alloc_heap_new w3 (.cells #[.int .i64 a0, .int .i64 a1, .int .i64 a2, .int .i64 a3, .int .i64 a4, .int .i64 a5, .int .i64 a6, .int .i64 a7, .int .i64 a8] 48))
          have HB4 := Lib.hid (below_next HB3.out b4)
          clear b4 HB3
          generalize w3.alloc (.cells #[.int .i64 a0, .int .i64 a1, .int .i64 a2, .int .i64 a3, .int .i64 a4, .int .i64 a5, .int .i64 a6, .int .i64 a7, .int .i64 a8] 48) = W4 at *
          generalize w3.heap.size = p at *
          go_wp2_with fail
          refine (KXB.out _ HB4.out).mono ?_
          rintro e w5 ⟨rfl, b5⟩
          have HP5 := Lib.hid ((b5.block p (Array.getElem?_eq_some_iff.1 HP.out).1).trans HP.out)
          have HB5 := Lib.hid (below_next HB4.out b5)
          clear b5 HP HB4 KXB
          go_upto_region 16 with fail
          have b6 := below_alloc (Below.refl _ w5) (.cells #[.int .i64 a0, .int .i64 a1, .int .i64 a2, .int .i64 a3, .int .i64 a4, .int .i64 a5, .int .i64 a6, .int .i64 a7, .int .i64 a8] 48)
          have HQ := Lib.hid (World.alloc_heap_new w5 (.cells #[.int .i64 a0, .int .i64 a1, .int .i64 a2, .int .i64 a3, .int .i64 a4, .int .i64 a5, .int .i64 a6, .int .i64 a7, .int .i64 a8] 48))
          have HP6 := Lib.hid ((b6.block p (Array.getElem?_eq_some_iff.1 HP5.out).1).trans HP5.out)
          have HB6 := Lib.hid (below_next HB5.out b6)
          clear b6 HP5 HB5
          generalize w5.alloc (.cells #[.int .i64 a0, .int .i64 a1, .int .i64 a2, .int .i64 a3, .int .i64 a4, .int .i64 a5, .int .i64 a6, .int .i64 a7, .int .i64 a8] 48) = W6 at *
          generalize w5.heap.size = q at *
          have p0 : W6.cell? ⟨p, 0, none⟩ = some (.int .i64 a0) := cell_of_block (o := 0) HP6.out rfl
          have p1 : W6.cell? ⟨p, 1, none⟩ = some (.int .i64 a1) := cell_of_block (o := 1) HP6.out rfl
          have p2 : W6.cell? ⟨p, 2, none⟩ = some (.int .i64 a2) := cell_of_block (o := 2) HP6.out rfl
          have p3 : W6.cell? ⟨p, 3, none⟩ = some (.int .i64 a3) := cell_of_block (o := 3) HP6.out rfl
          have p4 : W6.cell? ⟨p, 4, none⟩ = some (.int .i64 a4) := cell_of_block (o := 4) HP6.out rfl
          have p5 : W6.cell? ⟨p, 5, none⟩ = some (.int .i64 a5) := cell_of_block (o := 5) HP6.out rfl
          have p6 : W6.cell? ⟨p, 6, none⟩ = some (.int .i64 a6) := cell_of_block (o := 6) HP6.out rfl
          have p7 : W6.cell? ⟨p, 7, none⟩ = some (.int .i64 a7) := cell_of_block (o := 7) HP6.out rfl
          have p8 : W6.cell? ⟨p, 8, none⟩ = some (.int .i64 a8) := cell_of_block (o := 8) HP6.out rfl
          have q0 : W6.cell? ⟨q, 0, none⟩ = some (.int .i64 a0) := cell_of_block (o := 0) HQ.out rfl
          have q1 : W6.cell? ⟨q, 1, none⟩ = some (.int .i64 a1) := cell_of_block (o := 1) HQ.out rfl
          have q2 : W6.cell? ⟨q, 2, none⟩ = some (.int .i64 a2) := cell_of_block (o := 2) HQ.out rfl
          have q3 : W6.cell? ⟨q, 3, none⟩ = some (.int .i64 a3) := cell_of_block (o := 3) HQ.out rfl
          have q4 : W6.cell? ⟨q, 4, none⟩ = some (.int .i64 a4) := cell_of_block (o := 4) HQ.out rfl
          have q5 : W6.cell? ⟨q, 5, none⟩ = some (.int .i64 a5) := cell_of_block (o := 5) HQ.out rfl
          have q6 : W6.cell? ⟨q, 6, none⟩ = some (.int .i64 a6) := cell_of_block (o := 6) HQ.out rfl
          have q7 : W6.cell? ⟨q, 7, none⟩ = some (.int .i64 a7) := cell_of_block (o := 7) HQ.out rfl
          have q8 : W6.cell? ⟨q, 8, none⟩ = some (.int .i64 a8) := cell_of_block (o := 8) HQ.out rfl
          have KLB := Lib.hid (lines_bk (HBb.out.below HB6.out))
          go_wp2_with fail
          refine KLB.out.mono ?_
          rintro e w7 ⟨v, rfl, hv, b7⟩
          obtain ⟨adv, cv, rfl⟩ := hv.form
          have HB7 := Lib.hid (below_next HB6.out b7)
          clear hv b7 KLB HP6 HQ HB6 p0 p1 p2 p3 p4 p5 p6 p7 p8 q0 q1 q2 q3 q4 q5 q6 q7 q8 qE
          go_upto_region 18 with fail
          clear hlg hlg2 hss
          have HBa7 := Lib.hid (HBa.out.below HB7.out)
          have HE7 := Lib.hid (below_next HBE.out HB7.out)
          have KP := Lib.hid (put_bk HBa7.out HHI.out HX64.out)
          go_wp2_with fail
          refine KP.out.mono ?_
          rintro e w8 ⟨u, rfl, hu, b8⟩
          have HE8 := Lib.hid (below_next HE7.out b8)
          have HBa8 := Lib.hid (HBa7.out.below b8)
          have KR := Lib.hid (bread_any hu.at (by have := HBL.out; omega) (HER.out _ HE8.out))
          clear hu b8 KP HBa7 HE7
          go_wp2_with fail
          refine KR.out.mono ?_
          rintro e w9 (⟨hno, _, _⟩ | ⟨hf, LC, bc, mc, hyes, rfl, hBc, hbc, hmc, b9⟩)
          · rw [HO1.out] at hno; cases hno
          rw [HO1.out] at hyes
          injection hyes with hyes
          injection hyes with hy1 hy2
          subst hy1 hy2
          have HBc9 := Lib.hid hBc
          have HBa9 := Lib.hid (HBa8.out.below b9)
          have HE9 := Lib.hid (below_next HE8.out b9)
          clear hBc hbc hmc b9 KR HBa8 HE8
          go_upto_region 19 with fail
          have KP := Lib.hid (put_bk HBa9.out HHI.out HX64.out)
          go_wp2_with fail
          refine KP.out.mono ?_
          rintro e wA ⟨u, rfl, hu, bA⟩
          have HU1 := Lib.hid hu
          have HEA := Lib.hid (below_next HE9.out bA)
          have HBaA := Lib.hid (HBa9.out.below bA)
          have HBcA := Lib.hid (HBc9.out.below bA)
          have HWA := Lib.hid bA
          have hbB := below_alloc (Below.refl _ wA) (.cells #[.int .u8 0] 5)
          have HT1 := Lib.hid (byte_txt (World.alloc_heap_new wA (.cells #[.int .u8 0] 5)) (by decide))
          have HO1B := Lib.hid (hu.below hbB)
          have HBW := Lib.hid hbB
          have hBA : w9.heap.size ≤ (wA.alloc (.cells #[.int .u8 0] 5)).heap.size := Nat.le_trans bA.size hbB.size
          have h63 : (bytesB h La).length + [(0 : Int)].length ≤ 140737488355328 := by have := HBL.out; simp; omega
          clear hu bA hbB KP HBaA HBcA HEA
          go_wp2_with (at_builtin; go_loud (refine wpList_append_txt (by rfl) _ _ (by rfl) w9.heap.size u (bytesB h La) (by rfl) HO1B.out _ [(0 : Int)] (by rfl) HT1.out h63 hBA ?_; intro adB nB cB wB oB bB gB; have OB := Lib.hid oB; have GB := Lib.hid gB; have BB := Lib.hid bB; clear oB bB gB))
          have H9B := Lib.hid (show Below w9.heap.size w9 wB from HWA.out.trans ((HBW.out.mono HWA.out.size).trans BB.out))
          have HBaB := Lib.hid (HBa9.out.below H9B.out)
          have HBcB := Lib.hid (HBc9.out.below H9B.out)
          have HEB := Lib.hid (below_next HE9.out H9B.out)
          have KR := Lib.hid (bread_any OB.out.at (by have := HBL.out; rw [List.length_append]; simp; omega) (HER.out _ HEB.out))
          clear OB GB BB HWA HBW H9B HT1 HO1B hBA h63 HBa9 HBc9 HE9 HU1
          refine KR.out.mono ?_
          rintro e wC (⟨_, rfl, bC⟩ | ⟨_, _, _, _, hyes, _⟩)
          rotate_left
          · rw [HO2.out] at hyes; cases hyes
          have HBaC := Lib.hid (HBaB.out.below bC)
          have HBcC := Lib.hid (HBcB.out.below bC)
          have HEC := Lib.hid (below_next HEB.out bC)
          clear bC KR HBaB HBcB HEB
          go_upto_region 20 with fail
          have KCL := Lib.hid (bclone_bk HBaC.out)
          go_wp2_with fail
          refine KCL.out.mono ?_
          rintro e wD ⟨bd, md, rfl, hd, hbd, hmd, bD⟩
          have HBdD := Lib.hid hd
          have HBaD := Lib.hid (HBaC.out.below bD)
          have HBcD := Lib.hid (HBcC.out.below bD)
          have HED := Lib.hid (below_next HEC.out bD)
          have HND := Lib.hid (show ba ≠ md ∧ ma ≠ md ∧ bc ≠ md ∧ mc ≠ md ∧ w.heap.size ≤ md from by have := HBaC.out.lt; have := HBcC.out.lt; have := HEC.out.size; omega)
          clear hd hbd hmd bD KCL HBaC HBcC HEC
          have KNT : Hid (Calls Tryz.prog 12 #[.pointer (some ⟨bd, 0, none⟩), .int .i64 U, .int .i64 0] wD fun e w' => e = .returned (.int .i64 0) ∧ BkAt w' bd md h (notedB La U 0) ∧ wD.grownBy w' (some md)) := Lib.hid (note_ok HBdD.out HNa.out HU.out.1 HU.out.2 (k := 0) (by omega))
          go_wp2_with fail
          refine KNT.out.mono ?_
          rintro e wE ⟨rfl, hdE, gE⟩
          have HBdE := Lib.hid hdE
          have HBaE := Lib.hid (bk_grown HBaD.out gE HND.out.1 HND.out.2.1)
          have HBcE := Lib.hid (bk_grown HBcD.out gE HND.out.2.2.1 HND.out.2.2.2.1)
          have HEE := Lib.hid (below_grown HED.out gE HND.out.2.2.2.2 (Nat.le_refl _))
          clear hdE gE KNT HBdD HBaD HBcD HED HND
          go_upto_region 22 with fail
          have KPc := Lib.hid (fun X (hX : Below wE.heap.size wE X) => put_bk (HBcE.out.below hX) HHI.out HX64.out)
          have KPa := Lib.hid (fun X (hX : Below wE.heap.size wE X) => put_bk (HBaE.out.below hX) HHI.out HX64.out)
          have KLd := Lib.hid (fun X (hX : Below wE.heap.size wE X) => lines_bk (HBdE.out.below hX))
          have KLa := Lib.hid (fun X (hX : Below wE.heap.size wE X) => lines_bk (HBaE.out.below hX))
          have hge := HGE.out
          generalize hnd : (notedB La U 0).length = nd at *
          have HND2 := Lib.hid hnd
          generalize hna : La.length = na at *
          have HNA := Lib.hid hna
          have HLE := Lib.hid hge
          have hgd : decide ((nd : Int) ≥ (na : Int)) = true := decide_eq_true (by omega)
          have hgd2 : decide ((na : Int) ≤ (nd : Int)) = true := decide_eq_true (by omega)
          obtain ⟨sz, hsz⟩ : ∃ sz, sz = strOfNums (bytesB h La) := ⟨_, rfl⟩
          have HSZ := Lib.hid hsz
          clear hna hnd hsz hge HBaE HBcE HBdE
          refine Rl.wp_region_rel (fun a b => Below a.heap.size a b) wE (fun a b c h h' => below_next h h') (fun a => Below.refl _ _) hmx (by kernel_rfl) (Below.refl _ _).drew ?_
          (refine Rl.textR_run ?_ (fun ρ => ?_) (fun ρ W hS hd => ?_) ?_; rotate_left; (focus go_simp); (focus (obtain ⟨hc, hf⟩ := bcell hS; go_simp; first | exact ⟨rfl, Below.refl _ _⟩ | (refine ⟨?_, Below.refl _ _⟩; rfl))); (try go_simp))
          (refine Rl.textR_run ?_ (fun ρ => ?_) (fun ρ W hS hd => ?_) ?_; rotate_left; (focus go_simp); (focus (obtain ⟨hc, hf⟩ := bcell hS; go_simp; first | exact ⟨rfl, Below.refl _ _⟩ | (refine ⟨?_, Below.refl _ _⟩; rfl))); (try go_simp))
          (refine Rl.textR_run ?_ (fun ρ => ?_) (fun ρ W hS hd => ?_) ?_; rotate_left; (focus go_simp); (focus (obtain ⟨hc, hf⟩ := bcell hS; go_simp; first | exact ⟨rfl, Below.refl _ _⟩ | (refine ⟨?_, Below.refl _ _⟩; rfl))); (try go_simp))
          (refine Rl.textR_run ?_ (fun ρ => ?_) (fun ρ W hS hd => ?_) ?_; rotate_left; (focus go_simp); (focus (obtain ⟨hc, hf⟩ := bcell hS; go_simp; first | exact ⟨rfl, Below.refl _ _⟩ | (refine ⟨?_, Below.refl _ _⟩; rfl))); (try go_simp))
          refine Rl.textR_rel 126 (fun v w => TxtAt w v (bytesB h La)) rfl (fun v w w' hg hh => hh.below hg) (fun ρ => ?_) (fun ρ W hS hd => ?_) ?_
          · go_simp
          · go_simp
            refine (KPc.out W hS).mono ?_
            rintro e w1 ⟨u, rfl, ho, hb⟩
            exact ⟨_, rfl, ho.at, hb⟩
          (try go_simp)
          refine Rl.textR_run (.string sz) (fun ρ => ?_) (fun ρ W hS hd => ?_) ?_
          · go_simp
          · have hcv := txt_conv (hd (126, fun v w => TxtAt w v (bytesB h La)) (by first | exact List.mem_cons_self | (simp; done)) (show (126 : Nat) ∈ _ by decide)) W (Below.refl _ _)
            rw [← HSZ.out] at hcv
            simp only at hcv
            go_simp
            first | exact ⟨rfl, Below.refl _ _⟩ | exact Below.refl _ _
          (try go_simp)
          (refine Rl.textR_run ?_ (fun ρ => ?_) (fun ρ W hS hd => ?_) ?_; rotate_left; (focus go_simp); (focus (obtain ⟨hc, hf⟩ := bcell hS; go_simp; first | exact ⟨rfl, Below.refl _ _⟩ | (refine ⟨?_, Below.refl _ _⟩; rfl))); (try go_simp))
          refine Rl.textR_rel 129 (fun v w => TxtAt w v (bytesB h La)) rfl (fun v w w' hg hh => hh.below hg) (fun ρ => ?_) (fun ρ W hS hd => ?_) ?_
          · go_simp
          · go_simp
            refine (KPa.out W hS).mono ?_
            rintro e w1 ⟨u, rfl, ho, hb⟩
            exact ⟨_, rfl, ho.at, hb⟩
          (try go_simp)
          refine Rl.textR_run (.string sz) (fun ρ => ?_) (fun ρ W hS hd => ?_) ?_
          · go_simp
          · have hcv := txt_conv (hd (129, fun v w => TxtAt w v (bytesB h La)) (by first | exact List.mem_cons_self | (simp; done)) (show (129 : Nat) ∈ _ by decide)) W (Below.refl _ _)
            rw [← HSZ.out] at hcv
            simp only at hcv
            go_simp
            first | exact ⟨rfl, Below.refl _ _⟩ | exact Below.refl _ _
          (try go_simp)
          (refine Rl.textR_run ?_ (fun ρ => ?_) (fun ρ W hS hd => ?_) ?_; rotate_left; (focus go_simp); (focus (obtain ⟨hc, hf⟩ := bcell hS; go_simp; first | exact ⟨rfl, Below.refl _ _⟩ | (refine ⟨?_, Below.refl _ _⟩; rfl))); (try go_simp))
          (refine Rl.textR_run ?_ (fun ρ => ?_) (fun ρ W hS hd => ?_) ?_; rotate_left; (focus go_simp); (focus (obtain ⟨hc, hf⟩ := bcell hS; go_simp; first | exact ⟨rfl, Below.refl _ _⟩ | (refine ⟨?_, Below.refl _ _⟩; rfl))); (try go_simp))
          (refine Rl.textR_run ?_ (fun ρ => ?_) (fun ρ W hS hd => ?_) ?_; rotate_left; (focus go_simp); (focus (obtain ⟨hc, hf⟩ := bcell hS; go_simp; first | exact ⟨rfl, Below.refl _ _⟩ | (refine ⟨?_, Below.refl _ _⟩; rfl))); (try go_simp))
          (refine Rl.textR_run ?_ (fun ρ => ?_) (fun ρ W hS hd => ?_) ?_; rotate_left; (focus go_simp); (focus (obtain ⟨hc, hf⟩ := bcell hS; go_simp; first | exact ⟨rfl, Below.refl _ _⟩ | (refine ⟨?_, Below.refl _ _⟩; rfl))); (try go_simp))
          (refine Rl.textR_run ?_ (fun ρ => ?_) (fun ρ W hS hd => ?_) ?_; rotate_left; (focus go_simp); (focus (obtain ⟨hc, hf⟩ := bcell hS; go_simp; first | exact ⟨rfl, Below.refl _ _⟩ | (refine ⟨?_, Below.refl _ _⟩; rfl))); (try go_simp))
          (refine Rl.textR_run ?_ (fun ρ => ?_) (fun ρ W hS hd => ?_) ?_; rotate_left; (focus go_simp); (focus (obtain ⟨hc, hf⟩ := bcell hS; go_simp; first | exact ⟨rfl, Below.refl _ _⟩ | (refine ⟨?_, Below.refl _ _⟩; rfl))); (try go_simp))
          (refine Rl.textR_run ?_ (fun ρ => ?_) (fun ρ W hS hd => ?_) ?_; rotate_left; (focus go_simp); (focus (obtain ⟨hc, hf⟩ := bcell hS; go_simp; first | exact ⟨rfl, Below.refl _ _⟩ | (refine ⟨?_, Below.refl _ _⟩; rfl))); (try go_simp))
          (refine Rl.textR_run ?_ (fun ρ => ?_) (fun ρ W hS hd => ?_) ?_; rotate_left; (focus go_simp); (focus (obtain ⟨hc, hf⟩ := bcell hS; go_simp; first | exact ⟨rfl, Below.refl _ _⟩ | (refine ⟨?_, Below.refl _ _⟩; rfl))); (try go_simp))
          refine Rl.textR_rel 139 (fun v _ => ∃ ad c, v = .slice ad nd c) rfl (fun v w w' hg hh => hh) (fun ρ => ?_) (fun ρ W hS hd => ?_) ?_
          · go_simp
          · go_simp
            refine (KLd.out W hS).mono ?_
            rintro e w1 ⟨u, rfl, ho, hb⟩
            obtain ⟨ad1, c1, hv1⟩ := ho.form
            exact ⟨_, rfl, ⟨ad1, c1, by rw [hv1, HND2.out]⟩, hb⟩
          (try go_simp)
          refine Rl.textR_run (.int .i64 (nd : Int)) (fun ρ => ?_) (fun ρ W hS hd => ?_) ?_
          · go_simp
          · obtain ⟨ad1, c1, hv1⟩ := hd (139, fun v _ => ∃ ad c, v = .slice ad nd c) (by first | exact List.mem_cons_self | (simp; done)) (show (139 : Nat) ∈ _ by decide)
            simp only at hv1
            go_simp
            first | exact ⟨rfl, Below.refl _ _⟩ | exact Below.refl _ _
          (try go_simp)
          (refine Rl.textR_run ?_ (fun ρ => ?_) (fun ρ W hS hd => ?_) ?_; rotate_left; (focus go_simp); (focus (obtain ⟨hc, hf⟩ := bcell hS; go_simp; first | exact ⟨rfl, Below.refl _ _⟩ | (refine ⟨?_, Below.refl _ _⟩; rfl))); (try go_simp))
          refine Rl.textR_rel 142 (fun v _ => ∃ ad c, v = .slice ad na c) rfl (fun v w w' hg hh => hh) (fun ρ => ?_) (fun ρ W hS hd => ?_) ?_
          · go_simp
          · go_simp
            refine (KLa.out W hS).mono ?_
            rintro e w1 ⟨u, rfl, ho, hb⟩
            obtain ⟨ad1, c1, hv1⟩ := ho.form
            exact ⟨_, rfl, ⟨ad1, c1, by rw [hv1, HNA.out]⟩, hb⟩
          (try go_simp)
          refine Rl.textR_run (.int .i64 (na : Int)) (fun ρ => ?_) (fun ρ W hS hd => ?_) ?_
          · go_simp
          · obtain ⟨ad1, c1, hv1⟩ := hd (142, fun v _ => ∃ ad c, v = .slice ad na c) (by first | exact List.mem_cons_self | (simp; done)) (show (142 : Nat) ∈ _ by decide)
            simp only at hv1
            go_simp
            first | exact ⟨rfl, Below.refl _ _⟩ | exact Below.refl _ _
          (try go_simp)
          refine Rl.textR_run (.bool true) (fun ρ => ?_) (fun ρ W hS hd => ?_) ?_
          · go_simp
          · have hlz : ((na : Int) ≤ (nd : Int)) := by have := HLE.out; omega
            have hlz2 : na ≤ nd := HLE.out
            go_simp
            first | exact ⟨rfl, Below.refl _ _⟩ | exact ⟨by simp [hlz2], Below.refl _ _⟩ | exact Below.refl _ _ | exact ⟨by simpa using hlz2, Below.refl _ _⟩
          (try go_simp)
          (refine Rl.textR_run ?_ (fun ρ => ?_) (fun ρ W hS hd => ?_) ?_; rotate_left; (focus go_simp); (focus (obtain ⟨hc, hf⟩ := bcell hS; go_simp; first | exact ⟨rfl, Below.refl _ _⟩ | (refine ⟨?_, Below.refl _ _⟩; rfl))); (try go_simp))
          (refine Rl.textR_run ?_ (fun ρ => ?_) (fun ρ W hS hd => ?_) ?_; rotate_left; (focus go_simp); (focus (obtain ⟨hc, hf⟩ := bcell hS; go_simp; first | exact ⟨rfl, Below.refl _ _⟩ | (refine ⟨?_, Below.refl _ _⟩; rfl))); (try go_simp))
          (refine Rl.textR_run ?_ (fun ρ => ?_) (fun ρ W hS hd => ?_) ?_; rotate_left; (focus go_simp); (focus (obtain ⟨hc, hf⟩ := bcell hS; go_simp; first | exact ⟨rfl, Below.refl _ _⟩ | (refine ⟨?_, Below.refl _ _⟩; rfl))); (try go_simp))
          refine Rl.textR_rel 148 (fun v w => TxtAt w v (bytesB h La)) rfl (fun v w w' hg hh => hh.below hg) (fun ρ => ?_) (fun ρ W hS hd => ?_) ?_
          · go_simp
          · go_simp
            refine (KPa.out W hS).mono ?_
            rintro e w1 ⟨u, rfl, ho, hb⟩
            exact ⟨_, rfl, ho.at, hb⟩
          (try go_simp)
          refine Rl.textR_run (.string sz) (fun ρ => ?_) (fun ρ W hS hd => ?_) ?_
          · go_simp
          · have hcv := txt_conv (hd (148, fun v w => TxtAt w v (bytesB h La)) (by first | exact List.mem_cons_self | (simp; done)) (show (148 : Nat) ∈ _ by decide)) W (Below.refl _ _)
            rw [← HSZ.out] at hcv
            simp only at hcv
            go_simp
            first | exact ⟨rfl, Below.refl _ _⟩ | exact Below.refl _ _
          (try go_simp)
          (refine Rl.textR_run ?_ (fun ρ => ?_) (fun ρ W hS hd => ?_) ?_; rotate_left; (focus go_simp); (focus (obtain ⟨hc, hf⟩ := bcell hS; go_simp; first | exact ⟨rfl, Below.refl _ _⟩ | (refine ⟨?_, Below.refl _ _⟩; rfl))); (try go_simp))
          refine Rl.textR_rel 151 (fun v w => TxtAt w v (bytesB h La)) rfl (fun v w w' hg hh => hh.below hg) (fun ρ => ?_) (fun ρ W hS hd => ?_) ?_
          · go_simp
          · go_simp
            refine (KPc.out W hS).mono ?_
            rintro e w1 ⟨u, rfl, ho, hb⟩
            exact ⟨_, rfl, ho.at, hb⟩
          (try go_simp)
          refine Rl.textR_run (.string sz) (fun ρ => ?_) (fun ρ W hS hd => ?_) ?_
          · go_simp
          · have hcv := txt_conv (hd (151, fun v w => TxtAt w v (bytesB h La)) (by first | exact List.mem_cons_self | (simp; done)) (show (151 : Nat) ∈ _ by decide)) W (Below.refl _ _)
            rw [← HSZ.out] at hcv
            simp only at hcv
            go_simp
            first | exact ⟨rfl, Below.refl _ _⟩ | exact Below.refl _ _
          (try go_simp)
          (refine Rl.textR_run ?_ (fun ρ => ?_) (fun ρ W hS hd => ?_) ?_; rotate_left; (focus go_simp); (focus (obtain ⟨hc, hf⟩ := bcell hS; go_simp; first | exact ⟨rfl, Below.refl _ _⟩ | (refine ⟨?_, Below.refl _ _⟩; rfl))); (try go_simp))
          (refine Rl.textR_run ?_ (fun ρ => ?_) (fun ρ W hS hd => ?_) ?_; rotate_left; (focus go_simp); (focus (obtain ⟨hc, hf⟩ := bcell hS; go_simp; first | exact ⟨rfl, Below.refl _ _⟩ | (refine ⟨?_, Below.refl _ _⟩; rfl))); (try go_simp))
          (refine Rl.textR_run ?_ (fun ρ => ?_) (fun ρ W hS hd => ?_) ?_; rotate_left; (focus go_simp); (focus (obtain ⟨hc, hf⟩ := bcell hS; go_simp; first | exact ⟨rfl, Below.refl _ _⟩ | (refine ⟨?_, Below.refl _ _⟩; rfl))); (try go_simp))
          (refine Rl.textR_run ?_ (fun ρ => ?_) (fun ρ W hS hd => ?_) ?_; rotate_left; (focus go_simp); (focus (obtain ⟨hc, hf⟩ := bcell hS; go_simp; refine (bone W).mono ?_; rintro e w1 ⟨rfl, hb⟩; refine ⟨_, rfl, ?_, hb⟩; rfl)); (try go_simp))
          (refine Rl.textR_run ?_ (fun ρ => ?_) (fun ρ W hS hd => ?_) ?_; rotate_left; (focus go_simp); (focus (obtain ⟨hc, hf⟩ := bcell hS; go_simp; first | exact ⟨rfl, Below.refl _ _⟩ | (refine ⟨?_, Below.refl _ _⟩; rfl))); (try go_simp))
          (refine Rl.textR_run ?_ (fun ρ => ?_) (fun ρ W hS hd => ?_) ?_; rotate_left; (focus go_simp); (focus (obtain ⟨hc, hf⟩ := bcell hS; go_simp; first | exact ⟨rfl, Below.refl _ _⟩ | (refine ⟨?_, Below.refl _ _⟩; rfl))); (try go_simp))
          refine Rl.textR_nil ?_
          intro ρ wF hgF hkF
          dsimp only
          have HGF := Lib.hid (below_next HEE.out hgF)
          clear hgF hkF
          go_simp
          go_wp2_with fail
          go_ret
          exact ⟨rfl, HGF.out⟩
        · have hd1 : decide ((k : Int) < (len : Int)) = false := decide_eq_false (by omega)
          have hi1 : ¬ (k : Int) < (len : Int) := by omega
          clear hc hlt hk hk6
          go_upto_region 14 with fail
          go_wp2_with fail
          refine (KXA.out _ (Below.refl _ _)).mono ?_
          rintro e w3 ⟨rfl, b3⟩
          have HB3 := Lib.hid b3
          clear b3 KXA
          go_upto_region 15 with fail
          have b4 := below_alloc (Below.refl _ w3) (.cells #[.int .i64 a0, .int .i64 a1, .int .i64 a2, .int .i64 a3, .int .i64 a4, .int .i64 a5, .int .i64 a6, .int .i64 a7, .int .i64 a8] 48)
          have HP := Lib.hid (World.alloc_heap_new w3 (.cells #[.int .i64 a0, .int .i64 a1, .int .i64 a2, .int .i64 a3, .int .i64 a4, .int .i64 a5, .int .i64 a6, .int .i64 a7, .int .i64 a8] 48))
          have HB4 := Lib.hid (below_next HB3.out b4)
          clear b4 HB3
          generalize w3.alloc (.cells #[.int .i64 a0, .int .i64 a1, .int .i64 a2, .int .i64 a3, .int .i64 a4, .int .i64 a5, .int .i64 a6, .int .i64 a7, .int .i64 a8] 48) = W4 at *
          generalize w3.heap.size = p at *
          go_wp2_with fail
          refine (KXB.out _ HB4.out).mono ?_
          rintro e w5 ⟨rfl, b5⟩
          have HP5 := Lib.hid ((b5.block p (Array.getElem?_eq_some_iff.1 HP.out).1).trans HP.out)
          have HB5 := Lib.hid (below_next HB4.out b5)
          clear b5 HP HB4 KXB
          go_upto_region 16 with fail
          have b6 := below_alloc (Below.refl _ w5) (.cells #[.int .i64 a0, .int .i64 a1, .int .i64 a2, .int .i64 a3, .int .i64 a4, .int .i64 a5, .int .i64 a6, .int .i64 a7, .int .i64 a8] 48)
          have HQ := Lib.hid (World.alloc_heap_new w5 (.cells #[.int .i64 a0, .int .i64 a1, .int .i64 a2, .int .i64 a3, .int .i64 a4, .int .i64 a5, .int .i64 a6, .int .i64 a7, .int .i64 a8] 48))
          have HP6 := Lib.hid ((b6.block p (Array.getElem?_eq_some_iff.1 HP5.out).1).trans HP5.out)
          have HB6 := Lib.hid (below_next HB5.out b6)
          clear b6 HP5 HB5
          generalize w5.alloc (.cells #[.int .i64 a0, .int .i64 a1, .int .i64 a2, .int .i64 a3, .int .i64 a4, .int .i64 a5, .int .i64 a6, .int .i64 a7, .int .i64 a8] 48) = W6 at *
          generalize w5.heap.size = q at *
          have p0 : W6.cell? ⟨p, 0, none⟩ = some (.int .i64 a0) := cell_of_block (o := 0) HP6.out rfl
          have p1 : W6.cell? ⟨p, 1, none⟩ = some (.int .i64 a1) := cell_of_block (o := 1) HP6.out rfl
          have p2 : W6.cell? ⟨p, 2, none⟩ = some (.int .i64 a2) := cell_of_block (o := 2) HP6.out rfl
          have p3 : W6.cell? ⟨p, 3, none⟩ = some (.int .i64 a3) := cell_of_block (o := 3) HP6.out rfl
          have p4 : W6.cell? ⟨p, 4, none⟩ = some (.int .i64 a4) := cell_of_block (o := 4) HP6.out rfl
          have p5 : W6.cell? ⟨p, 5, none⟩ = some (.int .i64 a5) := cell_of_block (o := 5) HP6.out rfl
          have p6 : W6.cell? ⟨p, 6, none⟩ = some (.int .i64 a6) := cell_of_block (o := 6) HP6.out rfl
          have p7 : W6.cell? ⟨p, 7, none⟩ = some (.int .i64 a7) := cell_of_block (o := 7) HP6.out rfl
          have p8 : W6.cell? ⟨p, 8, none⟩ = some (.int .i64 a8) := cell_of_block (o := 8) HP6.out rfl
          have q0 : W6.cell? ⟨q, 0, none⟩ = some (.int .i64 a0) := cell_of_block (o := 0) HQ.out rfl
          have q1 : W6.cell? ⟨q, 1, none⟩ = some (.int .i64 a1) := cell_of_block (o := 1) HQ.out rfl
          have q2 : W6.cell? ⟨q, 2, none⟩ = some (.int .i64 a2) := cell_of_block (o := 2) HQ.out rfl
          have q3 : W6.cell? ⟨q, 3, none⟩ = some (.int .i64 a3) := cell_of_block (o := 3) HQ.out rfl
          have q4 : W6.cell? ⟨q, 4, none⟩ = some (.int .i64 a4) := cell_of_block (o := 4) HQ.out rfl
          have q5 : W6.cell? ⟨q, 5, none⟩ = some (.int .i64 a5) := cell_of_block (o := 5) HQ.out rfl
          have q6 : W6.cell? ⟨q, 6, none⟩ = some (.int .i64 a6) := cell_of_block (o := 6) HQ.out rfl
          have q7 : W6.cell? ⟨q, 7, none⟩ = some (.int .i64 a7) := cell_of_block (o := 7) HQ.out rfl
          have q8 : W6.cell? ⟨q, 8, none⟩ = some (.int .i64 a8) := cell_of_block (o := 8) HQ.out rfl
          have KLB := Lib.hid (lines_bk (HBb.out.below HB6.out))
          go_wp2_with fail
          refine KLB.out.mono ?_
          rintro e w7 ⟨v, rfl, hv, b7⟩
          obtain ⟨adv, cv, rfl⟩ := hv.form
          have HB7 := Lib.hid (below_next HB6.out b7)
          clear hv b7 KLB HP6 HQ HB6 p0 p1 p2 p3 p4 p5 p6 p7 p8 q0 q1 q2 q3 q4 q5 q6 q7 q8 qE
          go_upto_region 18 with fail
          clear hlg hlg2 hss
          have HBa7 := Lib.hid (HBa.out.below HB7.out)
          have HE7 := Lib.hid (below_next HBE.out HB7.out)
          have KP := Lib.hid (put_bk HBa7.out HHI.out HX64.out)
          go_wp2_with fail
          refine KP.out.mono ?_
          rintro e w8 ⟨u, rfl, hu, b8⟩
          have HE8 := Lib.hid (below_next HE7.out b8)
          have HBa8 := Lib.hid (HBa7.out.below b8)
          have KR := Lib.hid (bread_any hu.at (by have := HBL.out; omega) (HER.out _ HE8.out))
          clear hu b8 KP HBa7 HE7
          go_wp2_with fail
          refine KR.out.mono ?_
          rintro e w9 (⟨hno, _, _⟩ | ⟨hf, LC, bc, mc, hyes, rfl, hBc, hbc, hmc, b9⟩)
          · rw [HO1.out] at hno; cases hno
          rw [HO1.out] at hyes
          injection hyes with hyes
          injection hyes with hy1 hy2
          subst hy1 hy2
          have HBc9 := Lib.hid hBc
          have HBa9 := Lib.hid (HBa8.out.below b9)
          have HE9 := Lib.hid (below_next HE8.out b9)
          clear hBc hbc hmc b9 KR HBa8 HE8
          go_upto_region 19 with fail
          have KP := Lib.hid (put_bk HBa9.out HHI.out HX64.out)
          go_wp2_with fail
          refine KP.out.mono ?_
          rintro e wA ⟨u, rfl, hu, bA⟩
          have HU1 := Lib.hid hu
          have HEA := Lib.hid (below_next HE9.out bA)
          have HBaA := Lib.hid (HBa9.out.below bA)
          have HBcA := Lib.hid (HBc9.out.below bA)
          have HWA := Lib.hid bA
          have hbB := below_alloc (Below.refl _ wA) (.cells #[.int .u8 0] 5)
          have HT1 := Lib.hid (byte_txt (World.alloc_heap_new wA (.cells #[.int .u8 0] 5)) (by decide))
          have HO1B := Lib.hid (hu.below hbB)
          have HBW := Lib.hid hbB
          have hBA : w9.heap.size ≤ (wA.alloc (.cells #[.int .u8 0] 5)).heap.size := Nat.le_trans bA.size hbB.size
          have h63 : (bytesB h La).length + [(0 : Int)].length ≤ 140737488355328 := by have := HBL.out; simp; omega
          clear hu bA hbB KP HBaA HBcA HEA
          go_wp2_with (at_builtin; go_loud (refine wpList_append_txt (by rfl) _ _ (by rfl) w9.heap.size u (bytesB h La) (by rfl) HO1B.out _ [(0 : Int)] (by rfl) HT1.out h63 hBA ?_; intro adB nB cB wB oB bB gB; have OB := Lib.hid oB; have GB := Lib.hid gB; have BB := Lib.hid bB; clear oB bB gB))
          have H9B := Lib.hid (show Below w9.heap.size w9 wB from HWA.out.trans ((HBW.out.mono HWA.out.size).trans BB.out))
          have HBaB := Lib.hid (HBa9.out.below H9B.out)
          have HBcB := Lib.hid (HBc9.out.below H9B.out)
          have HEB := Lib.hid (below_next HE9.out H9B.out)
          have KR := Lib.hid (bread_any OB.out.at (by have := HBL.out; rw [List.length_append]; simp; omega) (HER.out _ HEB.out))
          clear OB GB BB HWA HBW H9B HT1 HO1B hBA h63 HBa9 HBc9 HE9 HU1
          refine KR.out.mono ?_
          rintro e wC (⟨_, rfl, bC⟩ | ⟨_, _, _, _, hyes, _⟩)
          rotate_left
          · rw [HO2.out] at hyes; cases hyes
          have HBaC := Lib.hid (HBaB.out.below bC)
          have HBcC := Lib.hid (HBcB.out.below bC)
          have HEC := Lib.hid (below_next HEB.out bC)
          clear bC KR HBaB HBcB HEB
          go_upto_region 20 with fail
          have KCL := Lib.hid (bclone_bk HBaC.out)
          go_wp2_with fail
          refine KCL.out.mono ?_
          rintro e wD ⟨bd, md, rfl, hd, hbd, hmd, bD⟩
          have HBdD := Lib.hid hd
          have HBaD := Lib.hid (HBaC.out.below bD)
          have HBcD := Lib.hid (HBcC.out.below bD)
          have HED := Lib.hid (below_next HEC.out bD)
          have HND := Lib.hid (show ba ≠ md ∧ ma ≠ md ∧ bc ≠ md ∧ mc ≠ md ∧ w.heap.size ≤ md from by have := HBaC.out.lt; have := HBcC.out.lt; have := HEC.out.size; omega)
          clear hd hbd hmd bD KCL HBaC HBcC HEC
          have KNT : Hid (Calls Tryz.prog 12 #[.pointer (some ⟨bd, 0, none⟩), .int .i64 U, .int .i64 0] wD fun e w' => e = .returned (.int .i64 0) ∧ BkAt w' bd md h (notedB La U 0) ∧ wD.grownBy w' (some md)) := Lib.hid (note_ok HBdD.out HNa.out HU.out.1 HU.out.2 (k := 0) (by omega))
          go_wp2_with fail
          refine KNT.out.mono ?_
          rintro e wE ⟨rfl, hdE, gE⟩
          have HBdE := Lib.hid hdE
          have HBaE := Lib.hid (bk_grown HBaD.out gE HND.out.1 HND.out.2.1)
          have HBcE := Lib.hid (bk_grown HBcD.out gE HND.out.2.2.1 HND.out.2.2.2.1)
          have HEE := Lib.hid (below_grown HED.out gE HND.out.2.2.2.2 (Nat.le_refl _))
          clear hdE gE KNT HBdD HBaD HBcD HED HND
          go_upto_region 22 with fail
          have KPc := Lib.hid (fun X (hX : Below wE.heap.size wE X) => put_bk (HBcE.out.below hX) HHI.out HX64.out)
          have KPa := Lib.hid (fun X (hX : Below wE.heap.size wE X) => put_bk (HBaE.out.below hX) HHI.out HX64.out)
          have KLd := Lib.hid (fun X (hX : Below wE.heap.size wE X) => lines_bk (HBdE.out.below hX))
          have KLa := Lib.hid (fun X (hX : Below wE.heap.size wE X) => lines_bk (HBaE.out.below hX))
          have hge := HGE.out
          generalize hnd : (notedB La U 0).length = nd at *
          have HND2 := Lib.hid hnd
          generalize hna : La.length = na at *
          have HNA := Lib.hid hna
          have HLE := Lib.hid hge
          have hgd : decide ((nd : Int) ≥ (na : Int)) = true := decide_eq_true (by omega)
          have hgd2 : decide ((na : Int) ≤ (nd : Int)) = true := decide_eq_true (by omega)
          obtain ⟨sz, hsz⟩ : ∃ sz, sz = strOfNums (bytesB h La) := ⟨_, rfl⟩
          have HSZ := Lib.hid hsz
          clear hna hnd hsz hge HBaE HBcE HBdE
          refine Rl.wp_region_rel (fun a b => Below a.heap.size a b) wE (fun a b c h h' => below_next h h') (fun a => Below.refl _ _) hmx (by kernel_rfl) (Below.refl _ _).drew ?_
          (refine Rl.textR_run ?_ (fun ρ => ?_) (fun ρ W hS hd => ?_) ?_; rotate_left; (focus go_simp); (focus (obtain ⟨hc, hf⟩ := bcell hS; go_simp; first | exact ⟨rfl, Below.refl _ _⟩ | (refine ⟨?_, Below.refl _ _⟩; rfl))); (try go_simp))
          (refine Rl.textR_run ?_ (fun ρ => ?_) (fun ρ W hS hd => ?_) ?_; rotate_left; (focus go_simp); (focus (obtain ⟨hc, hf⟩ := bcell hS; go_simp; first | exact ⟨rfl, Below.refl _ _⟩ | (refine ⟨?_, Below.refl _ _⟩; rfl))); (try go_simp))
          (refine Rl.textR_run ?_ (fun ρ => ?_) (fun ρ W hS hd => ?_) ?_; rotate_left; (focus go_simp); (focus (obtain ⟨hc, hf⟩ := bcell hS; go_simp; first | exact ⟨rfl, Below.refl _ _⟩ | (refine ⟨?_, Below.refl _ _⟩; rfl))); (try go_simp))
          (refine Rl.textR_run ?_ (fun ρ => ?_) (fun ρ W hS hd => ?_) ?_; rotate_left; (focus go_simp); (focus (obtain ⟨hc, hf⟩ := bcell hS; go_simp; first | exact ⟨rfl, Below.refl _ _⟩ | (refine ⟨?_, Below.refl _ _⟩; rfl))); (try go_simp))
          refine Rl.textR_rel 126 (fun v w => TxtAt w v (bytesB h La)) rfl (fun v w w' hg hh => hh.below hg) (fun ρ => ?_) (fun ρ W hS hd => ?_) ?_
          · go_simp
          · go_simp
            refine (KPc.out W hS).mono ?_
            rintro e w1 ⟨u, rfl, ho, hb⟩
            exact ⟨_, rfl, ho.at, hb⟩
          (try go_simp)
          refine Rl.textR_run (.string sz) (fun ρ => ?_) (fun ρ W hS hd => ?_) ?_
          · go_simp
          · have hcv := txt_conv (hd (126, fun v w => TxtAt w v (bytesB h La)) (by first | exact List.mem_cons_self | (simp; done)) (show (126 : Nat) ∈ _ by decide)) W (Below.refl _ _)
            rw [← HSZ.out] at hcv
            simp only at hcv
            go_simp
            first | exact ⟨rfl, Below.refl _ _⟩ | exact Below.refl _ _
          (try go_simp)
          (refine Rl.textR_run ?_ (fun ρ => ?_) (fun ρ W hS hd => ?_) ?_; rotate_left; (focus go_simp); (focus (obtain ⟨hc, hf⟩ := bcell hS; go_simp; first | exact ⟨rfl, Below.refl _ _⟩ | (refine ⟨?_, Below.refl _ _⟩; rfl))); (try go_simp))
          refine Rl.textR_rel 129 (fun v w => TxtAt w v (bytesB h La)) rfl (fun v w w' hg hh => hh.below hg) (fun ρ => ?_) (fun ρ W hS hd => ?_) ?_
          · go_simp
          · go_simp
            refine (KPa.out W hS).mono ?_
            rintro e w1 ⟨u, rfl, ho, hb⟩
            exact ⟨_, rfl, ho.at, hb⟩
          (try go_simp)
          refine Rl.textR_run (.string sz) (fun ρ => ?_) (fun ρ W hS hd => ?_) ?_
          · go_simp
          · have hcv := txt_conv (hd (129, fun v w => TxtAt w v (bytesB h La)) (by first | exact List.mem_cons_self | (simp; done)) (show (129 : Nat) ∈ _ by decide)) W (Below.refl _ _)
            rw [← HSZ.out] at hcv
            simp only at hcv
            go_simp
            first | exact ⟨rfl, Below.refl _ _⟩ | exact Below.refl _ _
          (try go_simp)
          (refine Rl.textR_run ?_ (fun ρ => ?_) (fun ρ W hS hd => ?_) ?_; rotate_left; (focus go_simp); (focus (obtain ⟨hc, hf⟩ := bcell hS; go_simp; first | exact ⟨rfl, Below.refl _ _⟩ | (refine ⟨?_, Below.refl _ _⟩; rfl))); (try go_simp))
          (refine Rl.textR_run ?_ (fun ρ => ?_) (fun ρ W hS hd => ?_) ?_; rotate_left; (focus go_simp); (focus (obtain ⟨hc, hf⟩ := bcell hS; go_simp; first | exact ⟨rfl, Below.refl _ _⟩ | (refine ⟨?_, Below.refl _ _⟩; rfl))); (try go_simp))
          (refine Rl.textR_run ?_ (fun ρ => ?_) (fun ρ W hS hd => ?_) ?_; rotate_left; (focus go_simp); (focus (obtain ⟨hc, hf⟩ := bcell hS; go_simp; first | exact ⟨rfl, Below.refl _ _⟩ | (refine ⟨?_, Below.refl _ _⟩; rfl))); (try go_simp))
          (refine Rl.textR_run ?_ (fun ρ => ?_) (fun ρ W hS hd => ?_) ?_; rotate_left; (focus go_simp); (focus (obtain ⟨hc, hf⟩ := bcell hS; go_simp; first | exact ⟨rfl, Below.refl _ _⟩ | (refine ⟨?_, Below.refl _ _⟩; rfl))); (try go_simp))
          (refine Rl.textR_run ?_ (fun ρ => ?_) (fun ρ W hS hd => ?_) ?_; rotate_left; (focus go_simp); (focus (obtain ⟨hc, hf⟩ := bcell hS; go_simp; first | exact ⟨rfl, Below.refl _ _⟩ | (refine ⟨?_, Below.refl _ _⟩; rfl))); (try go_simp))
          (refine Rl.textR_run ?_ (fun ρ => ?_) (fun ρ W hS hd => ?_) ?_; rotate_left; (focus go_simp); (focus (obtain ⟨hc, hf⟩ := bcell hS; go_simp; first | exact ⟨rfl, Below.refl _ _⟩ | (refine ⟨?_, Below.refl _ _⟩; rfl))); (try go_simp))
          (refine Rl.textR_run ?_ (fun ρ => ?_) (fun ρ W hS hd => ?_) ?_; rotate_left; (focus go_simp); (focus (obtain ⟨hc, hf⟩ := bcell hS; go_simp; first | exact ⟨rfl, Below.refl _ _⟩ | (refine ⟨?_, Below.refl _ _⟩; rfl))); (try go_simp))
          (refine Rl.textR_run ?_ (fun ρ => ?_) (fun ρ W hS hd => ?_) ?_; rotate_left; (focus go_simp); (focus (obtain ⟨hc, hf⟩ := bcell hS; go_simp; first | exact ⟨rfl, Below.refl _ _⟩ | (refine ⟨?_, Below.refl _ _⟩; rfl))); (try go_simp))
          refine Rl.textR_rel 139 (fun v _ => ∃ ad c, v = .slice ad nd c) rfl (fun v w w' hg hh => hh) (fun ρ => ?_) (fun ρ W hS hd => ?_) ?_
          · go_simp
          · go_simp
            refine (KLd.out W hS).mono ?_
            rintro e w1 ⟨u, rfl, ho, hb⟩
            obtain ⟨ad1, c1, hv1⟩ := ho.form
            exact ⟨_, rfl, ⟨ad1, c1, by rw [hv1, HND2.out]⟩, hb⟩
          (try go_simp)
          refine Rl.textR_run (.int .i64 (nd : Int)) (fun ρ => ?_) (fun ρ W hS hd => ?_) ?_
          · go_simp
          · obtain ⟨ad1, c1, hv1⟩ := hd (139, fun v _ => ∃ ad c, v = .slice ad nd c) (by first | exact List.mem_cons_self | (simp; done)) (show (139 : Nat) ∈ _ by decide)
            simp only at hv1
            go_simp
            first | exact ⟨rfl, Below.refl _ _⟩ | exact Below.refl _ _
          (try go_simp)
          (refine Rl.textR_run ?_ (fun ρ => ?_) (fun ρ W hS hd => ?_) ?_; rotate_left; (focus go_simp); (focus (obtain ⟨hc, hf⟩ := bcell hS; go_simp; first | exact ⟨rfl, Below.refl _ _⟩ | (refine ⟨?_, Below.refl _ _⟩; rfl))); (try go_simp))
          refine Rl.textR_rel 142 (fun v _ => ∃ ad c, v = .slice ad na c) rfl (fun v w w' hg hh => hh) (fun ρ => ?_) (fun ρ W hS hd => ?_) ?_
          · go_simp
          · go_simp
            refine (KLa.out W hS).mono ?_
            rintro e w1 ⟨u, rfl, ho, hb⟩
            obtain ⟨ad1, c1, hv1⟩ := ho.form
            exact ⟨_, rfl, ⟨ad1, c1, by rw [hv1, HNA.out]⟩, hb⟩
          (try go_simp)
          refine Rl.textR_run (.int .i64 (na : Int)) (fun ρ => ?_) (fun ρ W hS hd => ?_) ?_
          · go_simp
          · obtain ⟨ad1, c1, hv1⟩ := hd (142, fun v _ => ∃ ad c, v = .slice ad na c) (by first | exact List.mem_cons_self | (simp; done)) (show (142 : Nat) ∈ _ by decide)
            simp only at hv1
            go_simp
            first | exact ⟨rfl, Below.refl _ _⟩ | exact Below.refl _ _
          (try go_simp)
          refine Rl.textR_run (.bool true) (fun ρ => ?_) (fun ρ W hS hd => ?_) ?_
          · go_simp
          · have hlz : ((na : Int) ≤ (nd : Int)) := by have := HLE.out; omega
            have hlz2 : na ≤ nd := HLE.out
            go_simp
            first | exact ⟨rfl, Below.refl _ _⟩ | exact ⟨by simp [hlz2], Below.refl _ _⟩ | exact Below.refl _ _ | exact ⟨by simpa using hlz2, Below.refl _ _⟩
          (try go_simp)
          (refine Rl.textR_run ?_ (fun ρ => ?_) (fun ρ W hS hd => ?_) ?_; rotate_left; (focus go_simp); (focus (obtain ⟨hc, hf⟩ := bcell hS; go_simp; first | exact ⟨rfl, Below.refl _ _⟩ | (refine ⟨?_, Below.refl _ _⟩; rfl))); (try go_simp))
          (refine Rl.textR_run ?_ (fun ρ => ?_) (fun ρ W hS hd => ?_) ?_; rotate_left; (focus go_simp); (focus (obtain ⟨hc, hf⟩ := bcell hS; go_simp; first | exact ⟨rfl, Below.refl _ _⟩ | (refine ⟨?_, Below.refl _ _⟩; rfl))); (try go_simp))
          (refine Rl.textR_run ?_ (fun ρ => ?_) (fun ρ W hS hd => ?_) ?_; rotate_left; (focus go_simp); (focus (obtain ⟨hc, hf⟩ := bcell hS; go_simp; first | exact ⟨rfl, Below.refl _ _⟩ | (refine ⟨?_, Below.refl _ _⟩; rfl))); (try go_simp))
          refine Rl.textR_rel 148 (fun v w => TxtAt w v (bytesB h La)) rfl (fun v w w' hg hh => hh.below hg) (fun ρ => ?_) (fun ρ W hS hd => ?_) ?_
          · go_simp
          · go_simp
            refine (KPa.out W hS).mono ?_
            rintro e w1 ⟨u, rfl, ho, hb⟩
            exact ⟨_, rfl, ho.at, hb⟩
          (try go_simp)
          refine Rl.textR_run (.string sz) (fun ρ => ?_) (fun ρ W hS hd => ?_) ?_
          · go_simp
          · have hcv := txt_conv (hd (148, fun v w => TxtAt w v (bytesB h La)) (by first | exact List.mem_cons_self | (simp; done)) (show (148 : Nat) ∈ _ by decide)) W (Below.refl _ _)
            rw [← HSZ.out] at hcv
            simp only at hcv
            go_simp
            first | exact ⟨rfl, Below.refl _ _⟩ | exact Below.refl _ _
          (try go_simp)
          (refine Rl.textR_run ?_ (fun ρ => ?_) (fun ρ W hS hd => ?_) ?_; rotate_left; (focus go_simp); (focus (obtain ⟨hc, hf⟩ := bcell hS; go_simp; first | exact ⟨rfl, Below.refl _ _⟩ | (refine ⟨?_, Below.refl _ _⟩; rfl))); (try go_simp))
          refine Rl.textR_rel 151 (fun v w => TxtAt w v (bytesB h La)) rfl (fun v w w' hg hh => hh.below hg) (fun ρ => ?_) (fun ρ W hS hd => ?_) ?_
          · go_simp
          · go_simp
            refine (KPc.out W hS).mono ?_
            rintro e w1 ⟨u, rfl, ho, hb⟩
            exact ⟨_, rfl, ho.at, hb⟩
          (try go_simp)
          refine Rl.textR_run (.string sz) (fun ρ => ?_) (fun ρ W hS hd => ?_) ?_
          · go_simp
          · have hcv := txt_conv (hd (151, fun v w => TxtAt w v (bytesB h La)) (by first | exact List.mem_cons_self | (simp; done)) (show (151 : Nat) ∈ _ by decide)) W (Below.refl _ _)
            rw [← HSZ.out] at hcv
            simp only at hcv
            go_simp
            first | exact ⟨rfl, Below.refl _ _⟩ | exact Below.refl _ _
          (try go_simp)
          (refine Rl.textR_run ?_ (fun ρ => ?_) (fun ρ W hS hd => ?_) ?_; rotate_left; (focus go_simp); (focus (obtain ⟨hc, hf⟩ := bcell hS; go_simp; first | exact ⟨rfl, Below.refl _ _⟩ | (refine ⟨?_, Below.refl _ _⟩; rfl))); (try go_simp))
          (refine Rl.textR_run ?_ (fun ρ => ?_) (fun ρ W hS hd => ?_) ?_; rotate_left; (focus go_simp); (focus (obtain ⟨hc, hf⟩ := bcell hS; go_simp; first | exact ⟨rfl, Below.refl _ _⟩ | (refine ⟨?_, Below.refl _ _⟩; rfl))); (try go_simp))
          (refine Rl.textR_run ?_ (fun ρ => ?_) (fun ρ W hS hd => ?_) ?_; rotate_left; (focus go_simp); (focus (obtain ⟨hc, hf⟩ := bcell hS; go_simp; first | exact ⟨rfl, Below.refl _ _⟩ | (refine ⟨?_, Below.refl _ _⟩; rfl))); (try go_simp))
          (refine Rl.textR_run ?_ (fun ρ => ?_) (fun ρ W hS hd => ?_) ?_; rotate_left; (focus go_simp); (focus (obtain ⟨hc, hf⟩ := bcell hS; go_simp; refine (bone W).mono ?_; rintro e w1 ⟨rfl, hb⟩; refine ⟨_, rfl, ?_, hb⟩; rfl)); (try go_simp))
          (refine Rl.textR_run ?_ (fun ρ => ?_) (fun ρ W hS hd => ?_) ?_; rotate_left; (focus go_simp); (focus (obtain ⟨hc, hf⟩ := bcell hS; go_simp; first | exact ⟨rfl, Below.refl _ _⟩ | (refine ⟨?_, Below.refl _ _⟩; rfl))); (try go_simp))
          (refine Rl.textR_run ?_ (fun ρ => ?_) (fun ρ W hS hd => ?_) ?_; rotate_left; (focus go_simp); (focus (obtain ⟨hc, hf⟩ := bcell hS; go_simp; first | exact ⟨rfl, Below.refl _ _⟩ | (refine ⟨?_, Below.refl _ _⟩; rfl))); (try go_simp))
          refine Rl.textR_nil ?_
          intro ρ wF hgF hkF
          dsimp only
          have HGF := Lib.hid (below_next HEE.out hgF)
          clear hgF hkF
          go_simp
          go_wp2_with fail
          go_ret
          exact ⟨rfl, HGF.out⟩
  · have KN := Lib.hid (fun X => bnew_bad h hok X)
    clear hok
    go_enter Tryz.func4, Tryz.ntmps4
    go_wp2_with fail
    refine (KN.out _).mono ?_
    rintro e w1 ⟨rfl, hw⟩
    obtain rfl := hw
    clear hm hw0
    go_wp2_with fail
    refine (KN.out _).mono ?_
    rintro e w2 ⟨rfl, hw⟩
    obtain rfl := hw
    go_wp2_with fail
    refine (bone _).mono ?_
    rintro e w3 ⟨rfl, b3⟩
    go_wp2_with fail
    go_ret
    exact ⟨rfl, b3⟩
end Go.Proofs.YtmpknjlfabpipaaGreatDoor
