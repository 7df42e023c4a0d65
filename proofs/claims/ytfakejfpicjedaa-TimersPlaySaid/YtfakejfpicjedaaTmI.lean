/- Another clock that is the same (layer 17). No condition. -/
import Derived.Test.YtfakejfpicjedaaTmH
import Derived.Test.YtfakejfpicjedaaShelfT
namespace Go.Proofs.Ytfakejfpicjedaa
set_option linter.unusedVariables false
open Go.ChangeShapes Go.WideShapes Go.ChangeAt Go.RowKit Tm
attribute [local go_sem ↓] Go.wp_at_zero Go.wp_at_succ comesTo_value_eq comesTo_skip_eq comesTo_enter_eq

theorem flA_one (A : List AL) : ∀ u ∈ flA A, u.oneCell' = true := by
  intro u hu
  unfold flA at hu
  obtain ⟨x, _, hx⟩ := List.mem_flatMap.1 hu
  simp at hx
  rcases hx with rfl | rfl <;> rfl
theorem RowA.rd {w : World} {A : List AL} {g cap : Nat} (h : RowA w (.slice (some ⟨g, 0, none⟩) A.length cap) A) : Ap.RdG w 2 (.slice (some ⟨g, 0, none⟩) A.length cap) A.length (flA A) := by
  refine ⟨⟨some ⟨g, 0, none⟩, cap, rfl, (fun e => by cases e), fun a ha j u hj => ?_, fun a ha _ => ?_⟩, flA_len A, flA_one A⟩
  · injection ha with ha
    subst ha
    rcases h.2 with ⟨hv, _⟩ | ⟨g', cap', cur, hv, _, hh, hc, hm, hs, ht⟩
    · injection hv with hv; cases hv
    · injection hv with hv1 hv2 hv3
      injection hv1 with hv1
      injection hv1 with hv1
      subst hv1
      have hp : (⟨g, 0, none⟩ : Addr).add j = ⟨g, j, none⟩ := by unfold Addr.add; split <;> simp_all
      rw [hp]
      refine cell_of_block hh ?_
      rw [← ht, List.getElem?_take] at hj
      split at hj
      · simpa using hj
      · cases hj
  · injection ha with ha
    subst ha
    exact Ap.own_lt h g rfl
set_option maxRecDepth 100000 in
theorem sl_clone {w : World} {v : Value} {A : List AL} (h : RowA w v A) (hl : A.length ≤ 4096) : Calls Try.prog 26 #[v] w fun e w' => ∃ v', e = .returned v' ∧ RowD w' w.heap.size v' A ∧ Below w.heap.size w w' := by
  have hq : ∀ (W : World) (a : Option Addr) (n c : Nat), Sem.run Try.prog (binOp .eql 39 (.slice a n c) (.slice none 0 0)) W = .ok (.bool a.isNone) W := fun W a n c => Lib.run_eql_slice_nil W 39 42 a n c 0 0 Try.underlying39
  rcases h.2 with ⟨rfl, h0⟩ | ⟨g, cap, cur, rfl, _⟩
  · have h1 : A = [] := List.eq_nil_of_length_eq_zero h0
    subst h1
    clear h h0
    go_enter Try.func26, Try.ntmps26
    go_wp2_with fail
    go_ret
    exact ⟨_, rfl, ⟨rfl, .inl ⟨rfl, rfl⟩⟩, Below.refl _ _⟩
  · have hb := below_alloc (Below.refl _ w) (.cells #[] 42)
    have ho := Ap.own_made w 42 (size := 2) (Nat.le_refl w.heap.size)
    obtain ⟨v', X, g0, g1, g2, g3⟩ := Ap.run_app eltAT 39 w.heap.size _ 0 [] ho _ A.length (flA A) ((RowA.rd h).mono hb) (by unfold maxLen; omega) (by omega) hb.size
    have HR := Lib.hid g0
    have HO := Lib.hid (show RowD X w.heap.size v' A from by unfold RowD; rw [Nat.zero_add, List.nil_append] at g1; exact g1)
    have HB := Lib.hid (hb.trans g3)
    obtain ⟨a2, c2, rfl⟩ := HO.out.form
    clear h hb ho g0 g1 g2 g3
    generalize A.length = n at *
    go_enter Try.func26, Try.ntmps26
    go_wp2_with (at_builtin; refine wpList_append_runT 39 39 rfl _ _ rfl _ _ rfl (by go_simp) (.slice a2 n c2) X HR.out ?_)
    go_ret
    exact ⟨_, rfl, HO.out, HB.out⟩
set_option maxRecDepth 100000 in
set_option maxHeartbeats 1000000 in
theorem ck_clone {w : World} {c Q m : Nat} {v : Value} {R : List AL} (h : Ck w c Q m v R) :
    Calls Try.prog 19 #[.pointer (some ⟨c, 0, none⟩)] w fun e w' => ∃ c' Q' m' v', e = .returned (.pointer (some ⟨c', 0, none⟩)) ∧ Ck w' c' Q' m' v' R ∧ Below w.heap.size w w' ∧ w.heap.size ≤ c' ∧ w.heap.size ≤ Q' ∧ w.heap.size ≤ m' ∧ ∀ b, v'.ownBlock = some b → w.heap.size ≤ b := by
  have hmx : Try.prog.follows .mixedOrders = true := by kernel_rfl
  have K0 := Lib.hid (ck_there h)
  have HK := Lib.hid h
  have HSRT := Lib.hid h.srt
  clear h
  go_enter Try.func19, Try.ntmps19
  go_wp2_with fail
  refine K0.out.mono ?_
  rintro e w1 ⟨rfl, hw⟩
  obtain rfl := hw
  clear K0
  go_upto_region 3 with fail
  obtain ⟨A, pm, hT, hC, hH, hp⟩ := HK.out.q
  obtain ⟨ad, cp, rfl⟩ := hT.row.form
  have HC := Lib.hid hC
  have HH := Lib.hid hH
  have HPM := Lib.hid hp
  have HD := Lib.hid (show Below w1.heap.size w1 w1.drew from (Below.refl _ _).drew)
  have HB := Lib.hid (show w1.drew.heap[c]? = some (.cells #[.pointer (some ⟨Q, 0, none⟩)] 54 (0, 0)) from HK.out.blk)
  have HT := Lib.hid (hT.below HD.out)
  have HC1 := Lib.hid HK.out.lt.1
  have HSZ := Lib.hid (show w1.drew.heap.size = w1.heap.size from rfl)
  refine wp_region_held (S := fun X => X.cell? ⟨c, 0, none⟩ = some (.pointer (some ⟨Q, 0, none⟩)) ∧ X.cell? ⟨Q, 0, none⟩ = some (.slice ad A.length cp) ∧ X.cell? ⟨Q, 1, none⟩ = some (.map (some m))) hmx ?_
  change wpAnyH _ _ _ _ _ 21 _ _ w1.drew
  clear hT hC hH hp HK
  generalize w1.drew = wd at *
  obtain ⟨n, hn⟩ : ∃ n, n = A.length := ⟨_, rfl⟩
  have hS : wd.cell? ⟨c, 0, none⟩ = some (.pointer (some ⟨Q, 0, none⟩)) ∧ wd.cell? ⟨Q, 0, none⟩ = some (.slice ad A.length cp) ∧ wd.cell? ⟨Q, 1, none⟩ = some (.map (some m)) := ⟨cell_of_block (o := 0) HB.out rfl, cell_of_block (o := 0) HT.out.blk rfl, cell_of_block (o := 1) HT.out.blk rfl⟩
  (refine wpAnyH_take (i := 0) (v := .pointer (some ⟨c, 0, none⟩)) rfl (by decide +kernel) (by decide +kernel) (by decide +kernel) (fun _ _ _ h => h) (.inl ⟨by first | rfl | (go_simp; done), fun X hX => by obtain ⟨hx0, hx1, hx2⟩ := hX; first | (go_simp; done) | (go_simp; rfl)⟩) hS ?_)
  (refine wpAnyH_take (i := 1) (v := .pointer (some ⟨c, 0, none⟩)) rfl (by decide +kernel) (by decide +kernel) (by decide +kernel) (fun _ _ _ h => h) (.inl ⟨by first | rfl | (go_simp; done), fun X hX => by obtain ⟨hx0, hx1, hx2⟩ := hX; first | (go_simp; done) | (go_simp; rfl)⟩) hS ?_)
  (refine wpAnyH_take (i := 2) (v := .pointer (some ⟨c, 0, none⟩)) rfl (by decide +kernel) (by decide +kernel) (by decide +kernel) (fun _ _ _ h => h) (.inl ⟨by first | rfl | (go_simp; done), fun X hX => by obtain ⟨hx0, hx1, hx2⟩ := hX; first | (go_simp; done) | (go_simp; rfl)⟩) hS ?_)
  (refine wpAnyH_take (i := 3) (v := .pointer (some ⟨Q, 0, none⟩)) rfl (by decide +kernel) (by decide +kernel) (by decide +kernel) (fun _ _ _ h => h) (.inl ⟨by first | rfl | (go_simp; done), fun X hX => by obtain ⟨hx0, hx1, hx2⟩ := hX; first | (go_simp; done) | (go_simp; rfl)⟩) hS ?_)
  (refine wpAnyH_take (i := 4) (v := .pointer (some ⟨Q, 0, none⟩)) rfl (by decide +kernel) (by decide +kernel) (by decide +kernel) (fun _ _ _ h => h) (.inl ⟨by first | rfl | (go_simp; done), fun X hX => by obtain ⟨hx0, hx1, hx2⟩ := hX; first | (go_simp; done) | (go_simp; rfl)⟩) hS ?_)
  (refine wpAnyH_take (i := 5) (v := .pointer (some ⟨Q, 0, none⟩)) rfl (by decide +kernel) (by decide +kernel) (by decide +kernel) (fun _ _ _ h => h) (.inl ⟨by first | rfl | (go_simp; done), fun X hX => by obtain ⟨hx0, hx1, hx2⟩ := hX; first | (go_simp; done) | (go_simp; rfl)⟩) hS ?_)
  (refine wpAnyH_take (i := 6) (v := .slice ad A.length cp) rfl (by decide +kernel) (by decide +kernel) (by decide +kernel) (fun _ _ _ h => h) (.inl ⟨by first | rfl | (go_simp; done), fun X hX => by obtain ⟨hx0, hx1, hx2⟩ := hX; first | (go_simp; done) | (go_simp; rfl)⟩) hS ?_)
  (refine wpAnyH_take (i := 8) (v := .pointer (some ⟨c, 0, none⟩)) rfl (by decide +kernel) (by decide +kernel) (by decide +kernel) (fun _ _ _ h => h) (.inl ⟨by first | rfl | (go_simp; done), fun X hX => by obtain ⟨hx0, hx1, hx2⟩ := hX; first | (go_simp; done) | (go_simp; rfl)⟩) hS ?_)
  (refine wpAnyH_take (i := 9) (v := .pointer (some ⟨c, 0, none⟩)) rfl (by decide +kernel) (by decide +kernel) (by decide +kernel) (fun _ _ _ h => h) (.inl ⟨by first | rfl | (go_simp; done), fun X hX => by obtain ⟨hx0, hx1, hx2⟩ := hX; first | (go_simp; done) | (go_simp; rfl)⟩) hS ?_)
  (refine wpAnyH_take (i := 10) (v := .pointer (some ⟨c, 0, none⟩)) rfl (by decide +kernel) (by decide +kernel) (by decide +kernel) (fun _ _ _ h => h) (.inl ⟨by first | rfl | (go_simp; done), fun X hX => by obtain ⟨hx0, hx1, hx2⟩ := hX; first | (go_simp; done) | (go_simp; rfl)⟩) hS ?_)
  (refine wpAnyH_take (i := 11) (v := .pointer (some ⟨Q, 0, none⟩)) rfl (by decide +kernel) (by decide +kernel) (by decide +kernel) (fun _ _ _ h => h) (.inl ⟨by first | rfl | (go_simp; done), fun X hX => by obtain ⟨hx0, hx1, hx2⟩ := hX; first | (go_simp; done) | (go_simp; rfl)⟩) hS ?_)
  (refine wpAnyH_take (i := 12) (v := .pointer (some ⟨Q, 0, none⟩)) rfl (by decide +kernel) (by decide +kernel) (by decide +kernel) (fun _ _ _ h => h) (.inl ⟨by first | rfl | (go_simp; done), fun X hX => by obtain ⟨hx0, hx1, hx2⟩ := hX; first | (go_simp; done) | (go_simp; rfl)⟩) hS ?_)
  (refine wpAnyH_take (i := 13) (v := .pointer (some ⟨Q, 1, none⟩)) rfl (by decide +kernel) (by decide +kernel) (by decide +kernel) (fun _ _ _ h => h) (.inl ⟨by first | rfl | (go_simp; done), fun X hX => by obtain ⟨hx0, hx1, hx2⟩ := hX; first | (go_simp; done) | (go_simp; rfl)⟩) hS ?_)
  (refine wpAnyH_take (i := 14) (v := .map (some m)) rfl (by decide +kernel) (by decide +kernel) (by decide +kernel) (fun _ _ _ h => h) (.inl ⟨by first | rfl | (go_simp; done), fun X hX => by obtain ⟨hx0, hx1, hx2⟩ := hX; first | (go_simp; done) | (go_simp; rfl)⟩) hS ?_)
  have KS := sl_clone HT.out.row (by have := HC.out.len; omega)
  refine anyH_call (i := 7) (by decide +kernel) rfl (by first | rfl | (go_simp; done)) (by go_simp) (KS) ?_
  rintro e w2 ⟨v2, rfl, hr, hb⟩
  have HR2 := Lib.hid hr
  have HT2 := Lib.hid (HT.out.below hb)
  have HB2 := Lib.hid ((hb.block c (by have := HC1.out; have := HSZ.out; omega)).trans HB.out)
  have HE2 := Lib.hid (below_next HD.out hb)
  have hS2 : w2.cell? ⟨c, 0, none⟩ = some (.pointer (some ⟨Q, 0, none⟩)) ∧ w2.cell? ⟨Q, 0, none⟩ = some (.slice ad A.length cp) ∧ w2.cell? ⟨Q, 1, none⟩ = some (.map (some m)) := ⟨cell_of_block (o := 0) HB2.out rfl, cell_of_block (o := 0) HT2.out.blk rfl, cell_of_block (o := 1) HT2.out.blk rfl⟩
  have HL2 := Lib.hid hb.size
  refine ⟨_, rfl, hS2, ?_⟩
  clear hS hr hb KS HT HB
  obtain ⟨D, hown, hsz, hfc⟩ := HT2.out.map.ex
  have HFC := Lib.hid hfc
  have HSD := Lib.hid hsz
  have KC := AnyW.maps_Clone_owns Try.cloneT 3 RT m A.length D w2 hown
  change Calls Try.prog 27 _ _ _ at KC
  refine anyH_call (i := 15) (by decide +kernel) rfl (by first | rfl | (go_simp; done)) (by go_simp) (KC) ?_
  rintro e w3 ⟨rfl, ho, _, hb⟩
  have HM3 := Lib.hid (show PM w3 w2.heap.size pm A.length from ⟨⟨D, ho, HSD.out, HFC.out⟩, HT2.out.map.lt⟩)
  have HR3 := Lib.hid (show RowD w3 wd.heap.size v2 A from Ap.own_below HR2.out hb)
  have HT3 := Lib.hid (HT2.out.below hb)
  have HB3 := Lib.hid ((hb.block c (by have := HC1.out; have := HSZ.out; have := HL2.out; omega)).trans HB2.out)
  have HE3 := Lib.hid (below_next HE2.out hb)
  have HL3 := Lib.hid (show w2.heap.size < w3.heap.size from ho.lt)
  have hS3 : w3.cell? ⟨c, 0, none⟩ = some (.pointer (some ⟨Q, 0, none⟩)) ∧ w3.cell? ⟨Q, 0, none⟩ = some (.slice ad A.length cp) ∧ w3.cell? ⟨Q, 1, none⟩ = some (.map (some m)) := ⟨cell_of_block (o := 0) HB3.out rfl, cell_of_block (o := 0) HT3.out.blk rfl, cell_of_block (o := 1) HT3.out.blk rfl⟩
  refine ⟨_, rfl, hS3, ?_⟩
  clear hS2 ho hb KC hown hsz hfc HT2 HB2 HE2 HR2
  obtain ⟨mm, hmm⟩ : ∃ mm, mm = w2.heap.size := ⟨_, rfl⟩
  rw [← hmm] at HM3 HL3 HL2 ⊢
  clear hmm
  obtain ⟨av, cv, hv2⟩ := HR3.out.form
  subst hv2
  (refine wpAnyH_take (i := 16) (v := .agg #[.slice av A.length cv, .map (some mm)]) rfl (by decide +kernel) (by decide +kernel) (by decide +kernel) (fun _ _ _ h => h) (.inl ⟨by first | rfl | (go_simp; done), fun X hX => by obtain ⟨hx0, hx1, hx2⟩ := hX; first | (go_simp; done) | (go_simp; rfl)⟩) hS3 ?_)
  refine anyH_one (i := 17) (by decide +kernel) ?_
  refine opH_val (i := 17) (v := .pointer (some ⟨w3.heap.size, 0, none⟩)) (w' := w3.alloc (.cells #[.slice av A.length cv, .map (some mm)] 60)) rfl (by first | rfl | (go_simp; done)) (by first | (go_simp; done) | (go_simp; rfl)) ?_
  have hA := below_alloc (Below.refl _ w3) (.cells #[.slice av A.length cv, .map (some mm)] 60)
  have Nw4 := Lib.hid (World.alloc_heap_new w3 (.cells #[.slice av A.length cv, .map (some mm)] 60))
  have Aw4 := Lib.hid hA
  have Tw4 := Lib.hid (HT3.out.below hA)
  have Bw4 := Lib.hid ((hA.block c (Array.getElem?_eq_some_iff.1 HB3.out).1).trans HB3.out)
  have Ew4 := Lib.hid (below_next HE3.out hA)
  have Lw4 := Lib.hid (Array.getElem?_eq_some_iff.1 Nw4.out).1
  have hS4 : (w3.alloc (.cells #[.slice av A.length cv, .map (some mm)] 60)).cell? ⟨c, 0, none⟩ = some (.pointer (some ⟨Q, 0, none⟩)) ∧ (w3.alloc (.cells #[.slice av A.length cv, .map (some mm)] 60)).cell? ⟨Q, 0, none⟩ = some (.slice ad A.length cp) ∧ (w3.alloc (.cells #[.slice av A.length cv, .map (some mm)] 60)).cell? ⟨Q, 1, none⟩ = some (.map (some m)) := ⟨cell_of_block (o := 0) Bw4.out rfl, cell_of_block (o := 0) Tw4.out.blk rfl, cell_of_block (o := 1) Tw4.out.blk rfl⟩
  refine ⟨hS4, ?_⟩
  clear hS3 hA
  generalize w3.alloc (.cells #[.slice av A.length cv, .map (some mm)] 60) = w4 at *
  obtain ⟨q, hqq⟩ : ∃ x, x = w3.heap.size := ⟨_, rfl⟩
  rw [← hqq] at Nw4 Lw4 ⊢
  (refine wpAnyH_take (i := 18) (v := .agg #[.pointer (some ⟨q, 0, none⟩)]) rfl (by decide +kernel) (by decide +kernel) (by decide +kernel) (fun _ _ _ h => h) (.inl ⟨by first | rfl | (go_simp; done), fun X hX => by obtain ⟨hx0, hx1, hx2⟩ := hX; first | (go_simp; done) | (go_simp; rfl)⟩) hS4 ?_)
  refine anyH_one (i := 19) (by decide +kernel) ?_
  refine opH_val (i := 19) (v := .pointer (some ⟨w4.heap.size, 0, none⟩)) (w' := w4.alloc (.cells #[.pointer (some ⟨q, 0, none⟩)] 54)) rfl (by first | rfl | (go_simp; done)) (by first | (go_simp; done) | (go_simp; rfl)) ?_
  have hA := below_alloc (Below.refl _ w4) (.cells #[.pointer (some ⟨q, 0, none⟩)] 54)
  have Nw5 := Lib.hid (World.alloc_heap_new w4 (.cells #[.pointer (some ⟨q, 0, none⟩)] 54))
  have Aw5 := Lib.hid hA
  have Tw5 := Lib.hid (Tw4.out.below hA)
  have Bw5 := Lib.hid ((hA.block c (Array.getElem?_eq_some_iff.1 Bw4.out).1).trans Bw4.out)
  have Ew5 := Lib.hid (below_next Ew4.out hA)
  have Lw5 := Lib.hid (Array.getElem?_eq_some_iff.1 Nw5.out).1
  have hS5 : (w4.alloc (.cells #[.pointer (some ⟨q, 0, none⟩)] 54)).cell? ⟨c, 0, none⟩ = some (.pointer (some ⟨Q, 0, none⟩)) ∧ (w4.alloc (.cells #[.pointer (some ⟨q, 0, none⟩)] 54)).cell? ⟨Q, 0, none⟩ = some (.slice ad A.length cp) ∧ (w4.alloc (.cells #[.pointer (some ⟨q, 0, none⟩)] 54)).cell? ⟨Q, 1, none⟩ = some (.map (some m)) := ⟨cell_of_block (o := 0) Bw5.out rfl, cell_of_block (o := 0) Tw5.out.blk rfl, cell_of_block (o := 1) Tw5.out.blk rfl⟩
  refine ⟨hS5, ?_⟩
  clear hS4 hA
  generalize w4.alloc (.cells #[.pointer (some ⟨q, 0, none⟩)] 54) = w5 at *
  obtain ⟨b, hqb⟩ : ∃ x, x = w4.heap.size := ⟨_, rfl⟩
  rw [← hqb] at Nw5 Lw5 ⊢
  (refine wpAnyH_take (i := 20) (v := .pointer (some ⟨b, 0, none⟩)) rfl (by decide +kernel) (by decide +kernel) (by decide +kernel) (fun _ _ _ h => h) (.inl ⟨by first | rfl | (go_simp; done), fun X hX => by obtain ⟨hx0, hx1, hx2⟩ := hX; first | (go_simp; done) | (go_simp; rfl)⟩) hS5 ?_)
  refine wpAnyH_done (by decide +kernel) ?_ _
  clear hS5
  go_simp
  go_wp2_with fail
  go_ret
  have l3 := HL3.out
  have l4 := Aw4.out.size
  have l5 := Aw5.out.size
  have l2 := HL2.out
  have s1 := HSZ.out
  have hvb := Ap.own_blk HR3.out
  have hvl := Ap.own_lt HR3.out
  have hT5 : Tq w5 q mm (.slice av A.length cv) A pm A.length :=
    ⟨(Aw5.out.block q Lw4.out).trans Nw4.out, by
      have h1 : RowD w5 wd.heap.size (.slice av A.length cv) A := Ap.own_below (Ap.own_below HR3.out Aw4.out) Aw5.out
      refine ⟨h1.1, ?_⟩
      rcases h1.2 with h2 | ⟨g, cap, cur, a1, _, a2⟩
      · exact .inl h2
      · exact .inr ⟨g, cap, cur, a1, Nat.zero_le _, a2⟩, (HM3.out.keep (Aw4.out.block mm l3)).keep (Aw5.out.block mm (by omega))⟩
  exact ⟨b, q, mm, _, (by rw [hqb]; rfl), ⟨Nw5.out, ⟨A, pm, hT5, HC.out, HH.out, HPM.out⟩, HSRT.out⟩, Ew5.out, by omega, by omega, by omega, fun g hg => by have := hvb g hg; omega⟩
end Go.Proofs.Ytfakejfpicjedaa
