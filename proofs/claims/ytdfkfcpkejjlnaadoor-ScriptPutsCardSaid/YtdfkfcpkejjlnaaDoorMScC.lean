/- The bytes of steps: one number, one text laid behind what there is (layer 28). Condition: the numbers fit. -/
import Derived.Test.YtdfkfcpkejjlnaaDoorMah
import Derived.Test.YtdfkfcpkejjlnaaDoorMad
import Derived.Test.YtdfkfcpkejjlnaaDoorMae
import Derived.Test.YtdfkfcpkejjlnaaDoorMApp8
import Derived.Test.YtdfkfcpkejjlnaaDoorMab
namespace Go.Proofs.YtdfkfcpkejjlnaaDoor
set_option linter.unusedVariables false
open Go.ChangeShapes Go.WideShapes Go.ChangeAt Go.RowKit Cs A8
attribute [local go_sem ↓] Go.wp_at_zero Go.wp_at_succ comesTo_value_eq comesTo_skip_eq comesTo_enter_eq

/-- the box of the bytes, and a row of its own behind it -/
structure LayY (B : Nat) (xs : List Int) (w : World) : Prop where
  ex : ∃ a n c, w.heap[B]? = some (.cells #[.slice a n c] 40 (0, 0)) ∧ OwnTxt w (B + 1) (.slice a n c) xs
/-- of the blocks ahead of B none has turned; of the others none but B and rows of bytes -/
structure FrY (B : Nat) (w w' : World) : Prop where
  below : Below B w w'
  rest : ∀ j cs T mk, w.heap[j]? = some (.cells cs T mk) → T ≠ 5 → j ≠ B → w'.heap[j]? = some (.cells cs T mk)
theorem FrY.refl (B : Nat) (w : World) : FrY B w w := ⟨Below.refl _ _, fun _ _ _ _ h _ _ => h⟩
theorem FrY.trans {B : Nat} {a b c : World} (h : FrY B a b) (k : FrY B b c) : FrY B a c := ⟨h.below.trans k.below, fun j cs T mk hj hT hB => k.rest j cs T mk (h.rest j cs T mk hj hT hB) hT hB⟩
theorem FrY.of {B : Nat} {w w' : World} (hB : B ≤ w.heap.size) (h : Below w.heap.size w w') : FrY B w w' := ⟨h.mono hB, fun j _ _ _ hj _ _ => (h.block j (Array.getElem?_eq_some_iff.1 hj).1).trans hj⟩
theorem FrY.grown {B : Nat} {w w' : World} {v : Value} {xs : List Int} (hB : B ≤ w.heap.size) (ho : OwnTxt w (B + 1) v xs) (h : w.grownBy w' v.ownBlock) : FrY B w w' := by
  refine ⟨Below.grown (Below.refl _ _) h hB (fun g hg => Nat.le_trans (Nat.le_succ B) (ho.blockGe hg)), fun j cs T mk hj hT _ => ?_⟩
  refine (h.block j (Array.getElem?_eq_some_iff.1 hj).1 ?_).trans hj
  intro e
  rcases ho.own.2 with ⟨rfl, _⟩ | ⟨g, cap, cur, rfl, _, hg, _⟩
  · cases e
  · simp only [Value.ownBlock, Option.some.injEq] at e
    subst e
    rw [hg] at hj
    injection hj with hj
    injection hj with _ hj _
    exact hT hj.symm
theorem FrY.set {B : Nat} {w w' : World} (h : FrY B w w') (hB : B ≤ w.heap.size) (v : Value) : FrY B w (w'.setCell ⟨B, 0, none⟩ v) := by
  refine ⟨((Fr.of_under h.below).set (F := fun j => B ≤ j) (D := B) (Nat.le_refl B) 0 v).below hB (fun j hj => hj), fun j cs T mk hj hT hn => ?_⟩
  have h1 := h.rest j cs T mk hj hT hn
  have h2 : (w'.setCell ⟨B, 0, none⟩ v).heap[j]? = w'.heap[j]? := ((Fr.refl (fun i => i = B) w').set (F := fun i => i = B) (D := B) rfl 0 v).block j (Array.getElem?_eq_some_iff.1 h1).1 hn
  exact h2.trans h1
theorem LayY.lt {B : Nat} {xs : List Int} {w : World} (h : LayY B xs w) : B < w.heap.size := by
  obtain ⟨a, n, c, hv, _⟩ := h.ex
  exact (Array.getElem?_eq_some_iff.1 hv).1
theorem LayY.below {B : Nat} {xs : List Int} {w w' : World} (h : LayY B xs w) (hb : Below w.heap.size w w') : LayY B xs w' := by
  obtain ⟨a, n, c, hv, ho⟩ := h.ex
  exact ⟨a, n, c, (hb.block B (Array.getElem?_eq_some_iff.1 hv).1).trans hv, ho.below hb⟩
set_option maxRecDepth 100000 in
set_option maxHeartbeats 2000000 in
theorem num_y {w : World} {B : Nat} {xs : List Int} (h : LayY B xs w) (hl : xs.length ≤ 200000) {x : Int} (hx : i64S x) :
    Calls Tryd.prog 21 #[.int .i64 x, .pointer (some ⟨B, 0, none⟩)] w fun e w' => e = .returned (.tuple #[]) ∧ LayY B (xs ++ putI x) w' ∧ FrY B w w' := by
  have hmx : Tryd.prog.follows .mixedOrders = true := by kernel_rfl
  obtain ⟨a, n, c, hv, ho⟩ := h.ex
  have HLT := Lib.hid h.lt
  have hyl : (putI x).length ≤ 100020 := by have := putI_len hx; omega
  have HYL := Lib.hid hyl
  have HL := Lib.hid hl
  clear h hyl hl
  have HW := Lib.hid (Below.drew (Below.refl w.heap.size w))
  have HV := Lib.hid ((HW.out.block B HLT.out).trans hv)
  have HO := Lib.hid (ho.below HW.out)
  have hBs : B + 1 ≤ w.drew.heap.size := Nat.le_trans HLT.out HW.out.size
  clear hv ho
  go_enter Tryd.func21, Tryd.ntmps21
  go_upto_region 0 with fail
  refine Ap.wp_region_K (S1 := fun _ => True) (S2 := fun X => X.cell? ⟨B, 0, none⟩ = some (.slice a n c)) (js := 4) hmx ?_
  change Ap.wpAnyK _ _ _ _ _ _ _ 5 _ _ w.drew
  generalize w.drew = wd at *
  have c0 : wd.cell? ⟨B, 0, none⟩ = some (.slice a n c) := cell_of_block (o := 0) HV.out rfl
  have KP := Lib.hid (putint_any (.inr ⟨rfl, none, 0, rfl, fun _ => rfl⟩) (by decide) hx : Calls Tryd.prog 22 _ wd _)
  refine Ap.wpAnyK_take2 (i := 0) (v := .slice a n c) rfl (by decide) (by decide +kernel) (by decide +kernel) (by decide +kernel) rfl (by decide +kernel) (by decide +kernel) (fun _ _ _ h => h) (.inl ⟨by first | rfl | (go_simp; done), fun X hX => by have hx := hX.2; clear hX; first | (go_simp; done) | (go_simp; rfl)⟩) ⟨trivial, c0⟩ ?_
  refine Ap.wpAnyK_take1 (i := 1) (v := .int .i64 x) rfl (by decide) (by decide +kernel) (by decide +kernel) (by decide +kernel) (fun _ _ _ h => h) (.inl ⟨by first | rfl | (go_simp; done), fun X hX => by first | (go_simp; done) | (go_simp; rfl)⟩) ⟨trivial, c0⟩ ?_
  refine Ap.anyK_call (i := 2) (by decide +kernel) rfl rfl (by first | (go_simp; done) | (go_simp; rfl)) KP.out ?_
  rintro e w2 ⟨u, rfl, hu, hb⟩
  rw [List.nil_append] at hu
  have hV2 := (hb.block B (Nat.lt_of_succ_le hBs)).trans HV.out
  have c2 : w2.cell? ⟨B, 0, none⟩ = some (.slice a n c) := cell_of_block (o := 0) hV2 rfl
  have hO2 := HO.out.below hb
  refine ⟨_, rfl, ⟨trivial, fun _ => c2⟩, ?_⟩
  have hB2 : B + 1 ≤ w2.heap.size := Nat.le_trans hBs hb.size
  obtain ⟨v', w3, hrun, ho3, hb3, hg3⟩ := run_app8 hO2 hu.at (by have := HL.out; have := HYL.out; omega) hB2 40
  have hV3 := (hb3.block B (Nat.lt_succ_self B)).trans hV2
  have c3 : w3.cell? ⟨B, 0, none⟩ = some (.slice a n c) := cell_of_block (o := 0) hV3 rfl
  refine Ap.anyK_val1 (i := 3) (v := v') (w' := w3) (by decide +kernel) rfl (by first | rfl | (go_simp; done)) (Ap.exec_app rfl rfl rfl hrun) ⟨trivial, c3⟩ ?_
  have e3 := free_of_block 0 hV3
  have hw := (wrote_refl hV3).set 0 v'
  obtain ⟨ua, uc, hue, _⟩ := ho3.shape
  have HU := Lib.hid (ho3.of_block (fun g hg => hw.rest g (by have := ho3.blockGe hg; omega)))
  have HTH := Lib.hid (show (w3.setCell ⟨B, 0, none⟩ v').heap[B]? = some (.cells #[v'] 40 (0, 0)) from hw.there)
  have HF := Lib.hid (((FrY.of (Nat.le_of_lt HLT.out) HW.out).trans ((FrY.of (Nat.le_trans (Nat.le_succ B) hBs) hb).trans (FrY.grown (Nat.le_trans (Nat.le_succ B) hB2) hO2 hg3))).set (Nat.le_of_lt HLT.out) v')
  subst hue
  generalize (xs ++ putI x).length = nn at *
  refine Ap.anyK_store (i := 4) (w' := w3.setCell ⟨B, 0, none⟩ (.slice ua nn uc)) (by decide +kernel) rfl rfl (by decide +kernel) (by first | (go_simp; done) | (go_simp; rfl)) trivial ?_
  refine Ap.wpAnyK_done (by decide +kernel) ?_ _
  clear HW HV HO c0 c2 c3 e3 hV2 hV3 hw hrun ho3 hb3 hg3 hO2 hu hb KP
  go_simp
  go_wp2_with fail
  go_end0
  exact ⟨rfl, ⟨_, _, _, HTH.out, HU.out⟩, HF.out⟩
set_option maxRecDepth 100000 in
set_option maxHeartbeats 2000000 in
theorem text_y {w : World} {B : Nat} {xs : List Int} (h : LayY B xs w) (hl : xs.length ≤ 200000) {s : ByteArray} (hs : s.size ≤ 100000) :
    Calls Tryd.prog 23 #[.string s, .pointer (some ⟨B, 0, none⟩)] w fun e w' => e = .returned (.tuple #[]) ∧ LayY B (xs ++ putTx (bytesOf s)) w' ∧ FrY B w w' := by
  have hmx : Tryd.prog.follows .mixedOrders = true := by kernel_rfl
  obtain ⟨a, n, c, hv, ho⟩ := h.ex
  have HLT := Lib.hid h.lt
  have hyl : (putTx (bytesOf s)).length ≤ 100020 := by unfold putTx; have := putI_len (v := ((bytesOf s).length : Int)) (by rw [bytesOf_length]; omega); rw [List.length_append, bytesOf_length] at *; omega
  have HYL := Lib.hid hyl
  have HL := Lib.hid hl
  clear h hyl hl
  have HW := Lib.hid (Below.drew (Below.refl w.heap.size w))
  have HV := Lib.hid ((HW.out.block B HLT.out).trans hv)
  have HO := Lib.hid (ho.below HW.out)
  have hBs : B + 1 ≤ w.drew.heap.size := Nat.le_trans HLT.out HW.out.size
  clear hv ho
  go_enter Tryd.func23, Tryd.ntmps23
  go_upto_region 0 with fail
  refine Ap.wp_region_K (S1 := fun _ => True) (S2 := fun X => X.cell? ⟨B, 0, none⟩ = some (.slice a n c)) (js := 4) hmx ?_
  change Ap.wpAnyK _ _ _ _ _ _ _ 5 _ _ w.drew
  generalize w.drew = wd at *
  have c0 : wd.cell? ⟨B, 0, none⟩ = some (.slice a n c) := cell_of_block (o := 0) HV.out rfl
  have KP := Lib.hid (puttext_any (.inr ⟨rfl, none, 0, rfl, fun _ => rfl⟩) (by decide) s (by omega) : Calls Tryd.prog 24 _ wd _)
  refine Ap.wpAnyK_take2 (i := 0) (v := .slice a n c) rfl (by decide) (by decide +kernel) (by decide +kernel) (by decide +kernel) rfl (by decide +kernel) (by decide +kernel) (fun _ _ _ h => h) (.inl ⟨by first | rfl | (go_simp; done), fun X hX => by have hx := hX.2; clear hX; first | (go_simp; done) | (go_simp; rfl)⟩) ⟨trivial, c0⟩ ?_
  refine Ap.wpAnyK_take1 (i := 1) (v := .string s) rfl (by decide) (by decide +kernel) (by decide +kernel) (by decide +kernel) (fun _ _ _ h => h) (.inl ⟨by first | rfl | (go_simp; done), fun X hX => by first | (go_simp; done) | (go_simp; rfl)⟩) ⟨trivial, c0⟩ ?_
  refine Ap.anyK_call (i := 2) (by decide +kernel) rfl rfl (by first | (go_simp; done) | (go_simp; rfl)) KP.out ?_
  rintro e w2 ⟨u, rfl, hu, hb⟩
  rw [List.nil_append] at hu
  have hV2 := (hb.block B (Nat.lt_of_succ_le hBs)).trans HV.out
  have c2 : w2.cell? ⟨B, 0, none⟩ = some (.slice a n c) := cell_of_block (o := 0) hV2 rfl
  have hO2 := HO.out.below hb
  refine ⟨_, rfl, ⟨trivial, fun _ => c2⟩, ?_⟩
  have hB2 : B + 1 ≤ w2.heap.size := Nat.le_trans hBs hb.size
  obtain ⟨v', w3, hrun, ho3, hb3, hg3⟩ := run_app8 hO2 hu.at (by have := HL.out; have := HYL.out; omega) hB2 40
  have hV3 := (hb3.block B (Nat.lt_succ_self B)).trans hV2
  have c3 : w3.cell? ⟨B, 0, none⟩ = some (.slice a n c) := cell_of_block (o := 0) hV3 rfl
  refine Ap.anyK_val1 (i := 3) (v := v') (w' := w3) (by decide +kernel) rfl (by first | rfl | (go_simp; done)) (Ap.exec_app rfl rfl rfl hrun) ⟨trivial, c3⟩ ?_
  have e3 := free_of_block 0 hV3
  have hw := (wrote_refl hV3).set 0 v'
  obtain ⟨ua, uc, hue, _⟩ := ho3.shape
  have HU := Lib.hid (ho3.of_block (fun g hg => hw.rest g (by have := ho3.blockGe hg; omega)))
  have HTH := Lib.hid (show (w3.setCell ⟨B, 0, none⟩ v').heap[B]? = some (.cells #[v'] 40 (0, 0)) from hw.there)
  have HF := Lib.hid (((FrY.of (Nat.le_of_lt HLT.out) HW.out).trans ((FrY.of (Nat.le_trans (Nat.le_succ B) hBs) hb).trans (FrY.grown (Nat.le_trans (Nat.le_succ B) hB2) hO2 hg3))).set (Nat.le_of_lt HLT.out) v')
  subst hue
  generalize (xs ++ putTx (bytesOf s)).length = nn at *
  refine Ap.anyK_store (i := 4) (w' := w3.setCell ⟨B, 0, none⟩ (.slice ua nn uc)) (by decide +kernel) rfl rfl (by decide +kernel) (by first | (go_simp; done) | (go_simp; rfl)) trivial ?_
  refine Ap.wpAnyK_done (by decide +kernel) ?_ _
  clear HW HV HO c0 c2 c3 e3 hV2 hV3 hw hrun ho3 hb3 hg3 hO2 hu hb KP
  go_simp
  go_wp2_with fail
  go_end0
  exact ⟨rfl, ⟨_, _, _, HTH.out, HU.out⟩, HF.out⟩
end Go.Proofs.YtdfkfcpkejjlnaaDoor
