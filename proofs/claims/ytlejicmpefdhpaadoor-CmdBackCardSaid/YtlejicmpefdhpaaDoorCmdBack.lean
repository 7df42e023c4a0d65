/- The law CmdBack of layer 22, walked. Its conditions: errors.errorType and cmd.names read as the program's text lays them. -/
import Derived.Test.YtlejicmpefdhpaaDoorCmdAlters
namespace Go.Proofs.YtlejicmpefdhpaaDoor
set_option linter.unusedVariables false
open Go.ChangeShapes Go.WideShapes Go.ChangeAt Go.RowKit
attribute [local go_sem ↓] Go.wp_at_zero Go.wp_at_succ comesTo_value_eq comesTo_skip_eq comesTo_enter_eq Rl.comesToR_value_eq Rl.comesToR_skip_eq Rl.comesToR_enter_eq

theorem back_longC (z : Array Value) (la : Option Addr) (ll lcap : Nat) (h : ¬ ll ≤ 500) (w : World) : Calls Tryd.prog 5 #[.agg z, .slice la ll lcap] w fun e w' => e = .returned (.bool true) ∧ Below w.heap.size w w' := by
  have hd : decide ((ll : Int) > 500) = true := decide_eq_true (by omega)
  go_enter Tryd.func5, Tryd.ntmps5
  go_wp2
  go_ret
  exact ⟨rfl, below_alloc (Below.refl _ _) _⟩
/-- what a read of a command's own bytes tells -/
def ownG (a : List Int) : List Int := if rightL a = true then cleanL a else List.replicate 12 0
theorem gotC_cmd {bs : List Int} (hb : ∀ x ∈ bs, 0 ≤ x ∧ x ≤ 255) : Cmd12 (gotC bs) := by
  unfold gotC
  split
  · exact (readB_back hb (by assumption)).2.1
  · exact zeros_cmd
theorem own_read {a : List Int} (h : Cmd12 a) : gotC (putC a) = ownG a ∧ codeC (putC a) = if rightL a = true then 0 else 11 := by
  unfold gotC codeC ownG
  rw [readB_put h, ysC_put h]
  exact ⟨rfl, rfl⟩
theorem back_text {bs : List Int} (hb : ∀ x ∈ bs, 0 ≤ x ∧ x ≤ 255) (h : readB bs = true) : putC (gotC bs) = bs := by
  rw [gotC_yes h]
  exact (readB_back hb h).1
set_option maxRecDepth 100000 in
set_option maxHeartbeats 2000000 in
theorem back_yy {a : List Int} (ha : Cmd12 a) (hri : rightL a = true) (la : Option Addr) (ll lcap : Nat) (bs : List Int) (w : World) (ht : TxtAt w (.slice la ll lcap) bs) (hl : ll ≤ 500) (hrd : readB bs = true) (hE : ErrAt w) (hN : CmdNamesAt w) : Calls Tryd.prog 5 #[.agg (cmdC a).toArray, .slice la ll lcap] w fun e w' => e = .returned (.bool true) ∧ Below w.heap.size w w' := by
  have hmx : Tryd.prog.follows .mixedOrders = true := by kernel_rfl
  have hd : decide ((ll : Int) > 500) = false := decide_eq_false (by omega)
  have hbl : bs.length = ll := ht.form.1.symm
  have hby : ∀ x ∈ bs, 0 ≤ x ∧ x ≤ 255 := by
    intro x hx
    rcases ht with ⟨b, o, c, _, _, hr⟩ | ⟨rfl, _⟩
    · obtain ⟨k, hk, rfl⟩ := List.mem_iff_getElem.1 hx
      have h1 := hr.lo k hk
      have h2 := hr.hi k hk
      simp [List.getD, List.getElem?_eq_getElem hk] at h1 h2
      exact ⟨h1, h2⟩
    · cases hx
  have hca := cleanL_cmd ha
  have hgb := gotC_cmd hby
  have hgo : Cmd12 (ownG a) := by unfold ownG; rw [hri]; exact hca
  have hog : gotC (putC a) = ownG a ∧ codeC (putC a) = 0 := by have := own_read ha; rw [hri] at this; exact this
  have hi24 : ∀ {l : List Value}, l.length = 12 → (Tryd.prog.info? 24).map (·.size) = some l.length := fun h => by rw [h]; kernel_rfl
  have HE := Lib.hid hE
  have HN := Lib.hid hN
  have HT := Lib.hid ht
  have KCA := Lib.hid (fun W => clean_c ha W)
  have KCC := Lib.hid (fun W => clean_c hca W)
  rw [clean_clean] at KCC
  have KPA := Lib.hid (fun W => put_c ha W)
  have KPG := Lib.hid (fun W => put_c hgb W)
  have KRA := Lib.hid (fun W => right_c ha W)
  rw [hri] at KRA
  have EAA := Lib.hid (fun W => eqinC hca hca W)
  rw [show (cleanL a == cleanL a) = true from beq_self_eq_true _] at EAA
  have HOG := Lib.hid hog
  have HPM := Lib.hid (readB_more ha)
  have HPC := Lib.hid (readB_cut ha)
  have HPL := Lib.hid (putC_le ha)
  have hpp := putC_pos a
  have hpl := putC_le ha
  have HPP := Lib.hid hpp
  have HCD := Lib.hid (show codeC bs = 0 from codeC_yes hrd)
  have HBL := Lib.hid (show bs.length ≤ 1099511627775 by omega)
  have HBT := Lib.hid (back_text hby hrd)
  rw [HBT.out] at KPG
  have HI1 := Lib.hid (hi24 (cmdC_len ha.len))
  have HIC := Lib.hid (hi24 (cmdC_len hca.len))
  have HIG := Lib.hid (hi24 (cmdC_len hgb.len))
  have HIO := Lib.hid (hi24 (cmdC_len hgo.len))
  have HIZ := Lib.hid (hi24 (cmdC_len zeros_cmd.len))
  have HLG := Lib.hid (cmdC_len hgb.len)
  have HLO := Lib.hid (cmdC_len hgo.len)
  have HLZ := Lib.hid (cmdC_len zeros_cmd.len)
  have HOG1 := Lib.hid (cmdC_one (gotC bs))
  have HOO := Lib.hid (cmdC_one (ownG a))
  have HOZ := Lib.hid (cmdC_one (List.replicate 12 0))
  have HOC := Lib.hid (show ownG a = cleanL a by unfold ownG; rw [hri]; rfl)
  rw [HOC.out] at HOO HIO HLO HOG
  generalize hp1 : putC a = pa at *
  generalize hl1 : cmdC a = l1 at *
  generalize hlg : cmdC (gotC bs) = lg at *
  generalize hlz : cmdC (List.replicate 12 0) = lz at *
  generalize hlc : cmdC (cleanL a) = lc at *
  have HLG0 := Lib.hid hlg
  have HLC0 := Lib.hid hlc
  have HLZ0 := Lib.hid hlz
  clear hca hgb hgo hog hi24 hE hN ht hp1 hl1 hlc hlg hlz ha hri hrd hby hbl
  go_enter Tryd.func5, Tryd.ntmps5
  go_upto_region 1 with fail
  have hA1 := below_alloc (Below.refl _ w) (.cells l1.toArray 24)
  have hN1 := World.alloc_heap_new w (.cells l1.toArray 24)
  have hs1 : (w.alloc (.cells l1.toArray 24)).heap.size = w.heap.size + 1 := by simp
  generalize w.alloc (.cells l1.toArray 24) = U at *
  have HB := Lib.hid hA1
  have HM1 := Lib.hid hN1
  have HS1 := Lib.hid hs1
  clear hA1 hN1 hs1
  go_upto_region 3 with fail
  refine wp_region_lit ?_
  refine wpList_load_all rfl 24 _ rfl w.heap.size l1 _ (by go_simp) HM1.out Tryd.underlying24 rfl HI1.out ?_
  refine wpList_enter rfl (by go_simp) (KPA.out U) ?_
  rintro e w2 ⟨u, rfl, ho, hb2⟩
  refine ⟨_, rfl, ?_⟩
  obtain ⟨g, cp, rfl, hcp, hcm⟩ : ∃ g c, u = .slice (some ⟨g, 0, none⟩) pa.length c ∧ pa.length ≤ c ∧ c ≤ maxLen := by
    rcases ho.form with ⟨_, h0⟩ | h
    · rw [h0] at hpp; simp at hpp
    · exact h
  have HU := Lib.hid ho
  have HB2 := Lib.hid (below_next HB.out hb2)
  have HM2 := Lib.hid ((hb2.block w.heap.size (by have := HS1.out; omega)).trans HM1.out)
  have HS2 := Lib.hid (show U.heap.size ≤ w2.heap.size from hb2.size)
  have HCP := Lib.hid hcp
  clear ho hb2 hcm hcp
  generalize hpn : pa.length = N at *
  have HPN := Lib.hid hpn
  clear hpn
  have hd12 : decide ((N : Int) < 12) = false := decide_eq_false (by omega)
  have KR := Lib.hid (read_c w2 HU.out.at (by have := HPN.out; have := HPL.out; omega) (HE.out.below HB2.out))
  rw [HOG.out.1, HOG.out.2, HLC0.out] at KR
  go_upto_region 6 with fail
  refine wp_region_lit ?_
  refine wpList_yield (w' := w2) (v := .slice (some ⟨g, 0, none⟩) N cp) rfl (by go_simp) ?_
  refine wpList_enter rfl (by go_simp) KR.out ?_
  rintro e w3 ⟨rfl, hb3⟩
  refine ⟨_, rfl, ?_⟩
  refine wpList_yield (w' := w3) (v := .tuple #[.agg lc.toArray, .int .i64 0]) rfl (by go_simp) ?_
  refine wpList_yield (w' := w3) (v := .agg lc.toArray) rfl (by go_simp) ?_
  refine wpList_yield (w' := w3) (v := .int .i64 0) rfl (by go_simp) ?_
  refine wpList_yield (w' := w3.alloc (.cells #[.int .i64 0, .int .i64 0, .int .i64 0, .int .i64 0, .int .i64 0, .int .i64 0, .int .i64 0, .int .i64 0, .int .i64 0, .int .i64 0, .int .i64 0, .bool false] 24)) (v := .pointer (some ⟨w3.heap.size, 0, none⟩)) rfl (by go_simp) ?_
  refine wpList_store_all rfl 24 _ _ rfl w3.heap.size (cs := #[.int .i64 0, .int .i64 0, .int .i64 0, .int .i64 0, .int .i64 0, .int .i64 0, .int .i64 0, .int .i64 0, .int .i64 0, .int .i64 0, .int .i64 0, .bool false]) (T := 24) lc (by go_simp) (by go_simp) (World.alloc_heap_new _ _) (by rw [HLO.out]; rfl) HIO.out HOO.out ?_
  intro w4 hw4
  have hb4 := below_next hb3 (hw4.below (below_alloc (Below.refl _ w3) _) (Nat.le_refl _))
  have HB4 := Lib.hid (below_next HB2.out hb4)
  have HM4 := Lib.hid ((hb4.block w.heap.size (Array.getElem?_eq_some_iff.1 HM2.out).1).trans HM2.out)
  have HU4 := Lib.hid (HU.out.below hb4)
  have HX4 := Lib.hid hw4.there
  clear hw4 hb3 hb4 KR
  generalize w3.heap.size = p at *
  have HL1 := Lib.hid (fun (W : World) (h : Below w4.heap.size w4 W) => (h.block _ (Array.getElem?_eq_some_iff.1 HM4.out).1).trans HM4.out)
  have HLX := Lib.hid (fun (W : World) (h : Below w4.heap.size w4 W) => (h.block _ (Array.getElem?_eq_some_iff.1 HX4.out).1).trans HX4.out)
  go_upto_region 7 with fail
  refine Rl.wp_region_rel (fun a b => Below a.heap.size a b) w4 (fun a b c h h' => below_next h h') (fun a => Below.refl _ _) hmx (by kernel_rfl) (Below.refl _ _).drew ?_
  iterate 2 (refine Rl.textR_run ?_ (fun ρ => ?_) (fun ρ W hS hd => ?_) ?_; rotate_left; (focus go_simp); (focus (obtain ⟨hc, hf⟩ := bcell hS; go_simp; first | exact ⟨rfl, Below.refl _ _⟩ | (refine ⟨?_, Below.refl _ _⟩; rfl))); (try go_simp))
  refine Rl.textR_run (.agg l1.toArray) (fun ρ => ?_) (fun ρ W hS hd => ?_) ?_
  · go_simp
  · exact Rl.comesToR_load 24 _ rfl w.heap.size (by go_simp) _ _ (HL1.out W hS) Tryd.underlying24 rfl HI1.out ⟨rfl, Below.refl _ _⟩
  (try go_simp)
  (refine Rl.textR_run ?_ (fun ρ => ?_) (fun ρ W hS hd => ?_) ?_; rotate_left; (focus go_simp); (focus (obtain ⟨hc, hf⟩ := bcell hS; go_simp; refine (KRA.out W).mono ?_; rintro e w1 ⟨rfl, hb⟩; refine ⟨_, rfl, ?_, hb⟩; rfl)); (try go_simp))
  iterate 5 (refine Rl.textR_run ?_ (fun ρ => ?_) (fun ρ W hS hd => ?_) ?_; rotate_left; (focus go_simp); (focus (obtain ⟨hc, hf⟩ := bcell hS; go_simp; first | exact ⟨rfl, Below.refl _ _⟩ | (refine ⟨?_, Below.refl _ _⟩; rfl))); (try go_simp))
  refine Rl.textR_run (.agg lc.toArray) (fun ρ => ?_) (fun ρ W hS hd => ?_) ?_
  · go_simp
  · exact Rl.comesToR_load 24 _ rfl p (by go_simp) _ _ (HLX.out W hS) Tryd.underlying24 rfl HIO.out ⟨rfl, Below.refl _ _⟩
  (try go_simp)
  refine Rl.textR_run (.agg l1.toArray) (fun ρ => ?_) (fun ρ W hS hd => ?_) ?_
  · go_simp
  · exact Rl.comesToR_load 24 _ rfl w.heap.size (by go_simp) _ _ (HL1.out W hS) Tryd.underlying24 rfl HI1.out ⟨rfl, Below.refl _ _⟩
  (try go_simp)
  (refine Rl.textR_run ?_ (fun ρ => ?_) (fun ρ W hS hd => ?_) ?_; rotate_left; (focus go_simp); (focus (obtain ⟨hc, hf⟩ := bcell hS; go_simp; refine (KCA.out W).mono ?_; rintro e w1 ⟨rfl, hb⟩; refine ⟨_, rfl, ?_, hb⟩; rfl)); (try go_simp))
  refine Rl.textR_run (.bool (!true)) (fun ρ => ?_) (fun ρ W hS hd => ?_) ?_
  · go_simp
  · exact Rl.comesToR_neq 24 _ _ _ rfl _ _ (by go_simp) (by go_simp) (by kernel_rfl) (EAA.out W) ⟨rfl, Below.refl _ _⟩
  (try go_simp)
  iterate 6 (refine Rl.textR_run ?_ (fun ρ => ?_) (fun ρ W hS hd => ?_) ?_; rotate_left; (focus go_simp); (focus (obtain ⟨hc, hf⟩ := bcell hS; go_simp; first | exact ⟨rfl, Below.refl _ _⟩ | (refine ⟨?_, Below.refl _ _⟩; rfl))); (try go_simp))
  iterate 2 (refine Rl.textR_skip (fun ρ => ?_) ?_; (focus (first | rfl | (go_simp; done) | (go_simp; rfl))); (try go_simp))
  iterate 2 (refine Rl.textR_run ?_ (fun ρ => ?_) (fun ρ W hS hd => ?_) ?_; rotate_left; (focus go_simp); (focus (obtain ⟨hc, hf⟩ := bcell hS; go_simp; first | exact ⟨rfl, Below.refl _ _⟩ | (refine ⟨?_, Below.refl _ _⟩; rfl))); (try go_simp))
  refine Rl.textR_nil ?_
  intro ρ w5 hg hk
  have HB5 := Lib.hid (below_next HB4.out hg)
  have HM5 := Lib.hid (HL1.out w5 hg)
  have HU5 := Lib.hid (HU4.out.below hg)
  clear hg hk HL1 HLX HX4
  dsimp only
  clear ρ
  have hsub : IntKind.i64.wrap ((N : Int) - 1) = ((N - 1 : Nat) : Int) := by rw [IntWalk.i64_in _ (by omega)]; omega
  have hsl := fun W => slice_to (ad := some ⟨g, 0, none⟩) (n := N) (c := cp) (s := N - 1) (.inr ⟨g, rfl⟩) (by have := HCP.out; omega) W
  have hot := HU5.out.take (k := N - 1) (by have := HPN.out; omega)
  have KR2 := Lib.hid (read_c w5 hot.at (by rw [List.length_take]; omega) (HE.out.below HB5.out))
  have hcut := HPC.out
  rw [gotC_no hcut, codeC_no hcut, HLZ0.out] at KR2
  have HSUB := Lib.hid hsub
  have HSL := Lib.hid hsl
  clear hot hcut hsub hsl
  go_upto_region 9 with fail
  refine wp_region_lit ?_
  refine wpList_yield (w' := w5) (v := .slice (some ⟨g, 0, none⟩) N cp) rfl (by go_simp) ?_
  refine wpList_yield (w' := w5) (v := .slice (some ⟨g, 0, none⟩) N cp) rfl (by go_simp) ?_
  refine wpList_yield (w' := w5) (v := .int .i64 (N : Int)) rfl (by go_simp) ?_
  refine wpList_yield (w' := w5) (v := .int .i64 ((N - 1 : Nat) : Int)) rfl (by rw [← HSUB.out]; go_simp) ?_
  refine wpList_yield (w' := w5) (v := .slice (some ⟨g, 0, none⟩) (N - 1) cp) rfl (by have hsl := HSL.out; go_simp) ?_
  refine wpList_enter rfl (by go_simp) KR2.out ?_
  rintro e w6 ⟨rfl, hb6⟩
  refine ⟨_, rfl, ?_⟩
  refine wpList_yield (w' := w6) (v := .tuple #[.agg lz.toArray, .int .i64 11]) rfl (by go_simp) ?_
  refine wpList_yield (w' := w6) (v := .agg lz.toArray) rfl (by go_simp) ?_
  refine wpList_yield (w' := w6) (v := .int .i64 11) rfl (by go_simp) ?_
  refine wpList_yield (w' := w6.alloc (.cells #[.int .i64 0, .int .i64 0, .int .i64 0, .int .i64 0, .int .i64 0, .int .i64 0, .int .i64 0, .int .i64 0, .int .i64 0, .int .i64 0, .int .i64 0, .bool false] 24)) (v := .pointer (some ⟨w6.heap.size, 0, none⟩)) rfl (by go_simp) ?_
  refine wpList_store_all rfl 24 _ _ rfl w6.heap.size (cs := #[.int .i64 0, .int .i64 0, .int .i64 0, .int .i64 0, .int .i64 0, .int .i64 0, .int .i64 0, .int .i64 0, .int .i64 0, .int .i64 0, .int .i64 0, .bool false]) (T := 24) lz (by go_simp) (by go_simp) (World.alloc_heap_new _ _) (by rw [HLZ.out]; rfl) HIZ.out HOZ.out ?_
  intro w7 hw7
  have hb7 := below_next hb6 (hw7.below (below_alloc (Below.refl _ w6) _) (Nat.le_refl _))
  have HB7 := Lib.hid (below_next HB5.out hb7)
  have HM7 := Lib.hid ((hb7.block w.heap.size (Array.getElem?_eq_some_iff.1 HM5.out).1).trans HM5.out)
  have HU7 := Lib.hid (HU5.out.below hb7)
  clear hw7 hb6 hb7 KR2
  generalize w6.heap.size = p2 at *
  have hA8 := below_alloc (Below.refl _ w7) (.cells #[] 5)
  have HO8 := Lib.hid (OwnTxt.new (w := w7) (B := w7.heap.size) (Nat.le_refl _))
  have HU8 := Lib.hid (HU7.out.below hA8)
  have HB8 := Lib.hid (below_next HB7.out hA8)
  have HM8 := Lib.hid ((hA8.block w.heap.size (Array.getElem?_eq_some_iff.1 HM7.out).1).trans HM7.out)
  have HZ8 := Lib.hid (show w7.heap.size ≤ (w7.alloc (.cells #[] 5)).heap.size from hA8.size)
  clear hA8
  go_upto_region 10 with fail
  refine wp_region_lit ?_
  refine wpList_yield (w' := w7.alloc (.cells #[] 5)) (v := .slice (some ⟨w7.heap.size, 0, none⟩) 0 0) rfl (by go_simp) ?_
  refine wpList_yield (w' := w7.alloc (.cells #[] 5)) (v := .slice (some ⟨g, 0, none⟩) N cp) rfl (by go_simp) ?_
  generalize w7.alloc (.cells #[] 5) = w8 at *
  refine wpList_append_txt (by rfl) _ _ (by rfl) w7.heap.size (.slice (some ⟨w7.heap.size, 0, none⟩) 0 0) [] (by go_simp) HO8.out (.slice (some ⟨g, 0, none⟩) N cp) pa (by go_simp) HU8.out.at (by have := HPN.out; simp; omega) HZ8.out ?_
  intro ad9 n9 c9 w9 o9 b9 g9
  rw [List.nil_append] at o9
  have HB9 := Lib.hid (HB8.out.trans (b9.mono HB7.out.size))
  have HM9 := Lib.hid ((b9.block w.heap.size (Array.getElem?_eq_some_iff.1 HM7.out).1).trans HM8.out)
  have hA10 := below_alloc (Below.refl _ w9) (.cells #[.int .u8 0] 5)
  have hT10 := byte_txt (World.alloc_heap_new w9 (.cells #[.int .u8 0] 5)) (by decide)
  have HO10 := Lib.hid (o9.below hA10)
  have HB10 := Lib.hid (below_next HB9.out hA10)
  have HM10 := Lib.hid ((hA10.block w.heap.size (Array.getElem?_eq_some_iff.1 HM9.out).1).trans HM9.out)
  have HZ10 := Lib.hid (show w7.heap.size ≤ (w9.alloc (.cells #[.int .u8 0] 5)).heap.size from Nat.le_trans (Nat.le_trans HZ8.out b9.size) hA10.size)
  have HT10 := Lib.hid hT10
  clear hA10 o9 b9 g9 hT10
  refine wpList_yield (w' := w9.alloc (.cells #[.int .u8 0] 5)) (v := .slice (some ⟨w9.heap.size, 0, none⟩) 1 1) rfl (by go_simp) ?_
  generalize w9.alloc (.cells #[.int .u8 0] 5) = w10 at *
  refine wpList_append_txt (by rfl) _ _ (by rfl) w7.heap.size (.slice ad9 n9 c9) pa (by go_simp) HO10.out (.slice (some ⟨w9.heap.size, 0, none⟩) 1 1) [0] (by go_simp) HT10.out (by have := HPN.out; simp; omega) HZ10.out ?_
  intro ad11 n11 c11 w11 o11 b11 g11
  have HB11 := Lib.hid (HB10.out.trans (b11.mono HB7.out.size))
  have HM11 := Lib.hid ((b11.block w.heap.size (Array.getElem?_eq_some_iff.1 HM7.out).1).trans HM10.out)
  have KR3 := Lib.hid (read_c w11 o11.at (by have := HPN.out; simp; omega) (HE.out.below HB11.out))
  rw [gotC_no HPM.out, codeC_no HPM.out, HLZ0.out] at KR3
  clear o11 b11 g11
  refine wpList_enter rfl (by go_simp) KR3.out ?_
  rintro e w12 ⟨rfl, hb12⟩
  refine ⟨_, rfl, ?_⟩
  refine wpList_yield (w' := w12) (v := .tuple #[.agg lz.toArray, .int .i64 11]) rfl (by go_simp) ?_
  refine wpList_yield (w' := w12) (v := .agg lz.toArray) rfl (by go_simp) ?_
  refine wpList_yield (w' := w12) (v := .int .i64 11) rfl (by go_simp) ?_
  refine wpList_yield (w' := w12.alloc (.cells #[.int .i64 0, .int .i64 0, .int .i64 0, .int .i64 0, .int .i64 0, .int .i64 0, .int .i64 0, .int .i64 0, .int .i64 0, .int .i64 0, .int .i64 0, .bool false] 24)) (v := .pointer (some ⟨w12.heap.size, 0, none⟩)) rfl (by go_simp) ?_
  refine wpList_store_all rfl 24 _ _ rfl w12.heap.size (cs := #[.int .i64 0, .int .i64 0, .int .i64 0, .int .i64 0, .int .i64 0, .int .i64 0, .int .i64 0, .int .i64 0, .int .i64 0, .int .i64 0, .int .i64 0, .bool false]) (T := 24) lz (by go_simp) (by go_simp) (World.alloc_heap_new _ _) (by rw [HLZ.out]; rfl) HIZ.out HOZ.out ?_
  intro w13 hw13
  have hb13 := below_next hb12 (hw13.below (below_alloc (Below.refl _ w12) _) (Nat.le_refl _))
  have HB13 := Lib.hid (below_next HB11.out hb13)
  have HM13 := Lib.hid ((hb13.block w.heap.size (Array.getElem?_eq_some_iff.1 HM11.out).1).trans HM11.out)
  clear hw13 hb12 hb13 KR3
  generalize w12.heap.size = p3 at *
  have KR4 := Lib.hid (read_c w13 (HT.out.below HB13.out) HBL.out (HE.out.below HB13.out))
  rw [HCD.out, HLG0.out] at KR4
  go_upto_region 11 with fail
  refine wp_region_lit ?_
  refine wpList_yield (w' := w13) (v := .slice la ll lcap) rfl (by go_simp) ?_
  refine wpList_enter rfl (by go_simp) KR4.out ?_
  rintro e w14 ⟨rfl, hb14⟩
  refine ⟨_, rfl, ?_⟩
  refine wpList_yield (w' := w14) (v := .tuple #[.agg lg.toArray, .int .i64 0]) rfl (by go_simp) ?_
  refine wpList_yield (w' := w14) (v := .agg lg.toArray) rfl (by go_simp) ?_
  refine wpList_yield (w' := w14) (v := .int .i64 0) rfl (by go_simp) ?_
  refine wpList_yield (w' := w14.alloc (.cells #[.int .i64 0, .int .i64 0, .int .i64 0, .int .i64 0, .int .i64 0, .int .i64 0, .int .i64 0, .int .i64 0, .int .i64 0, .int .i64 0, .int .i64 0, .bool false] 24)) (v := .pointer (some ⟨w14.heap.size, 0, none⟩)) rfl (by go_simp) ?_
  refine wpList_store_all rfl 24 _ _ rfl w14.heap.size (cs := #[.int .i64 0, .int .i64 0, .int .i64 0, .int .i64 0, .int .i64 0, .int .i64 0, .int .i64 0, .int .i64 0, .int .i64 0, .int .i64 0, .int .i64 0, .bool false]) (T := 24) lg (by go_simp) (by go_simp) (World.alloc_heap_new _ _) (by rw [HLG.out]; rfl) HIG.out HOG1.out ?_
  intro w15 hw15
  have hb15 := below_next hb14 (hw15.below (below_alloc (Below.refl _ w14) _) (Nat.le_refl _))
  have HB15 := Lib.hid (below_next HB13.out hb15)
  have HM15 := Lib.hid ((hb15.block w.heap.size (Array.getElem?_eq_some_iff.1 HM13.out).1).trans HM13.out)
  have HG15 := Lib.hid hw15.there
  clear hw15 hb14 hb15 KR4
  generalize w14.heap.size = p4 at *
  have HL1 := Lib.hid (fun (W : World) (h : Below w15.heap.size w15 W) => (h.block _ (Array.getElem?_eq_some_iff.1 HM15.out).1).trans HM15.out)
  have HLG1 := Lib.hid (fun (W : World) (h : Below w15.heap.size w15 W) => (h.block _ (Array.getElem?_eq_some_iff.1 HG15.out).1).trans HG15.out)
  have KO := Lib.hid (fun (W : World) (h : Below w15.heap.size w15 W) => cmd_one W (HE.out.below (below_next HB15.out h)) (HN.out.below (below_next HB15.out h)))
  have HTB := Lib.hid (fun (W : World) (h : Below w15.heap.size w15 W) => txt_conv (HT.out.below (below_next HB15.out h)) W (Below.refl _ _))
  generalize hsb : strOfNums bs = sb at *
  have HS_sb := Lib.hid hsb
  clear hsb
  go_upto_region 12 with fail
  refine Rl.wp_region_rel (fun a b => Below a.heap.size a b) w15 (fun a b c h h' => below_next h h') (fun a => Below.refl _ _) hmx (by kernel_rfl) (Below.refl _ _).drew ?_
  iterate 10 (refine Rl.textR_run ?_ (fun ρ => ?_) (fun ρ W hS hd => ?_) ?_; rotate_left; (focus go_simp); (focus (obtain ⟨hc, hf⟩ := bcell hS; go_simp; first | exact ⟨rfl, Below.refl _ _⟩ | (refine ⟨?_, Below.refl _ _⟩; rfl))); (try go_simp))
  refine Rl.textR_run (.agg lg.toArray) (fun ρ => ?_) (fun ρ W hS hd => ?_) ?_
  · go_simp
  · exact Rl.comesToR_load 24 _ rfl p4 (by go_simp) _ _ (HLG1.out W hS) Tryd.underlying24 rfl HIG.out ⟨rfl, Below.refl _ _⟩
  (try go_simp)
  refine Rl.textR_rel 84 (fun v w => TxtAt w v (bs)) rfl (fun v w w' hg h => h.below hg) (fun ρ => ?_) (fun ρ W hS hd => ?_) ?_
  · go_simp
  · go_simp
    refine (KPG.out W).mono ?_
    rintro e w1 ⟨u, rfl, ho, hb⟩
    exact ⟨u, rfl, ho.at, hb⟩
  (try go_simp)
  refine Rl.textR_run (.string sb) (fun ρ => ?_) (fun ρ W hS hd => ?_) ?_
  · go_simp
  · have hcv := txt_conv (hd (84, fun v w => TxtAt w v (bs)) (by first | exact List.mem_cons_self | (simp; done)) (show (84 : Nat) ∈ _ by decide)) W (Below.refl _ _)
    rw [show strOfNums (bs) = sb from HS_sb.out] at hcv
    simp only at hcv
    go_simp
    first | exact ⟨rfl, Below.refl _ _⟩ | exact Below.refl _ _
  (try go_simp)
  (refine Rl.textR_run ?_ (fun ρ => ?_) (fun ρ W hS hd => ?_) ?_; rotate_left; (focus go_simp); (focus (obtain ⟨hc, hf⟩ := bcell hS; go_simp; first | exact ⟨rfl, Below.refl _ _⟩ | (refine ⟨?_, Below.refl _ _⟩; rfl))); (try go_simp))
  (refine Rl.textR_run ?_ (fun ρ => ?_) (fun ρ W hS hd => ?_) ?_; rotate_left; (focus go_simp); (focus (have hfact := HTB.out W hS; go_simp; first | exact ⟨rfl, Below.refl _ _⟩ | (refine ⟨?_, Below.refl _ _⟩; rfl))); (try go_simp))
  iterate 4 (refine Rl.textR_run ?_ (fun ρ => ?_) (fun ρ W hS hd => ?_) ?_; rotate_left; (focus go_simp); (focus (obtain ⟨hc, hf⟩ := bcell hS; go_simp; first | exact ⟨rfl, Below.refl _ _⟩ | (refine ⟨?_, Below.refl _ _⟩; rfl))); (try go_simp))
  refine Rl.textR_run (.agg l1.toArray) (fun ρ => ?_) (fun ρ W hS hd => ?_) ?_
  · go_simp
  · exact Rl.comesToR_load 24 _ rfl w.heap.size (by go_simp) _ _ (HL1.out W hS) Tryd.underlying24 rfl HI1.out ⟨rfl, Below.refl _ _⟩
  (try go_simp)
  (refine Rl.textR_run ?_ (fun ρ => ?_) (fun ρ W hS hd => ?_) ?_; rotate_left; (focus go_simp); (focus (obtain ⟨hc, hf⟩ := bcell hS; go_simp; refine (KCA.out W).mono ?_; rintro e w1 ⟨rfl, hb⟩; refine ⟨_, rfl, ?_, hb⟩; rfl)); (try go_simp))
  (refine Rl.textR_run ?_ (fun ρ => ?_) (fun ρ W hS hd => ?_) ?_; rotate_left; (focus go_simp); (focus (obtain ⟨hc, hf⟩ := bcell hS; go_simp; refine (KCC.out W).mono ?_; rintro e w1 ⟨rfl, hb⟩; refine ⟨_, rfl, ?_, hb⟩; rfl)); (try go_simp))
  refine Rl.textR_run (.agg l1.toArray) (fun ρ => ?_) (fun ρ W hS hd => ?_) ?_
  · go_simp
  · exact Rl.comesToR_load 24 _ rfl w.heap.size (by go_simp) _ _ (HL1.out W hS) Tryd.underlying24 rfl HI1.out ⟨rfl, Below.refl _ _⟩
  (try go_simp)
  (refine Rl.textR_run ?_ (fun ρ => ?_) (fun ρ W hS hd => ?_) ?_; rotate_left; (focus go_simp); (focus (obtain ⟨hc, hf⟩ := bcell hS; go_simp; refine (KCA.out W).mono ?_; rintro e w1 ⟨rfl, hb⟩; refine ⟨_, rfl, ?_, hb⟩; rfl)); (try go_simp))
  refine Rl.textR_run (.bool true) (fun ρ => ?_) (fun ρ W hS hd => ?_) ?_
  · go_simp
  · exact Rl.comesToR_eql 24 _ _ _ rfl _ _ (by go_simp) (by go_simp) (by kernel_rfl) (EAA.out W) ⟨rfl, Below.refl _ _⟩
  (try go_simp)
  iterate 2 (refine Rl.textR_run ?_ (fun ρ => ?_) (fun ρ W hS hd => ?_) ?_; rotate_left; (focus go_simp); (focus (obtain ⟨hc, hf⟩ := bcell hS; go_simp; first | exact ⟨rfl, Below.refl _ _⟩ | (refine ⟨?_, Below.refl _ _⟩; rfl))); (try go_simp))
  (refine Rl.textR_run ?_ (fun ρ => ?_) (fun ρ W hS hd => ?_) ?_; rotate_left; (focus go_simp); (focus (obtain ⟨hc, hf⟩ := bcell hS; go_simp; refine (KO.out W hS).mono ?_; rintro e w1 ⟨rfl, hb⟩; refine ⟨_, rfl, ?_, hb⟩; rfl)); (try go_simp))
  iterate 2 (refine Rl.textR_run ?_ (fun ρ => ?_) (fun ρ W hS hd => ?_) ?_; rotate_left; (focus go_simp); (focus (obtain ⟨hc, hf⟩ := bcell hS; go_simp; first | exact ⟨rfl, Below.refl _ _⟩ | (refine ⟨?_, Below.refl _ _⟩; rfl))); (try go_simp))
  refine Rl.textR_nil ?_
  intro ρ w16 hg hk
  have HF := Lib.hid (below_next HB15.out hg)
  clear hg hk
  dsimp only
  generalize ρ 84 = z1
  clear ρ
  go_wp2_with fail
  go_ret
  exact ⟨rfl, HF.out⟩
set_option maxRecDepth 100000 in
set_option maxHeartbeats 2000000 in
theorem back_yn {a : List Int} (ha : Cmd12 a) (hri : rightL a = true) (la : Option Addr) (ll lcap : Nat) (bs : List Int) (w : World) (ht : TxtAt w (.slice la ll lcap) bs) (hl : ll ≤ 500) (hrd : readB bs = false) (hE : ErrAt w) (hN : CmdNamesAt w) : Calls Tryd.prog 5 #[.agg (cmdC a).toArray, .slice la ll lcap] w fun e w' => e = .returned (.bool true) ∧ Below w.heap.size w w' := by
  have hmx : Tryd.prog.follows .mixedOrders = true := by kernel_rfl
  have hd : decide ((ll : Int) > 500) = false := decide_eq_false (by omega)
  have hbl : bs.length = ll := ht.form.1.symm
  have hby : ∀ x ∈ bs, 0 ≤ x ∧ x ≤ 255 := by
    intro x hx
    rcases ht with ⟨b, o, c, _, _, hr⟩ | ⟨rfl, _⟩
    · obtain ⟨k, hk, rfl⟩ := List.mem_iff_getElem.1 hx
      have h1 := hr.lo k hk
      have h2 := hr.hi k hk
      simp [List.getD, List.getElem?_eq_getElem hk] at h1 h2
      exact ⟨h1, h2⟩
    · cases hx
  have hca := cleanL_cmd ha
  have hgb := gotC_cmd hby
  have hgo : Cmd12 (ownG a) := by unfold ownG; rw [hri]; exact hca
  have hog : gotC (putC a) = ownG a ∧ codeC (putC a) = 0 := by have := own_read ha; rw [hri] at this; exact this
  have hi24 : ∀ {l : List Value}, l.length = 12 → (Tryd.prog.info? 24).map (·.size) = some l.length := fun h => by rw [h]; kernel_rfl
  have HE := Lib.hid hE
  have HN := Lib.hid hN
  have HT := Lib.hid ht
  have KCA := Lib.hid (fun W => clean_c ha W)
  have KCC := Lib.hid (fun W => clean_c hca W)
  rw [clean_clean] at KCC
  have KPA := Lib.hid (fun W => put_c ha W)
  have KPG := Lib.hid (fun W => put_c hgb W)
  have KRA := Lib.hid (fun W => right_c ha W)
  rw [hri] at KRA
  have EAA := Lib.hid (fun W => eqinC hca hca W)
  rw [show (cleanL a == cleanL a) = true from beq_self_eq_true _] at EAA
  have HOG := Lib.hid hog
  have HPM := Lib.hid (readB_more ha)
  have HPC := Lib.hid (readB_cut ha)
  have HPL := Lib.hid (putC_le ha)
  have hpp := putC_pos a
  have hpl := putC_le ha
  have HPP := Lib.hid hpp
  have HCD := Lib.hid (show codeC bs = 11 from codeC_no hrd)
  have HBL := Lib.hid (show bs.length ≤ 1099511627775 by omega)
  have HI1 := Lib.hid (hi24 (cmdC_len ha.len))
  have HIC := Lib.hid (hi24 (cmdC_len hca.len))
  have HIG := Lib.hid (hi24 (cmdC_len hgb.len))
  have HIO := Lib.hid (hi24 (cmdC_len hgo.len))
  have HIZ := Lib.hid (hi24 (cmdC_len zeros_cmd.len))
  have HLG := Lib.hid (cmdC_len hgb.len)
  have HLO := Lib.hid (cmdC_len hgo.len)
  have HLZ := Lib.hid (cmdC_len zeros_cmd.len)
  have HOG1 := Lib.hid (cmdC_one (gotC bs))
  have HOO := Lib.hid (cmdC_one (ownG a))
  have HOZ := Lib.hid (cmdC_one (List.replicate 12 0))
  have HOC := Lib.hid (show ownG a = cleanL a by unfold ownG; rw [hri]; rfl)
  rw [HOC.out] at HOO HIO HLO HOG
  generalize hp1 : putC a = pa at *
  generalize hl1 : cmdC a = l1 at *
  generalize hlg : cmdC (gotC bs) = lg at *
  generalize hlz : cmdC (List.replicate 12 0) = lz at *
  generalize hlc : cmdC (cleanL a) = lc at *
  have HLG0 := Lib.hid hlg
  have HLC0 := Lib.hid hlc
  have HLZ0 := Lib.hid hlz
  clear hca hgb hgo hog hi24 hE hN ht hp1 hl1 hlc hlg hlz ha hri hrd hby hbl
  go_enter Tryd.func5, Tryd.ntmps5
  go_upto_region 1 with fail
  have hA1 := below_alloc (Below.refl _ w) (.cells l1.toArray 24)
  have hN1 := World.alloc_heap_new w (.cells l1.toArray 24)
  have hs1 : (w.alloc (.cells l1.toArray 24)).heap.size = w.heap.size + 1 := by simp
  generalize w.alloc (.cells l1.toArray 24) = U at *
  have HB := Lib.hid hA1
  have HM1 := Lib.hid hN1
  have HS1 := Lib.hid hs1
  clear hA1 hN1 hs1
  go_upto_region 3 with fail
  refine wp_region_lit ?_
  refine wpList_load_all rfl 24 _ rfl w.heap.size l1 _ (by go_simp) HM1.out Tryd.underlying24 rfl HI1.out ?_
  refine wpList_enter rfl (by go_simp) (KPA.out U) ?_
  rintro e w2 ⟨u, rfl, ho, hb2⟩
  refine ⟨_, rfl, ?_⟩
  obtain ⟨g, cp, rfl, hcp, hcm⟩ : ∃ g c, u = .slice (some ⟨g, 0, none⟩) pa.length c ∧ pa.length ≤ c ∧ c ≤ maxLen := by
    rcases ho.form with ⟨_, h0⟩ | h
    · rw [h0] at hpp; simp at hpp
    · exact h
  have HU := Lib.hid ho
  have HB2 := Lib.hid (below_next HB.out hb2)
  have HM2 := Lib.hid ((hb2.block w.heap.size (by have := HS1.out; omega)).trans HM1.out)
  have HS2 := Lib.hid (show U.heap.size ≤ w2.heap.size from hb2.size)
  have HCP := Lib.hid hcp
  clear ho hb2 hcm hcp
  generalize hpn : pa.length = N at *
  have HPN := Lib.hid hpn
  clear hpn
  have hd12 : decide ((N : Int) < 12) = false := decide_eq_false (by omega)
  have KR := Lib.hid (read_c w2 HU.out.at (by have := HPN.out; have := HPL.out; omega) (HE.out.below HB2.out))
  rw [HOG.out.1, HOG.out.2, HLC0.out] at KR
  go_upto_region 6 with fail
  refine wp_region_lit ?_
  refine wpList_yield (w' := w2) (v := .slice (some ⟨g, 0, none⟩) N cp) rfl (by go_simp) ?_
  refine wpList_enter rfl (by go_simp) KR.out ?_
  rintro e w3 ⟨rfl, hb3⟩
  refine ⟨_, rfl, ?_⟩
  refine wpList_yield (w' := w3) (v := .tuple #[.agg lc.toArray, .int .i64 0]) rfl (by go_simp) ?_
  refine wpList_yield (w' := w3) (v := .agg lc.toArray) rfl (by go_simp) ?_
  refine wpList_yield (w' := w3) (v := .int .i64 0) rfl (by go_simp) ?_
  refine wpList_yield (w' := w3.alloc (.cells #[.int .i64 0, .int .i64 0, .int .i64 0, .int .i64 0, .int .i64 0, .int .i64 0, .int .i64 0, .int .i64 0, .int .i64 0, .int .i64 0, .int .i64 0, .bool false] 24)) (v := .pointer (some ⟨w3.heap.size, 0, none⟩)) rfl (by go_simp) ?_
  refine wpList_store_all rfl 24 _ _ rfl w3.heap.size (cs := #[.int .i64 0, .int .i64 0, .int .i64 0, .int .i64 0, .int .i64 0, .int .i64 0, .int .i64 0, .int .i64 0, .int .i64 0, .int .i64 0, .int .i64 0, .bool false]) (T := 24) lc (by go_simp) (by go_simp) (World.alloc_heap_new _ _) (by rw [HLO.out]; rfl) HIO.out HOO.out ?_
  intro w4 hw4
  have hb4 := below_next hb3 (hw4.below (below_alloc (Below.refl _ w3) _) (Nat.le_refl _))
  have HB4 := Lib.hid (below_next HB2.out hb4)
  have HM4 := Lib.hid ((hb4.block w.heap.size (Array.getElem?_eq_some_iff.1 HM2.out).1).trans HM2.out)
  have HU4 := Lib.hid (HU.out.below hb4)
  have HX4 := Lib.hid hw4.there
  clear hw4 hb3 hb4 KR
  generalize w3.heap.size = p at *
  have HL1 := Lib.hid (fun (W : World) (h : Below w4.heap.size w4 W) => (h.block _ (Array.getElem?_eq_some_iff.1 HM4.out).1).trans HM4.out)
  have HLX := Lib.hid (fun (W : World) (h : Below w4.heap.size w4 W) => (h.block _ (Array.getElem?_eq_some_iff.1 HX4.out).1).trans HX4.out)
  go_upto_region 7 with fail
  refine Rl.wp_region_rel (fun a b => Below a.heap.size a b) w4 (fun a b c h h' => below_next h h') (fun a => Below.refl _ _) hmx (by kernel_rfl) (Below.refl _ _).drew ?_
  iterate 2 (refine Rl.textR_run ?_ (fun ρ => ?_) (fun ρ W hS hd => ?_) ?_; rotate_left; (focus go_simp); (focus (obtain ⟨hc, hf⟩ := bcell hS; go_simp; first | exact ⟨rfl, Below.refl _ _⟩ | (refine ⟨?_, Below.refl _ _⟩; rfl))); (try go_simp))
  refine Rl.textR_run (.agg l1.toArray) (fun ρ => ?_) (fun ρ W hS hd => ?_) ?_
  · go_simp
  · exact Rl.comesToR_load 24 _ rfl w.heap.size (by go_simp) _ _ (HL1.out W hS) Tryd.underlying24 rfl HI1.out ⟨rfl, Below.refl _ _⟩
  (try go_simp)
  (refine Rl.textR_run ?_ (fun ρ => ?_) (fun ρ W hS hd => ?_) ?_; rotate_left; (focus go_simp); (focus (obtain ⟨hc, hf⟩ := bcell hS; go_simp; refine (KRA.out W).mono ?_; rintro e w1 ⟨rfl, hb⟩; refine ⟨_, rfl, ?_, hb⟩; rfl)); (try go_simp))
  iterate 5 (refine Rl.textR_run ?_ (fun ρ => ?_) (fun ρ W hS hd => ?_) ?_; rotate_left; (focus go_simp); (focus (obtain ⟨hc, hf⟩ := bcell hS; go_simp; first | exact ⟨rfl, Below.refl _ _⟩ | (refine ⟨?_, Below.refl _ _⟩; rfl))); (try go_simp))
  refine Rl.textR_run (.agg lc.toArray) (fun ρ => ?_) (fun ρ W hS hd => ?_) ?_
  · go_simp
  · exact Rl.comesToR_load 24 _ rfl p (by go_simp) _ _ (HLX.out W hS) Tryd.underlying24 rfl HIO.out ⟨rfl, Below.refl _ _⟩
  (try go_simp)
  refine Rl.textR_run (.agg l1.toArray) (fun ρ => ?_) (fun ρ W hS hd => ?_) ?_
  · go_simp
  · exact Rl.comesToR_load 24 _ rfl w.heap.size (by go_simp) _ _ (HL1.out W hS) Tryd.underlying24 rfl HI1.out ⟨rfl, Below.refl _ _⟩
  (try go_simp)
  (refine Rl.textR_run ?_ (fun ρ => ?_) (fun ρ W hS hd => ?_) ?_; rotate_left; (focus go_simp); (focus (obtain ⟨hc, hf⟩ := bcell hS; go_simp; refine (KCA.out W).mono ?_; rintro e w1 ⟨rfl, hb⟩; refine ⟨_, rfl, ?_, hb⟩; rfl)); (try go_simp))
  refine Rl.textR_run (.bool (!true)) (fun ρ => ?_) (fun ρ W hS hd => ?_) ?_
  · go_simp
  · exact Rl.comesToR_neq 24 _ _ _ rfl _ _ (by go_simp) (by go_simp) (by kernel_rfl) (EAA.out W) ⟨rfl, Below.refl _ _⟩
  (try go_simp)
  iterate 6 (refine Rl.textR_run ?_ (fun ρ => ?_) (fun ρ W hS hd => ?_) ?_; rotate_left; (focus go_simp); (focus (obtain ⟨hc, hf⟩ := bcell hS; go_simp; first | exact ⟨rfl, Below.refl _ _⟩ | (refine ⟨?_, Below.refl _ _⟩; rfl))); (try go_simp))
  iterate 2 (refine Rl.textR_skip (fun ρ => ?_) ?_; (focus (first | rfl | (go_simp; done) | (go_simp; rfl))); (try go_simp))
  iterate 2 (refine Rl.textR_run ?_ (fun ρ => ?_) (fun ρ W hS hd => ?_) ?_; rotate_left; (focus go_simp); (focus (obtain ⟨hc, hf⟩ := bcell hS; go_simp; first | exact ⟨rfl, Below.refl _ _⟩ | (refine ⟨?_, Below.refl _ _⟩; rfl))); (try go_simp))
  refine Rl.textR_nil ?_
  intro ρ w5 hg hk
  have HB5 := Lib.hid (below_next HB4.out hg)
  have HM5 := Lib.hid (HL1.out w5 hg)
  have HU5 := Lib.hid (HU4.out.below hg)
  clear hg hk HL1 HLX HX4
  dsimp only
  clear ρ
  have hsub : IntKind.i64.wrap ((N : Int) - 1) = ((N - 1 : Nat) : Int) := by rw [IntWalk.i64_in _ (by omega)]; omega
  have hsl := fun W => slice_to (ad := some ⟨g, 0, none⟩) (n := N) (c := cp) (s := N - 1) (.inr ⟨g, rfl⟩) (by have := HCP.out; omega) W
  have hot := HU5.out.take (k := N - 1) (by have := HPN.out; omega)
  have KR2 := Lib.hid (read_c w5 hot.at (by rw [List.length_take]; omega) (HE.out.below HB5.out))
  have hcut := HPC.out
  rw [gotC_no hcut, codeC_no hcut, HLZ0.out] at KR2
  have HSUB := Lib.hid hsub
  have HSL := Lib.hid hsl
  clear hot hcut hsub hsl
  go_upto_region 9 with fail
  refine wp_region_lit ?_
  refine wpList_yield (w' := w5) (v := .slice (some ⟨g, 0, none⟩) N cp) rfl (by go_simp) ?_
  refine wpList_yield (w' := w5) (v := .slice (some ⟨g, 0, none⟩) N cp) rfl (by go_simp) ?_
  refine wpList_yield (w' := w5) (v := .int .i64 (N : Int)) rfl (by go_simp) ?_
  refine wpList_yield (w' := w5) (v := .int .i64 ((N - 1 : Nat) : Int)) rfl (by rw [← HSUB.out]; go_simp) ?_
  refine wpList_yield (w' := w5) (v := .slice (some ⟨g, 0, none⟩) (N - 1) cp) rfl (by have hsl := HSL.out; go_simp) ?_
  refine wpList_enter rfl (by go_simp) KR2.out ?_
  rintro e w6 ⟨rfl, hb6⟩
  refine ⟨_, rfl, ?_⟩
  refine wpList_yield (w' := w6) (v := .tuple #[.agg lz.toArray, .int .i64 11]) rfl (by go_simp) ?_
  refine wpList_yield (w' := w6) (v := .agg lz.toArray) rfl (by go_simp) ?_
  refine wpList_yield (w' := w6) (v := .int .i64 11) rfl (by go_simp) ?_
  refine wpList_yield (w' := w6.alloc (.cells #[.int .i64 0, .int .i64 0, .int .i64 0, .int .i64 0, .int .i64 0, .int .i64 0, .int .i64 0, .int .i64 0, .int .i64 0, .int .i64 0, .int .i64 0, .bool false] 24)) (v := .pointer (some ⟨w6.heap.size, 0, none⟩)) rfl (by go_simp) ?_
  refine wpList_store_all rfl 24 _ _ rfl w6.heap.size (cs := #[.int .i64 0, .int .i64 0, .int .i64 0, .int .i64 0, .int .i64 0, .int .i64 0, .int .i64 0, .int .i64 0, .int .i64 0, .int .i64 0, .int .i64 0, .bool false]) (T := 24) lz (by go_simp) (by go_simp) (World.alloc_heap_new _ _) (by rw [HLZ.out]; rfl) HIZ.out HOZ.out ?_
  intro w7 hw7
  have hb7 := below_next hb6 (hw7.below (below_alloc (Below.refl _ w6) _) (Nat.le_refl _))
  have HB7 := Lib.hid (below_next HB5.out hb7)
  have HM7 := Lib.hid ((hb7.block w.heap.size (Array.getElem?_eq_some_iff.1 HM5.out).1).trans HM5.out)
  have HU7 := Lib.hid (HU5.out.below hb7)
  clear hw7 hb6 hb7 KR2
  generalize w6.heap.size = p2 at *
  have hA8 := below_alloc (Below.refl _ w7) (.cells #[] 5)
  have HO8 := Lib.hid (OwnTxt.new (w := w7) (B := w7.heap.size) (Nat.le_refl _))
  have HU8 := Lib.hid (HU7.out.below hA8)
  have HB8 := Lib.hid (below_next HB7.out hA8)
  have HM8 := Lib.hid ((hA8.block w.heap.size (Array.getElem?_eq_some_iff.1 HM7.out).1).trans HM7.out)
  have HZ8 := Lib.hid (show w7.heap.size ≤ (w7.alloc (.cells #[] 5)).heap.size from hA8.size)
  clear hA8
  go_upto_region 10 with fail
  refine wp_region_lit ?_
  refine wpList_yield (w' := w7.alloc (.cells #[] 5)) (v := .slice (some ⟨w7.heap.size, 0, none⟩) 0 0) rfl (by go_simp) ?_
  refine wpList_yield (w' := w7.alloc (.cells #[] 5)) (v := .slice (some ⟨g, 0, none⟩) N cp) rfl (by go_simp) ?_
  generalize w7.alloc (.cells #[] 5) = w8 at *
  refine wpList_append_txt (by rfl) _ _ (by rfl) w7.heap.size (.slice (some ⟨w7.heap.size, 0, none⟩) 0 0) [] (by go_simp) HO8.out (.slice (some ⟨g, 0, none⟩) N cp) pa (by go_simp) HU8.out.at (by have := HPN.out; simp; omega) HZ8.out ?_
  intro ad9 n9 c9 w9 o9 b9 g9
  rw [List.nil_append] at o9
  have HB9 := Lib.hid (HB8.out.trans (b9.mono HB7.out.size))
  have HM9 := Lib.hid ((b9.block w.heap.size (Array.getElem?_eq_some_iff.1 HM7.out).1).trans HM8.out)
  have hA10 := below_alloc (Below.refl _ w9) (.cells #[.int .u8 0] 5)
  have hT10 := byte_txt (World.alloc_heap_new w9 (.cells #[.int .u8 0] 5)) (by decide)
  have HO10 := Lib.hid (o9.below hA10)
  have HB10 := Lib.hid (below_next HB9.out hA10)
  have HM10 := Lib.hid ((hA10.block w.heap.size (Array.getElem?_eq_some_iff.1 HM9.out).1).trans HM9.out)
  have HZ10 := Lib.hid (show w7.heap.size ≤ (w9.alloc (.cells #[.int .u8 0] 5)).heap.size from Nat.le_trans (Nat.le_trans HZ8.out b9.size) hA10.size)
  have HT10 := Lib.hid hT10
  clear hA10 o9 b9 g9 hT10
  refine wpList_yield (w' := w9.alloc (.cells #[.int .u8 0] 5)) (v := .slice (some ⟨w9.heap.size, 0, none⟩) 1 1) rfl (by go_simp) ?_
  generalize w9.alloc (.cells #[.int .u8 0] 5) = w10 at *
  refine wpList_append_txt (by rfl) _ _ (by rfl) w7.heap.size (.slice ad9 n9 c9) pa (by go_simp) HO10.out (.slice (some ⟨w9.heap.size, 0, none⟩) 1 1) [0] (by go_simp) HT10.out (by have := HPN.out; simp; omega) HZ10.out ?_
  intro ad11 n11 c11 w11 o11 b11 g11
  have HB11 := Lib.hid (HB10.out.trans (b11.mono HB7.out.size))
  have HM11 := Lib.hid ((b11.block w.heap.size (Array.getElem?_eq_some_iff.1 HM7.out).1).trans HM10.out)
  have KR3 := Lib.hid (read_c w11 o11.at (by have := HPN.out; simp; omega) (HE.out.below HB11.out))
  rw [gotC_no HPM.out, codeC_no HPM.out, HLZ0.out] at KR3
  clear o11 b11 g11
  refine wpList_enter rfl (by go_simp) KR3.out ?_
  rintro e w12 ⟨rfl, hb12⟩
  refine ⟨_, rfl, ?_⟩
  refine wpList_yield (w' := w12) (v := .tuple #[.agg lz.toArray, .int .i64 11]) rfl (by go_simp) ?_
  refine wpList_yield (w' := w12) (v := .agg lz.toArray) rfl (by go_simp) ?_
  refine wpList_yield (w' := w12) (v := .int .i64 11) rfl (by go_simp) ?_
  refine wpList_yield (w' := w12.alloc (.cells #[.int .i64 0, .int .i64 0, .int .i64 0, .int .i64 0, .int .i64 0, .int .i64 0, .int .i64 0, .int .i64 0, .int .i64 0, .int .i64 0, .int .i64 0, .bool false] 24)) (v := .pointer (some ⟨w12.heap.size, 0, none⟩)) rfl (by go_simp) ?_
  refine wpList_store_all rfl 24 _ _ rfl w12.heap.size (cs := #[.int .i64 0, .int .i64 0, .int .i64 0, .int .i64 0, .int .i64 0, .int .i64 0, .int .i64 0, .int .i64 0, .int .i64 0, .int .i64 0, .int .i64 0, .bool false]) (T := 24) lz (by go_simp) (by go_simp) (World.alloc_heap_new _ _) (by rw [HLZ.out]; rfl) HIZ.out HOZ.out ?_
  intro w13 hw13
  have hb13 := below_next hb12 (hw13.below (below_alloc (Below.refl _ w12) _) (Nat.le_refl _))
  have HB13 := Lib.hid (below_next HB11.out hb13)
  have HM13 := Lib.hid ((hb13.block w.heap.size (Array.getElem?_eq_some_iff.1 HM11.out).1).trans HM11.out)
  clear hw13 hb12 hb13 KR3
  generalize w12.heap.size = p3 at *
  have KR4 := Lib.hid (read_c w13 (HT.out.below HB13.out) HBL.out (HE.out.below HB13.out))
  rw [HCD.out, HLG0.out] at KR4
  go_upto_region 11 with fail
  refine wp_region_lit ?_
  refine wpList_yield (w' := w13) (v := .slice la ll lcap) rfl (by go_simp) ?_
  refine wpList_enter rfl (by go_simp) KR4.out ?_
  rintro e w14 ⟨rfl, hb14⟩
  refine ⟨_, rfl, ?_⟩
  refine wpList_yield (w' := w14) (v := .tuple #[.agg lg.toArray, .int .i64 11]) rfl (by go_simp) ?_
  refine wpList_yield (w' := w14) (v := .agg lg.toArray) rfl (by go_simp) ?_
  refine wpList_yield (w' := w14) (v := .int .i64 11) rfl (by go_simp) ?_
  refine wpList_yield (w' := w14.alloc (.cells #[.int .i64 0, .int .i64 0, .int .i64 0, .int .i64 0, .int .i64 0, .int .i64 0, .int .i64 0, .int .i64 0, .int .i64 0, .int .i64 0, .int .i64 0, .bool false] 24)) (v := .pointer (some ⟨w14.heap.size, 0, none⟩)) rfl (by go_simp) ?_
  refine wpList_store_all rfl 24 _ _ rfl w14.heap.size (cs := #[.int .i64 0, .int .i64 0, .int .i64 0, .int .i64 0, .int .i64 0, .int .i64 0, .int .i64 0, .int .i64 0, .int .i64 0, .int .i64 0, .int .i64 0, .bool false]) (T := 24) lg (by go_simp) (by go_simp) (World.alloc_heap_new _ _) (by rw [HLG.out]; rfl) HIG.out HOG1.out ?_
  intro w15 hw15
  have hb15 := below_next hb14 (hw15.below (below_alloc (Below.refl _ w14) _) (Nat.le_refl _))
  have HB15 := Lib.hid (below_next HB13.out hb15)
  have HM15 := Lib.hid ((hb15.block w.heap.size (Array.getElem?_eq_some_iff.1 HM13.out).1).trans HM13.out)
  have HG15 := Lib.hid hw15.there
  clear hw15 hb14 hb15 KR4
  generalize w14.heap.size = p4 at *
  have HL1 := Lib.hid (fun (W : World) (h : Below w15.heap.size w15 W) => (h.block _ (Array.getElem?_eq_some_iff.1 HM15.out).1).trans HM15.out)
  have HLG1 := Lib.hid (fun (W : World) (h : Below w15.heap.size w15 W) => (h.block _ (Array.getElem?_eq_some_iff.1 HG15.out).1).trans HG15.out)
  have KO := Lib.hid (fun (W : World) (h : Below w15.heap.size w15 W) => cmd_one W (HE.out.below (below_next HB15.out h)) (HN.out.below (below_next HB15.out h)))
  have HTB := Lib.hid (fun (W : World) (h : Below w15.heap.size w15 W) => txt_conv (HT.out.below (below_next HB15.out h)) W (Below.refl _ _))
  generalize hsb : strOfNums bs = sb at *
  have HS_sb := Lib.hid hsb
  clear hsb
  go_upto_region 12 with fail
  refine Rl.wp_region_rel (fun a b => Below a.heap.size a b) w15 (fun a b c h h' => below_next h h') (fun a => Below.refl _ _) hmx (by kernel_rfl) (Below.refl _ _).drew ?_
  iterate 10 (refine Rl.textR_run ?_ (fun ρ => ?_) (fun ρ W hS hd => ?_) ?_; rotate_left; (focus go_simp); (focus (obtain ⟨hc, hf⟩ := bcell hS; go_simp; first | exact ⟨rfl, Below.refl _ _⟩ | (refine ⟨?_, Below.refl _ _⟩; rfl))); (try go_simp))
  iterate 6 (refine Rl.textR_skip (fun ρ => ?_) ?_; (focus (first | rfl | (go_simp; done) | (go_simp; rfl))); (try go_simp))
  iterate 3 (refine Rl.textR_run ?_ (fun ρ => ?_) (fun ρ W hS hd => ?_) ?_; rotate_left; (focus go_simp); (focus (obtain ⟨hc, hf⟩ := bcell hS; go_simp; first | exact ⟨rfl, Below.refl _ _⟩ | (refine ⟨?_, Below.refl _ _⟩; rfl))); (try go_simp))
  refine Rl.textR_run (.agg l1.toArray) (fun ρ => ?_) (fun ρ W hS hd => ?_) ?_
  · go_simp
  · exact Rl.comesToR_load 24 _ rfl w.heap.size (by go_simp) _ _ (HL1.out W hS) Tryd.underlying24 rfl HI1.out ⟨rfl, Below.refl _ _⟩
  (try go_simp)
  (refine Rl.textR_run ?_ (fun ρ => ?_) (fun ρ W hS hd => ?_) ?_; rotate_left; (focus go_simp); (focus (obtain ⟨hc, hf⟩ := bcell hS; go_simp; refine (KCA.out W).mono ?_; rintro e w1 ⟨rfl, hb⟩; refine ⟨_, rfl, ?_, hb⟩; rfl)); (try go_simp))
  (refine Rl.textR_run ?_ (fun ρ => ?_) (fun ρ W hS hd => ?_) ?_; rotate_left; (focus go_simp); (focus (obtain ⟨hc, hf⟩ := bcell hS; go_simp; refine (KCC.out W).mono ?_; rintro e w1 ⟨rfl, hb⟩; refine ⟨_, rfl, ?_, hb⟩; rfl)); (try go_simp))
  refine Rl.textR_run (.agg l1.toArray) (fun ρ => ?_) (fun ρ W hS hd => ?_) ?_
  · go_simp
  · exact Rl.comesToR_load 24 _ rfl w.heap.size (by go_simp) _ _ (HL1.out W hS) Tryd.underlying24 rfl HI1.out ⟨rfl, Below.refl _ _⟩
  (try go_simp)
  (refine Rl.textR_run ?_ (fun ρ => ?_) (fun ρ W hS hd => ?_) ?_; rotate_left; (focus go_simp); (focus (obtain ⟨hc, hf⟩ := bcell hS; go_simp; refine (KCA.out W).mono ?_; rintro e w1 ⟨rfl, hb⟩; refine ⟨_, rfl, ?_, hb⟩; rfl)); (try go_simp))
  refine Rl.textR_run (.bool true) (fun ρ => ?_) (fun ρ W hS hd => ?_) ?_
  · go_simp
  · exact Rl.comesToR_eql 24 _ _ _ rfl _ _ (by go_simp) (by go_simp) (by kernel_rfl) (EAA.out W) ⟨rfl, Below.refl _ _⟩
  (try go_simp)
  iterate 2 (refine Rl.textR_run ?_ (fun ρ => ?_) (fun ρ W hS hd => ?_) ?_; rotate_left; (focus go_simp); (focus (obtain ⟨hc, hf⟩ := bcell hS; go_simp; first | exact ⟨rfl, Below.refl _ _⟩ | (refine ⟨?_, Below.refl _ _⟩; rfl))); (try go_simp))
  (refine Rl.textR_run ?_ (fun ρ => ?_) (fun ρ W hS hd => ?_) ?_; rotate_left; (focus go_simp); (focus (obtain ⟨hc, hf⟩ := bcell hS; go_simp; refine (KO.out W hS).mono ?_; rintro e w1 ⟨rfl, hb⟩; refine ⟨_, rfl, ?_, hb⟩; rfl)); (try go_simp))
  iterate 2 (refine Rl.textR_run ?_ (fun ρ => ?_) (fun ρ W hS hd => ?_) ?_; rotate_left; (focus go_simp); (focus (obtain ⟨hc, hf⟩ := bcell hS; go_simp; first | exact ⟨rfl, Below.refl _ _⟩ | (refine ⟨?_, Below.refl _ _⟩; rfl))); (try go_simp))
  refine Rl.textR_nil ?_
  intro ρ w16 hg hk
  have HF := Lib.hid (below_next HB15.out hg)
  clear hg hk
  dsimp only
  
  clear ρ
  go_wp2_with fail
  go_ret
  exact ⟨rfl, HF.out⟩
set_option maxRecDepth 100000 in
set_option maxHeartbeats 2000000 in
theorem back_ny {a : List Int} (ha : Cmd12 a) (hri : rightL a = false) (la : Option Addr) (ll lcap : Nat) (bs : List Int) (w : World) (ht : TxtAt w (.slice la ll lcap) bs) (hl : ll ≤ 500) (hrd : readB bs = true) (hE : ErrAt w) (hN : CmdNamesAt w) : Calls Tryd.prog 5 #[.agg (cmdC a).toArray, .slice la ll lcap] w fun e w' => e = .returned (.bool true) ∧ Below w.heap.size w w' := by
  have hmx : Tryd.prog.follows .mixedOrders = true := by kernel_rfl
  have hd : decide ((ll : Int) > 500) = false := decide_eq_false (by omega)
  have hbl : bs.length = ll := ht.form.1.symm
  have hby : ∀ x ∈ bs, 0 ≤ x ∧ x ≤ 255 := by
    intro x hx
    rcases ht with ⟨b, o, c, _, _, hr⟩ | ⟨rfl, _⟩
    · obtain ⟨k, hk, rfl⟩ := List.mem_iff_getElem.1 hx
      have h1 := hr.lo k hk
      have h2 := hr.hi k hk
      simp [List.getD, List.getElem?_eq_getElem hk] at h1 h2
      exact ⟨h1, h2⟩
    · cases hx
  have hca := cleanL_cmd ha
  have hgb := gotC_cmd hby
  have hgo : Cmd12 (ownG a) := by unfold ownG; rw [hri]; exact zeros_cmd
  have hog : gotC (putC a) = ownG a ∧ codeC (putC a) = 11 := by have := own_read ha; rw [hri] at this; exact this
  have hi24 : ∀ {l : List Value}, l.length = 12 → (Tryd.prog.info? 24).map (·.size) = some l.length := fun h => by rw [h]; kernel_rfl
  have HE := Lib.hid hE
  have HN := Lib.hid hN
  have HT := Lib.hid ht
  have KCA := Lib.hid (fun W => clean_c ha W)
  have KCC := Lib.hid (fun W => clean_c hca W)
  rw [clean_clean] at KCC
  have KPA := Lib.hid (fun W => put_c ha W)
  have KPG := Lib.hid (fun W => put_c hgb W)
  have KRA := Lib.hid (fun W => right_c ha W)
  rw [hri] at KRA
  have EAA := Lib.hid (fun W => eqinC hca hca W)
  rw [show (cleanL a == cleanL a) = true from beq_self_eq_true _] at EAA
  have HOG := Lib.hid hog
  have HPM := Lib.hid (readB_more ha)
  have HPC := Lib.hid (readB_cut ha)
  have HPL := Lib.hid (putC_le ha)
  have hpp := putC_pos a
  have hpl := putC_le ha
  have HPP := Lib.hid hpp
  have HCD := Lib.hid (show codeC bs = 0 from codeC_yes hrd)
  have HBL := Lib.hid (show bs.length ≤ 1099511627775 by omega)
  have HBT := Lib.hid (back_text hby hrd)
  rw [HBT.out] at KPG
  have HI1 := Lib.hid (hi24 (cmdC_len ha.len))
  have HIC := Lib.hid (hi24 (cmdC_len hca.len))
  have HIG := Lib.hid (hi24 (cmdC_len hgb.len))
  have HIO := Lib.hid (hi24 (cmdC_len hgo.len))
  have HIZ := Lib.hid (hi24 (cmdC_len zeros_cmd.len))
  have HLG := Lib.hid (cmdC_len hgb.len)
  have HLO := Lib.hid (cmdC_len hgo.len)
  have HLZ := Lib.hid (cmdC_len zeros_cmd.len)
  have HOG1 := Lib.hid (cmdC_one (gotC bs))
  have HOO := Lib.hid (cmdC_one (ownG a))
  have HOZ := Lib.hid (cmdC_one (List.replicate 12 0))
  have HOC := Lib.hid (show ownG a = List.replicate 12 0 by unfold ownG; rw [hri]; rfl)
  rw [HOC.out] at HOO HIO HLO HOG
  generalize hp1 : putC a = pa at *
  generalize hl1 : cmdC a = l1 at *
  generalize hlg : cmdC (gotC bs) = lg at *
  generalize hlz : cmdC (List.replicate 12 0) = lz at *
  generalize hlc : cmdC (cleanL a) = lc at *
  have HLG0 := Lib.hid hlg
  have HLC0 := Lib.hid hlc
  have HLZ0 := Lib.hid hlz
  clear hca hgb hgo hog hi24 hE hN ht hp1 hl1 hlc hlg hlz ha hri hrd hby hbl
  go_enter Tryd.func5, Tryd.ntmps5
  go_upto_region 1 with fail
  have hA1 := below_alloc (Below.refl _ w) (.cells l1.toArray 24)
  have hN1 := World.alloc_heap_new w (.cells l1.toArray 24)
  have hs1 : (w.alloc (.cells l1.toArray 24)).heap.size = w.heap.size + 1 := by simp
  generalize w.alloc (.cells l1.toArray 24) = U at *
  have HB := Lib.hid hA1
  have HM1 := Lib.hid hN1
  have HS1 := Lib.hid hs1
  clear hA1 hN1 hs1
  go_upto_region 3 with fail
  refine wp_region_lit ?_
  refine wpList_load_all rfl 24 _ rfl w.heap.size l1 _ (by go_simp) HM1.out Tryd.underlying24 rfl HI1.out ?_
  refine wpList_enter rfl (by go_simp) (KPA.out U) ?_
  rintro e w2 ⟨u, rfl, ho, hb2⟩
  refine ⟨_, rfl, ?_⟩
  obtain ⟨g, cp, rfl, hcp, hcm⟩ : ∃ g c, u = .slice (some ⟨g, 0, none⟩) pa.length c ∧ pa.length ≤ c ∧ c ≤ maxLen := by
    rcases ho.form with ⟨_, h0⟩ | h
    · rw [h0] at hpp; simp at hpp
    · exact h
  have HU := Lib.hid ho
  have HB2 := Lib.hid (below_next HB.out hb2)
  have HM2 := Lib.hid ((hb2.block w.heap.size (by have := HS1.out; omega)).trans HM1.out)
  have HS2 := Lib.hid (show U.heap.size ≤ w2.heap.size from hb2.size)
  have HCP := Lib.hid hcp
  clear ho hb2 hcm hcp
  generalize hpn : pa.length = N at *
  have HPN := Lib.hid hpn
  clear hpn
  have hd12 : decide ((N : Int) < 12) = false := decide_eq_false (by omega)
  have KR := Lib.hid (read_c w2 HU.out.at (by have := HPN.out; have := HPL.out; omega) (HE.out.below HB2.out))
  rw [HOG.out.1, HOG.out.2, HLZ0.out] at KR
  go_upto_region 6 with fail
  refine wp_region_lit ?_
  refine wpList_yield (w' := w2) (v := .slice (some ⟨g, 0, none⟩) N cp) rfl (by go_simp) ?_
  refine wpList_enter rfl (by go_simp) KR.out ?_
  rintro e w3 ⟨rfl, hb3⟩
  refine ⟨_, rfl, ?_⟩
  refine wpList_yield (w' := w3) (v := .tuple #[.agg lz.toArray, .int .i64 11]) rfl (by go_simp) ?_
  refine wpList_yield (w' := w3) (v := .agg lz.toArray) rfl (by go_simp) ?_
  refine wpList_yield (w' := w3) (v := .int .i64 11) rfl (by go_simp) ?_
  refine wpList_yield (w' := w3.alloc (.cells #[.int .i64 0, .int .i64 0, .int .i64 0, .int .i64 0, .int .i64 0, .int .i64 0, .int .i64 0, .int .i64 0, .int .i64 0, .int .i64 0, .int .i64 0, .bool false] 24)) (v := .pointer (some ⟨w3.heap.size, 0, none⟩)) rfl (by go_simp) ?_
  refine wpList_store_all rfl 24 _ _ rfl w3.heap.size (cs := #[.int .i64 0, .int .i64 0, .int .i64 0, .int .i64 0, .int .i64 0, .int .i64 0, .int .i64 0, .int .i64 0, .int .i64 0, .int .i64 0, .int .i64 0, .bool false]) (T := 24) lz (by go_simp) (by go_simp) (World.alloc_heap_new _ _) (by rw [HLO.out]; rfl) HIO.out HOO.out ?_
  intro w4 hw4
  have hb4 := below_next hb3 (hw4.below (below_alloc (Below.refl _ w3) _) (Nat.le_refl _))
  have HB4 := Lib.hid (below_next HB2.out hb4)
  have HM4 := Lib.hid ((hb4.block w.heap.size (Array.getElem?_eq_some_iff.1 HM2.out).1).trans HM2.out)
  have HU4 := Lib.hid (HU.out.below hb4)
  have HX4 := Lib.hid hw4.there
  clear hw4 hb3 hb4 KR
  generalize w3.heap.size = p at *
  have HL1 := Lib.hid (fun (W : World) (h : Below w4.heap.size w4 W) => (h.block _ (Array.getElem?_eq_some_iff.1 HM4.out).1).trans HM4.out)
  have HLX := Lib.hid (fun (W : World) (h : Below w4.heap.size w4 W) => (h.block _ (Array.getElem?_eq_some_iff.1 HX4.out).1).trans HX4.out)
  go_upto_region 7 with fail
  refine Rl.wp_region_rel (fun a b => Below a.heap.size a b) w4 (fun a b c h h' => below_next h h') (fun a => Below.refl _ _) hmx (by kernel_rfl) (Below.refl _ _).drew ?_
  iterate 2 (refine Rl.textR_run ?_ (fun ρ => ?_) (fun ρ W hS hd => ?_) ?_; rotate_left; (focus go_simp); (focus (obtain ⟨hc, hf⟩ := bcell hS; go_simp; first | exact ⟨rfl, Below.refl _ _⟩ | (refine ⟨?_, Below.refl _ _⟩; rfl))); (try go_simp))
  refine Rl.textR_run (.agg l1.toArray) (fun ρ => ?_) (fun ρ W hS hd => ?_) ?_
  · go_simp
  · exact Rl.comesToR_load 24 _ rfl w.heap.size (by go_simp) _ _ (HL1.out W hS) Tryd.underlying24 rfl HI1.out ⟨rfl, Below.refl _ _⟩
  (try go_simp)
  (refine Rl.textR_run ?_ (fun ρ => ?_) (fun ρ W hS hd => ?_) ?_; rotate_left; (focus go_simp); (focus (obtain ⟨hc, hf⟩ := bcell hS; go_simp; refine (KRA.out W).mono ?_; rintro e w1 ⟨rfl, hb⟩; refine ⟨_, rfl, ?_, hb⟩; rfl)); (try go_simp))
  iterate 5 (refine Rl.textR_run ?_ (fun ρ => ?_) (fun ρ W hS hd => ?_) ?_; rotate_left; (focus go_simp); (focus (obtain ⟨hc, hf⟩ := bcell hS; go_simp; first | exact ⟨rfl, Below.refl _ _⟩ | (refine ⟨?_, Below.refl _ _⟩; rfl))); (try go_simp))
  iterate 4 (refine Rl.textR_skip (fun ρ => ?_) ?_; (focus (first | rfl | (go_simp; done) | (go_simp; rfl))); (try go_simp))
  iterate 10 (refine Rl.textR_run ?_ (fun ρ => ?_) (fun ρ W hS hd => ?_) ?_; rotate_left; (focus go_simp); (focus (obtain ⟨hc, hf⟩ := bcell hS; go_simp; first | exact ⟨rfl, Below.refl _ _⟩ | (refine ⟨?_, Below.refl _ _⟩; rfl))); (try go_simp))
  refine Rl.textR_nil ?_
  intro ρ w5 hg hk
  have HB5 := Lib.hid (below_next HB4.out hg)
  have HM5 := Lib.hid (HL1.out w5 hg)
  have HU5 := Lib.hid (HU4.out.below hg)
  clear hg hk HL1 HLX HX4
  dsimp only
  clear ρ
  have hsub : IntKind.i64.wrap ((N : Int) - 1) = ((N - 1 : Nat) : Int) := by rw [IntWalk.i64_in _ (by omega)]; omega
  have hsl := fun W => slice_to (ad := some ⟨g, 0, none⟩) (n := N) (c := cp) (s := N - 1) (.inr ⟨g, rfl⟩) (by have := HCP.out; omega) W
  have hot := HU5.out.take (k := N - 1) (by have := HPN.out; omega)
  have KR2 := Lib.hid (read_c w5 hot.at (by rw [List.length_take]; omega) (HE.out.below HB5.out))
  have hcut := HPC.out
  rw [gotC_no hcut, codeC_no hcut, HLZ0.out] at KR2
  have HSUB := Lib.hid hsub
  have HSL := Lib.hid hsl
  clear hot hcut hsub hsl
  go_upto_region 9 with fail
  refine wp_region_lit ?_
  refine wpList_yield (w' := w5) (v := .slice (some ⟨g, 0, none⟩) N cp) rfl (by go_simp) ?_
  refine wpList_yield (w' := w5) (v := .slice (some ⟨g, 0, none⟩) N cp) rfl (by go_simp) ?_
  refine wpList_yield (w' := w5) (v := .int .i64 (N : Int)) rfl (by go_simp) ?_
  refine wpList_yield (w' := w5) (v := .int .i64 ((N - 1 : Nat) : Int)) rfl (by rw [← HSUB.out]; go_simp) ?_
  refine wpList_yield (w' := w5) (v := .slice (some ⟨g, 0, none⟩) (N - 1) cp) rfl (by have hsl := HSL.out; go_simp) ?_
  refine wpList_enter rfl (by go_simp) KR2.out ?_
  rintro e w6 ⟨rfl, hb6⟩
  refine ⟨_, rfl, ?_⟩
  refine wpList_yield (w' := w6) (v := .tuple #[.agg lz.toArray, .int .i64 11]) rfl (by go_simp) ?_
  refine wpList_yield (w' := w6) (v := .agg lz.toArray) rfl (by go_simp) ?_
  refine wpList_yield (w' := w6) (v := .int .i64 11) rfl (by go_simp) ?_
  refine wpList_yield (w' := w6.alloc (.cells #[.int .i64 0, .int .i64 0, .int .i64 0, .int .i64 0, .int .i64 0, .int .i64 0, .int .i64 0, .int .i64 0, .int .i64 0, .int .i64 0, .int .i64 0, .bool false] 24)) (v := .pointer (some ⟨w6.heap.size, 0, none⟩)) rfl (by go_simp) ?_
  refine wpList_store_all rfl 24 _ _ rfl w6.heap.size (cs := #[.int .i64 0, .int .i64 0, .int .i64 0, .int .i64 0, .int .i64 0, .int .i64 0, .int .i64 0, .int .i64 0, .int .i64 0, .int .i64 0, .int .i64 0, .bool false]) (T := 24) lz (by go_simp) (by go_simp) (World.alloc_heap_new _ _) (by rw [HLZ.out]; rfl) HIZ.out HOZ.out ?_
  intro w7 hw7
  have hb7 := below_next hb6 (hw7.below (below_alloc (Below.refl _ w6) _) (Nat.le_refl _))
  have HB7 := Lib.hid (below_next HB5.out hb7)
  have HM7 := Lib.hid ((hb7.block w.heap.size (Array.getElem?_eq_some_iff.1 HM5.out).1).trans HM5.out)
  have HU7 := Lib.hid (HU5.out.below hb7)
  clear hw7 hb6 hb7 KR2
  generalize w6.heap.size = p2 at *
  have hA8 := below_alloc (Below.refl _ w7) (.cells #[] 5)
  have HO8 := Lib.hid (OwnTxt.new (w := w7) (B := w7.heap.size) (Nat.le_refl _))
  have HU8 := Lib.hid (HU7.out.below hA8)
  have HB8 := Lib.hid (below_next HB7.out hA8)
  have HM8 := Lib.hid ((hA8.block w.heap.size (Array.getElem?_eq_some_iff.1 HM7.out).1).trans HM7.out)
  have HZ8 := Lib.hid (show w7.heap.size ≤ (w7.alloc (.cells #[] 5)).heap.size from hA8.size)
  clear hA8
  go_upto_region 10 with fail
  refine wp_region_lit ?_
  refine wpList_yield (w' := w7.alloc (.cells #[] 5)) (v := .slice (some ⟨w7.heap.size, 0, none⟩) 0 0) rfl (by go_simp) ?_
  refine wpList_yield (w' := w7.alloc (.cells #[] 5)) (v := .slice (some ⟨g, 0, none⟩) N cp) rfl (by go_simp) ?_
  generalize w7.alloc (.cells #[] 5) = w8 at *
  refine wpList_append_txt (by rfl) _ _ (by rfl) w7.heap.size (.slice (some ⟨w7.heap.size, 0, none⟩) 0 0) [] (by go_simp) HO8.out (.slice (some ⟨g, 0, none⟩) N cp) pa (by go_simp) HU8.out.at (by have := HPN.out; simp; omega) HZ8.out ?_
  intro ad9 n9 c9 w9 o9 b9 g9
  rw [List.nil_append] at o9
  have HB9 := Lib.hid (HB8.out.trans (b9.mono HB7.out.size))
  have HM9 := Lib.hid ((b9.block w.heap.size (Array.getElem?_eq_some_iff.1 HM7.out).1).trans HM8.out)
  have hA10 := below_alloc (Below.refl _ w9) (.cells #[.int .u8 0] 5)
  have hT10 := byte_txt (World.alloc_heap_new w9 (.cells #[.int .u8 0] 5)) (by decide)
  have HO10 := Lib.hid (o9.below hA10)
  have HB10 := Lib.hid (below_next HB9.out hA10)
  have HM10 := Lib.hid ((hA10.block w.heap.size (Array.getElem?_eq_some_iff.1 HM9.out).1).trans HM9.out)
  have HZ10 := Lib.hid (show w7.heap.size ≤ (w9.alloc (.cells #[.int .u8 0] 5)).heap.size from Nat.le_trans (Nat.le_trans HZ8.out b9.size) hA10.size)
  have HT10 := Lib.hid hT10
  clear hA10 o9 b9 g9 hT10
  refine wpList_yield (w' := w9.alloc (.cells #[.int .u8 0] 5)) (v := .slice (some ⟨w9.heap.size, 0, none⟩) 1 1) rfl (by go_simp) ?_
  generalize w9.alloc (.cells #[.int .u8 0] 5) = w10 at *
  refine wpList_append_txt (by rfl) _ _ (by rfl) w7.heap.size (.slice ad9 n9 c9) pa (by go_simp) HO10.out (.slice (some ⟨w9.heap.size, 0, none⟩) 1 1) [0] (by go_simp) HT10.out (by have := HPN.out; simp; omega) HZ10.out ?_
  intro ad11 n11 c11 w11 o11 b11 g11
  have HB11 := Lib.hid (HB10.out.trans (b11.mono HB7.out.size))
  have HM11 := Lib.hid ((b11.block w.heap.size (Array.getElem?_eq_some_iff.1 HM7.out).1).trans HM10.out)
  have KR3 := Lib.hid (read_c w11 o11.at (by have := HPN.out; simp; omega) (HE.out.below HB11.out))
  rw [gotC_no HPM.out, codeC_no HPM.out, HLZ0.out] at KR3
  clear o11 b11 g11
  refine wpList_enter rfl (by go_simp) KR3.out ?_
  rintro e w12 ⟨rfl, hb12⟩
  refine ⟨_, rfl, ?_⟩
  refine wpList_yield (w' := w12) (v := .tuple #[.agg lz.toArray, .int .i64 11]) rfl (by go_simp) ?_
  refine wpList_yield (w' := w12) (v := .agg lz.toArray) rfl (by go_simp) ?_
  refine wpList_yield (w' := w12) (v := .int .i64 11) rfl (by go_simp) ?_
  refine wpList_yield (w' := w12.alloc (.cells #[.int .i64 0, .int .i64 0, .int .i64 0, .int .i64 0, .int .i64 0, .int .i64 0, .int .i64 0, .int .i64 0, .int .i64 0, .int .i64 0, .int .i64 0, .bool false] 24)) (v := .pointer (some ⟨w12.heap.size, 0, none⟩)) rfl (by go_simp) ?_
  refine wpList_store_all rfl 24 _ _ rfl w12.heap.size (cs := #[.int .i64 0, .int .i64 0, .int .i64 0, .int .i64 0, .int .i64 0, .int .i64 0, .int .i64 0, .int .i64 0, .int .i64 0, .int .i64 0, .int .i64 0, .bool false]) (T := 24) lz (by go_simp) (by go_simp) (World.alloc_heap_new _ _) (by rw [HLZ.out]; rfl) HIZ.out HOZ.out ?_
  intro w13 hw13
  have hb13 := below_next hb12 (hw13.below (below_alloc (Below.refl _ w12) _) (Nat.le_refl _))
  have HB13 := Lib.hid (below_next HB11.out hb13)
  have HM13 := Lib.hid ((hb13.block w.heap.size (Array.getElem?_eq_some_iff.1 HM11.out).1).trans HM11.out)
  clear hw13 hb12 hb13 KR3
  generalize w12.heap.size = p3 at *
  have KR4 := Lib.hid (read_c w13 (HT.out.below HB13.out) HBL.out (HE.out.below HB13.out))
  rw [HCD.out, HLG0.out] at KR4
  go_upto_region 11 with fail
  refine wp_region_lit ?_
  refine wpList_yield (w' := w13) (v := .slice la ll lcap) rfl (by go_simp) ?_
  refine wpList_enter rfl (by go_simp) KR4.out ?_
  rintro e w14 ⟨rfl, hb14⟩
  refine ⟨_, rfl, ?_⟩
  refine wpList_yield (w' := w14) (v := .tuple #[.agg lg.toArray, .int .i64 0]) rfl (by go_simp) ?_
  refine wpList_yield (w' := w14) (v := .agg lg.toArray) rfl (by go_simp) ?_
  refine wpList_yield (w' := w14) (v := .int .i64 0) rfl (by go_simp) ?_
  refine wpList_yield (w' := w14.alloc (.cells #[.int .i64 0, .int .i64 0, .int .i64 0, .int .i64 0, .int .i64 0, .int .i64 0, .int .i64 0, .int .i64 0, .int .i64 0, .int .i64 0, .int .i64 0, .bool false] 24)) (v := .pointer (some ⟨w14.heap.size, 0, none⟩)) rfl (by go_simp) ?_
  refine wpList_store_all rfl 24 _ _ rfl w14.heap.size (cs := #[.int .i64 0, .int .i64 0, .int .i64 0, .int .i64 0, .int .i64 0, .int .i64 0, .int .i64 0, .int .i64 0, .int .i64 0, .int .i64 0, .int .i64 0, .bool false]) (T := 24) lg (by go_simp) (by go_simp) (World.alloc_heap_new _ _) (by rw [HLG.out]; rfl) HIG.out HOG1.out ?_
  intro w15 hw15
  have hb15 := below_next hb14 (hw15.below (below_alloc (Below.refl _ w14) _) (Nat.le_refl _))
  have HB15 := Lib.hid (below_next HB13.out hb15)
  have HM15 := Lib.hid ((hb15.block w.heap.size (Array.getElem?_eq_some_iff.1 HM13.out).1).trans HM13.out)
  have HG15 := Lib.hid hw15.there
  clear hw15 hb14 hb15 KR4
  generalize w14.heap.size = p4 at *
  have HL1 := Lib.hid (fun (W : World) (h : Below w15.heap.size w15 W) => (h.block _ (Array.getElem?_eq_some_iff.1 HM15.out).1).trans HM15.out)
  have HLG1 := Lib.hid (fun (W : World) (h : Below w15.heap.size w15 W) => (h.block _ (Array.getElem?_eq_some_iff.1 HG15.out).1).trans HG15.out)
  have KO := Lib.hid (fun (W : World) (h : Below w15.heap.size w15 W) => cmd_one W (HE.out.below (below_next HB15.out h)) (HN.out.below (below_next HB15.out h)))
  have HTB := Lib.hid (fun (W : World) (h : Below w15.heap.size w15 W) => txt_conv (HT.out.below (below_next HB15.out h)) W (Below.refl _ _))
  generalize hsb : strOfNums bs = sb at *
  have HS_sb := Lib.hid hsb
  clear hsb
  go_upto_region 12 with fail
  refine Rl.wp_region_rel (fun a b => Below a.heap.size a b) w15 (fun a b c h h' => below_next h h') (fun a => Below.refl _ _) hmx (by kernel_rfl) (Below.refl _ _).drew ?_
  iterate 10 (refine Rl.textR_run ?_ (fun ρ => ?_) (fun ρ W hS hd => ?_) ?_; rotate_left; (focus go_simp); (focus (obtain ⟨hc, hf⟩ := bcell hS; go_simp; first | exact ⟨rfl, Below.refl _ _⟩ | (refine ⟨?_, Below.refl _ _⟩; rfl))); (try go_simp))
  refine Rl.textR_run (.agg lg.toArray) (fun ρ => ?_) (fun ρ W hS hd => ?_) ?_
  · go_simp
  · exact Rl.comesToR_load 24 _ rfl p4 (by go_simp) _ _ (HLG1.out W hS) Tryd.underlying24 rfl HIG.out ⟨rfl, Below.refl _ _⟩
  (try go_simp)
  refine Rl.textR_rel 84 (fun v w => TxtAt w v (bs)) rfl (fun v w w' hg h => h.below hg) (fun ρ => ?_) (fun ρ W hS hd => ?_) ?_
  · go_simp
  · go_simp
    refine (KPG.out W).mono ?_
    rintro e w1 ⟨u, rfl, ho, hb⟩
    exact ⟨u, rfl, ho.at, hb⟩
  (try go_simp)
  refine Rl.textR_run (.string sb) (fun ρ => ?_) (fun ρ W hS hd => ?_) ?_
  · go_simp
  · have hcv := txt_conv (hd (84, fun v w => TxtAt w v (bs)) (by first | exact List.mem_cons_self | (simp; done)) (show (84 : Nat) ∈ _ by decide)) W (Below.refl _ _)
    rw [show strOfNums (bs) = sb from HS_sb.out] at hcv
    simp only at hcv
    go_simp
    first | exact ⟨rfl, Below.refl _ _⟩ | exact Below.refl _ _
  (try go_simp)
  (refine Rl.textR_run ?_ (fun ρ => ?_) (fun ρ W hS hd => ?_) ?_; rotate_left; (focus go_simp); (focus (obtain ⟨hc, hf⟩ := bcell hS; go_simp; first | exact ⟨rfl, Below.refl _ _⟩ | (refine ⟨?_, Below.refl _ _⟩; rfl))); (try go_simp))
  (refine Rl.textR_run ?_ (fun ρ => ?_) (fun ρ W hS hd => ?_) ?_; rotate_left; (focus go_simp); (focus (have hfact := HTB.out W hS; go_simp; first | exact ⟨rfl, Below.refl _ _⟩ | (refine ⟨?_, Below.refl _ _⟩; rfl))); (try go_simp))
  iterate 4 (refine Rl.textR_run ?_ (fun ρ => ?_) (fun ρ W hS hd => ?_) ?_; rotate_left; (focus go_simp); (focus (obtain ⟨hc, hf⟩ := bcell hS; go_simp; first | exact ⟨rfl, Below.refl _ _⟩ | (refine ⟨?_, Below.refl _ _⟩; rfl))); (try go_simp))
  refine Rl.textR_run (.agg l1.toArray) (fun ρ => ?_) (fun ρ W hS hd => ?_) ?_
  · go_simp
  · exact Rl.comesToR_load 24 _ rfl w.heap.size (by go_simp) _ _ (HL1.out W hS) Tryd.underlying24 rfl HI1.out ⟨rfl, Below.refl _ _⟩
  (try go_simp)
  (refine Rl.textR_run ?_ (fun ρ => ?_) (fun ρ W hS hd => ?_) ?_; rotate_left; (focus go_simp); (focus (obtain ⟨hc, hf⟩ := bcell hS; go_simp; refine (KCA.out W).mono ?_; rintro e w1 ⟨rfl, hb⟩; refine ⟨_, rfl, ?_, hb⟩; rfl)); (try go_simp))
  (refine Rl.textR_run ?_ (fun ρ => ?_) (fun ρ W hS hd => ?_) ?_; rotate_left; (focus go_simp); (focus (obtain ⟨hc, hf⟩ := bcell hS; go_simp; refine (KCC.out W).mono ?_; rintro e w1 ⟨rfl, hb⟩; refine ⟨_, rfl, ?_, hb⟩; rfl)); (try go_simp))
  refine Rl.textR_run (.agg l1.toArray) (fun ρ => ?_) (fun ρ W hS hd => ?_) ?_
  · go_simp
  · exact Rl.comesToR_load 24 _ rfl w.heap.size (by go_simp) _ _ (HL1.out W hS) Tryd.underlying24 rfl HI1.out ⟨rfl, Below.refl _ _⟩
  (try go_simp)
  (refine Rl.textR_run ?_ (fun ρ => ?_) (fun ρ W hS hd => ?_) ?_; rotate_left; (focus go_simp); (focus (obtain ⟨hc, hf⟩ := bcell hS; go_simp; refine (KCA.out W).mono ?_; rintro e w1 ⟨rfl, hb⟩; refine ⟨_, rfl, ?_, hb⟩; rfl)); (try go_simp))
  refine Rl.textR_run (.bool true) (fun ρ => ?_) (fun ρ W hS hd => ?_) ?_
  · go_simp
  · exact Rl.comesToR_eql 24 _ _ _ rfl _ _ (by go_simp) (by go_simp) (by kernel_rfl) (EAA.out W) ⟨rfl, Below.refl _ _⟩
  (try go_simp)
  iterate 2 (refine Rl.textR_run ?_ (fun ρ => ?_) (fun ρ W hS hd => ?_) ?_; rotate_left; (focus go_simp); (focus (obtain ⟨hc, hf⟩ := bcell hS; go_simp; first | exact ⟨rfl, Below.refl _ _⟩ | (refine ⟨?_, Below.refl _ _⟩; rfl))); (try go_simp))
  (refine Rl.textR_run ?_ (fun ρ => ?_) (fun ρ W hS hd => ?_) ?_; rotate_left; (focus go_simp); (focus (obtain ⟨hc, hf⟩ := bcell hS; go_simp; refine (KO.out W hS).mono ?_; rintro e w1 ⟨rfl, hb⟩; refine ⟨_, rfl, ?_, hb⟩; rfl)); (try go_simp))
  iterate 2 (refine Rl.textR_run ?_ (fun ρ => ?_) (fun ρ W hS hd => ?_) ?_; rotate_left; (focus go_simp); (focus (obtain ⟨hc, hf⟩ := bcell hS; go_simp; first | exact ⟨rfl, Below.refl _ _⟩ | (refine ⟨?_, Below.refl _ _⟩; rfl))); (try go_simp))
  refine Rl.textR_nil ?_
  intro ρ w16 hg hk
  have HF := Lib.hid (below_next HB15.out hg)
  clear hg hk
  dsimp only
  generalize ρ 84 = z1
  clear ρ
  go_wp2_with fail
  go_ret
  exact ⟨rfl, HF.out⟩
set_option maxRecDepth 100000 in
set_option maxHeartbeats 2000000 in
theorem back_nn {a : List Int} (ha : Cmd12 a) (hri : rightL a = false) (la : Option Addr) (ll lcap : Nat) (bs : List Int) (w : World) (ht : TxtAt w (.slice la ll lcap) bs) (hl : ll ≤ 500) (hrd : readB bs = false) (hE : ErrAt w) (hN : CmdNamesAt w) : Calls Tryd.prog 5 #[.agg (cmdC a).toArray, .slice la ll lcap] w fun e w' => e = .returned (.bool true) ∧ Below w.heap.size w w' := by
  have hmx : Tryd.prog.follows .mixedOrders = true := by kernel_rfl
  have hd : decide ((ll : Int) > 500) = false := decide_eq_false (by omega)
  have hbl : bs.length = ll := ht.form.1.symm
  have hby : ∀ x ∈ bs, 0 ≤ x ∧ x ≤ 255 := by
    intro x hx
    rcases ht with ⟨b, o, c, _, _, hr⟩ | ⟨rfl, _⟩
    · obtain ⟨k, hk, rfl⟩ := List.mem_iff_getElem.1 hx
      have h1 := hr.lo k hk
      have h2 := hr.hi k hk
      simp [List.getD, List.getElem?_eq_getElem hk] at h1 h2
      exact ⟨h1, h2⟩
    · cases hx
  have hca := cleanL_cmd ha
  have hgb := gotC_cmd hby
  have hgo : Cmd12 (ownG a) := by unfold ownG; rw [hri]; exact zeros_cmd
  have hog : gotC (putC a) = ownG a ∧ codeC (putC a) = 11 := by have := own_read ha; rw [hri] at this; exact this
  have hi24 : ∀ {l : List Value}, l.length = 12 → (Tryd.prog.info? 24).map (·.size) = some l.length := fun h => by rw [h]; kernel_rfl
  have HE := Lib.hid hE
  have HN := Lib.hid hN
  have HT := Lib.hid ht
  have KCA := Lib.hid (fun W => clean_c ha W)
  have KCC := Lib.hid (fun W => clean_c hca W)
  rw [clean_clean] at KCC
  have KPA := Lib.hid (fun W => put_c ha W)
  have KPG := Lib.hid (fun W => put_c hgb W)
  have KRA := Lib.hid (fun W => right_c ha W)
  rw [hri] at KRA
  have EAA := Lib.hid (fun W => eqinC hca hca W)
  rw [show (cleanL a == cleanL a) = true from beq_self_eq_true _] at EAA
  have HOG := Lib.hid hog
  have HPM := Lib.hid (readB_more ha)
  have HPC := Lib.hid (readB_cut ha)
  have HPL := Lib.hid (putC_le ha)
  have hpp := putC_pos a
  have hpl := putC_le ha
  have HPP := Lib.hid hpp
  have HCD := Lib.hid (show codeC bs = 11 from codeC_no hrd)
  have HBL := Lib.hid (show bs.length ≤ 1099511627775 by omega)
  have HI1 := Lib.hid (hi24 (cmdC_len ha.len))
  have HIC := Lib.hid (hi24 (cmdC_len hca.len))
  have HIG := Lib.hid (hi24 (cmdC_len hgb.len))
  have HIO := Lib.hid (hi24 (cmdC_len hgo.len))
  have HIZ := Lib.hid (hi24 (cmdC_len zeros_cmd.len))
  have HLG := Lib.hid (cmdC_len hgb.len)
  have HLO := Lib.hid (cmdC_len hgo.len)
  have HLZ := Lib.hid (cmdC_len zeros_cmd.len)
  have HOG1 := Lib.hid (cmdC_one (gotC bs))
  have HOO := Lib.hid (cmdC_one (ownG a))
  have HOZ := Lib.hid (cmdC_one (List.replicate 12 0))
  have HOC := Lib.hid (show ownG a = List.replicate 12 0 by unfold ownG; rw [hri]; rfl)
  rw [HOC.out] at HOO HIO HLO HOG
  generalize hp1 : putC a = pa at *
  generalize hl1 : cmdC a = l1 at *
  generalize hlg : cmdC (gotC bs) = lg at *
  generalize hlz : cmdC (List.replicate 12 0) = lz at *
  generalize hlc : cmdC (cleanL a) = lc at *
  have HLG0 := Lib.hid hlg
  have HLC0 := Lib.hid hlc
  have HLZ0 := Lib.hid hlz
  clear hca hgb hgo hog hi24 hE hN ht hp1 hl1 hlc hlg hlz ha hri hrd hby hbl
  go_enter Tryd.func5, Tryd.ntmps5
  go_upto_region 1 with fail
  have hA1 := below_alloc (Below.refl _ w) (.cells l1.toArray 24)
  have hN1 := World.alloc_heap_new w (.cells l1.toArray 24)
  have hs1 : (w.alloc (.cells l1.toArray 24)).heap.size = w.heap.size + 1 := by simp
  generalize w.alloc (.cells l1.toArray 24) = U at *
  have HB := Lib.hid hA1
  have HM1 := Lib.hid hN1
  have HS1 := Lib.hid hs1
  clear hA1 hN1 hs1
  go_upto_region 3 with fail
  refine wp_region_lit ?_
  refine wpList_load_all rfl 24 _ rfl w.heap.size l1 _ (by go_simp) HM1.out Tryd.underlying24 rfl HI1.out ?_
  refine wpList_enter rfl (by go_simp) (KPA.out U) ?_
  rintro e w2 ⟨u, rfl, ho, hb2⟩
  refine ⟨_, rfl, ?_⟩
  obtain ⟨g, cp, rfl, hcp, hcm⟩ : ∃ g c, u = .slice (some ⟨g, 0, none⟩) pa.length c ∧ pa.length ≤ c ∧ c ≤ maxLen := by
    rcases ho.form with ⟨_, h0⟩ | h
    · rw [h0] at hpp; simp at hpp
    · exact h
  have HU := Lib.hid ho
  have HB2 := Lib.hid (below_next HB.out hb2)
  have HM2 := Lib.hid ((hb2.block w.heap.size (by have := HS1.out; omega)).trans HM1.out)
  have HS2 := Lib.hid (show U.heap.size ≤ w2.heap.size from hb2.size)
  have HCP := Lib.hid hcp
  clear ho hb2 hcm hcp
  generalize hpn : pa.length = N at *
  have HPN := Lib.hid hpn
  clear hpn
  have hd12 : decide ((N : Int) < 12) = false := decide_eq_false (by omega)
  have KR := Lib.hid (read_c w2 HU.out.at (by have := HPN.out; have := HPL.out; omega) (HE.out.below HB2.out))
  rw [HOG.out.1, HOG.out.2, HLZ0.out] at KR
  go_upto_region 6 with fail
  refine wp_region_lit ?_
  refine wpList_yield (w' := w2) (v := .slice (some ⟨g, 0, none⟩) N cp) rfl (by go_simp) ?_
  refine wpList_enter rfl (by go_simp) KR.out ?_
  rintro e w3 ⟨rfl, hb3⟩
  refine ⟨_, rfl, ?_⟩
  refine wpList_yield (w' := w3) (v := .tuple #[.agg lz.toArray, .int .i64 11]) rfl (by go_simp) ?_
  refine wpList_yield (w' := w3) (v := .agg lz.toArray) rfl (by go_simp) ?_
  refine wpList_yield (w' := w3) (v := .int .i64 11) rfl (by go_simp) ?_
  refine wpList_yield (w' := w3.alloc (.cells #[.int .i64 0, .int .i64 0, .int .i64 0, .int .i64 0, .int .i64 0, .int .i64 0, .int .i64 0, .int .i64 0, .int .i64 0, .int .i64 0, .int .i64 0, .bool false] 24)) (v := .pointer (some ⟨w3.heap.size, 0, none⟩)) rfl (by go_simp) ?_
  refine wpList_store_all rfl 24 _ _ rfl w3.heap.size (cs := #[.int .i64 0, .int .i64 0, .int .i64 0, .int .i64 0, .int .i64 0, .int .i64 0, .int .i64 0, .int .i64 0, .int .i64 0, .int .i64 0, .int .i64 0, .bool false]) (T := 24) lz (by go_simp) (by go_simp) (World.alloc_heap_new _ _) (by rw [HLO.out]; rfl) HIO.out HOO.out ?_
  intro w4 hw4
  have hb4 := below_next hb3 (hw4.below (below_alloc (Below.refl _ w3) _) (Nat.le_refl _))
  have HB4 := Lib.hid (below_next HB2.out hb4)
  have HM4 := Lib.hid ((hb4.block w.heap.size (Array.getElem?_eq_some_iff.1 HM2.out).1).trans HM2.out)
  have HU4 := Lib.hid (HU.out.below hb4)
  have HX4 := Lib.hid hw4.there
  clear hw4 hb3 hb4 KR
  generalize w3.heap.size = p at *
  have HL1 := Lib.hid (fun (W : World) (h : Below w4.heap.size w4 W) => (h.block _ (Array.getElem?_eq_some_iff.1 HM4.out).1).trans HM4.out)
  have HLX := Lib.hid (fun (W : World) (h : Below w4.heap.size w4 W) => (h.block _ (Array.getElem?_eq_some_iff.1 HX4.out).1).trans HX4.out)
  go_upto_region 7 with fail
  refine Rl.wp_region_rel (fun a b => Below a.heap.size a b) w4 (fun a b c h h' => below_next h h') (fun a => Below.refl _ _) hmx (by kernel_rfl) (Below.refl _ _).drew ?_
  iterate 2 (refine Rl.textR_run ?_ (fun ρ => ?_) (fun ρ W hS hd => ?_) ?_; rotate_left; (focus go_simp); (focus (obtain ⟨hc, hf⟩ := bcell hS; go_simp; first | exact ⟨rfl, Below.refl _ _⟩ | (refine ⟨?_, Below.refl _ _⟩; rfl))); (try go_simp))
  refine Rl.textR_run (.agg l1.toArray) (fun ρ => ?_) (fun ρ W hS hd => ?_) ?_
  · go_simp
  · exact Rl.comesToR_load 24 _ rfl w.heap.size (by go_simp) _ _ (HL1.out W hS) Tryd.underlying24 rfl HI1.out ⟨rfl, Below.refl _ _⟩
  (try go_simp)
  (refine Rl.textR_run ?_ (fun ρ => ?_) (fun ρ W hS hd => ?_) ?_; rotate_left; (focus go_simp); (focus (obtain ⟨hc, hf⟩ := bcell hS; go_simp; refine (KRA.out W).mono ?_; rintro e w1 ⟨rfl, hb⟩; refine ⟨_, rfl, ?_, hb⟩; rfl)); (try go_simp))
  iterate 5 (refine Rl.textR_run ?_ (fun ρ => ?_) (fun ρ W hS hd => ?_) ?_; rotate_left; (focus go_simp); (focus (obtain ⟨hc, hf⟩ := bcell hS; go_simp; first | exact ⟨rfl, Below.refl _ _⟩ | (refine ⟨?_, Below.refl _ _⟩; rfl))); (try go_simp))
  iterate 4 (refine Rl.textR_skip (fun ρ => ?_) ?_; (focus (first | rfl | (go_simp; done) | (go_simp; rfl))); (try go_simp))
  iterate 10 (refine Rl.textR_run ?_ (fun ρ => ?_) (fun ρ W hS hd => ?_) ?_; rotate_left; (focus go_simp); (focus (obtain ⟨hc, hf⟩ := bcell hS; go_simp; first | exact ⟨rfl, Below.refl _ _⟩ | (refine ⟨?_, Below.refl _ _⟩; rfl))); (try go_simp))
  refine Rl.textR_nil ?_
  intro ρ w5 hg hk
  have HB5 := Lib.hid (below_next HB4.out hg)
  have HM5 := Lib.hid (HL1.out w5 hg)
  have HU5 := Lib.hid (HU4.out.below hg)
  clear hg hk HL1 HLX HX4
  dsimp only
  clear ρ
  have hsub : IntKind.i64.wrap ((N : Int) - 1) = ((N - 1 : Nat) : Int) := by rw [IntWalk.i64_in _ (by omega)]; omega
  have hsl := fun W => slice_to (ad := some ⟨g, 0, none⟩) (n := N) (c := cp) (s := N - 1) (.inr ⟨g, rfl⟩) (by have := HCP.out; omega) W
  have hot := HU5.out.take (k := N - 1) (by have := HPN.out; omega)
  have KR2 := Lib.hid (read_c w5 hot.at (by rw [List.length_take]; omega) (HE.out.below HB5.out))
  have hcut := HPC.out
  rw [gotC_no hcut, codeC_no hcut, HLZ0.out] at KR2
  have HSUB := Lib.hid hsub
  have HSL := Lib.hid hsl
  clear hot hcut hsub hsl
  go_upto_region 9 with fail
  refine wp_region_lit ?_
  refine wpList_yield (w' := w5) (v := .slice (some ⟨g, 0, none⟩) N cp) rfl (by go_simp) ?_
  refine wpList_yield (w' := w5) (v := .slice (some ⟨g, 0, none⟩) N cp) rfl (by go_simp) ?_
  refine wpList_yield (w' := w5) (v := .int .i64 (N : Int)) rfl (by go_simp) ?_
  refine wpList_yield (w' := w5) (v := .int .i64 ((N - 1 : Nat) : Int)) rfl (by rw [← HSUB.out]; go_simp) ?_
  refine wpList_yield (w' := w5) (v := .slice (some ⟨g, 0, none⟩) (N - 1) cp) rfl (by have hsl := HSL.out; go_simp) ?_
  refine wpList_enter rfl (by go_simp) KR2.out ?_
  rintro e w6 ⟨rfl, hb6⟩
  refine ⟨_, rfl, ?_⟩
  refine wpList_yield (w' := w6) (v := .tuple #[.agg lz.toArray, .int .i64 11]) rfl (by go_simp) ?_
  refine wpList_yield (w' := w6) (v := .agg lz.toArray) rfl (by go_simp) ?_
  refine wpList_yield (w' := w6) (v := .int .i64 11) rfl (by go_simp) ?_
  refine wpList_yield (w' := w6.alloc (.cells #[.int .i64 0, .int .i64 0, .int .i64 0, .int .i64 0, .int .i64 0, .int .i64 0, .int .i64 0, .int .i64 0, .int .i64 0, .int .i64 0, .int .i64 0, .bool false] 24)) (v := .pointer (some ⟨w6.heap.size, 0, none⟩)) rfl (by go_simp) ?_
  refine wpList_store_all rfl 24 _ _ rfl w6.heap.size (cs := #[.int .i64 0, .int .i64 0, .int .i64 0, .int .i64 0, .int .i64 0, .int .i64 0, .int .i64 0, .int .i64 0, .int .i64 0, .int .i64 0, .int .i64 0, .bool false]) (T := 24) lz (by go_simp) (by go_simp) (World.alloc_heap_new _ _) (by rw [HLZ.out]; rfl) HIZ.out HOZ.out ?_
  intro w7 hw7
  have hb7 := below_next hb6 (hw7.below (below_alloc (Below.refl _ w6) _) (Nat.le_refl _))
  have HB7 := Lib.hid (below_next HB5.out hb7)
  have HM7 := Lib.hid ((hb7.block w.heap.size (Array.getElem?_eq_some_iff.1 HM5.out).1).trans HM5.out)
  have HU7 := Lib.hid (HU5.out.below hb7)
  clear hw7 hb6 hb7 KR2
  generalize w6.heap.size = p2 at *
  have hA8 := below_alloc (Below.refl _ w7) (.cells #[] 5)
  have HO8 := Lib.hid (OwnTxt.new (w := w7) (B := w7.heap.size) (Nat.le_refl _))
  have HU8 := Lib.hid (HU7.out.below hA8)
  have HB8 := Lib.hid (below_next HB7.out hA8)
  have HM8 := Lib.hid ((hA8.block w.heap.size (Array.getElem?_eq_some_iff.1 HM7.out).1).trans HM7.out)
  have HZ8 := Lib.hid (show w7.heap.size ≤ (w7.alloc (.cells #[] 5)).heap.size from hA8.size)
  clear hA8
  go_upto_region 10 with fail
  refine wp_region_lit ?_
  refine wpList_yield (w' := w7.alloc (.cells #[] 5)) (v := .slice (some ⟨w7.heap.size, 0, none⟩) 0 0) rfl (by go_simp) ?_
  refine wpList_yield (w' := w7.alloc (.cells #[] 5)) (v := .slice (some ⟨g, 0, none⟩) N cp) rfl (by go_simp) ?_
  generalize w7.alloc (.cells #[] 5) = w8 at *
  refine wpList_append_txt (by rfl) _ _ (by rfl) w7.heap.size (.slice (some ⟨w7.heap.size, 0, none⟩) 0 0) [] (by go_simp) HO8.out (.slice (some ⟨g, 0, none⟩) N cp) pa (by go_simp) HU8.out.at (by have := HPN.out; simp; omega) HZ8.out ?_
  intro ad9 n9 c9 w9 o9 b9 g9
  rw [List.nil_append] at o9
  have HB9 := Lib.hid (HB8.out.trans (b9.mono HB7.out.size))
  have HM9 := Lib.hid ((b9.block w.heap.size (Array.getElem?_eq_some_iff.1 HM7.out).1).trans HM8.out)
  have hA10 := below_alloc (Below.refl _ w9) (.cells #[.int .u8 0] 5)
  have hT10 := byte_txt (World.alloc_heap_new w9 (.cells #[.int .u8 0] 5)) (by decide)
  have HO10 := Lib.hid (o9.below hA10)
  have HB10 := Lib.hid (below_next HB9.out hA10)
  have HM10 := Lib.hid ((hA10.block w.heap.size (Array.getElem?_eq_some_iff.1 HM9.out).1).trans HM9.out)
  have HZ10 := Lib.hid (show w7.heap.size ≤ (w9.alloc (.cells #[.int .u8 0] 5)).heap.size from Nat.le_trans (Nat.le_trans HZ8.out b9.size) hA10.size)
  have HT10 := Lib.hid hT10
  clear hA10 o9 b9 g9 hT10
  refine wpList_yield (w' := w9.alloc (.cells #[.int .u8 0] 5)) (v := .slice (some ⟨w9.heap.size, 0, none⟩) 1 1) rfl (by go_simp) ?_
  generalize w9.alloc (.cells #[.int .u8 0] 5) = w10 at *
  refine wpList_append_txt (by rfl) _ _ (by rfl) w7.heap.size (.slice ad9 n9 c9) pa (by go_simp) HO10.out (.slice (some ⟨w9.heap.size, 0, none⟩) 1 1) [0] (by go_simp) HT10.out (by have := HPN.out; simp; omega) HZ10.out ?_
  intro ad11 n11 c11 w11 o11 b11 g11
  have HB11 := Lib.hid (HB10.out.trans (b11.mono HB7.out.size))
  have HM11 := Lib.hid ((b11.block w.heap.size (Array.getElem?_eq_some_iff.1 HM7.out).1).trans HM10.out)
  have KR3 := Lib.hid (read_c w11 o11.at (by have := HPN.out; simp; omega) (HE.out.below HB11.out))
  rw [gotC_no HPM.out, codeC_no HPM.out, HLZ0.out] at KR3
  clear o11 b11 g11
  refine wpList_enter rfl (by go_simp) KR3.out ?_
  rintro e w12 ⟨rfl, hb12⟩
  refine ⟨_, rfl, ?_⟩
  refine wpList_yield (w' := w12) (v := .tuple #[.agg lz.toArray, .int .i64 11]) rfl (by go_simp) ?_
  refine wpList_yield (w' := w12) (v := .agg lz.toArray) rfl (by go_simp) ?_
  refine wpList_yield (w' := w12) (v := .int .i64 11) rfl (by go_simp) ?_
  refine wpList_yield (w' := w12.alloc (.cells #[.int .i64 0, .int .i64 0, .int .i64 0, .int .i64 0, .int .i64 0, .int .i64 0, .int .i64 0, .int .i64 0, .int .i64 0, .int .i64 0, .int .i64 0, .bool false] 24)) (v := .pointer (some ⟨w12.heap.size, 0, none⟩)) rfl (by go_simp) ?_
  refine wpList_store_all rfl 24 _ _ rfl w12.heap.size (cs := #[.int .i64 0, .int .i64 0, .int .i64 0, .int .i64 0, .int .i64 0, .int .i64 0, .int .i64 0, .int .i64 0, .int .i64 0, .int .i64 0, .int .i64 0, .bool false]) (T := 24) lz (by go_simp) (by go_simp) (World.alloc_heap_new _ _) (by rw [HLZ.out]; rfl) HIZ.out HOZ.out ?_
  intro w13 hw13
  have hb13 := below_next hb12 (hw13.below (below_alloc (Below.refl _ w12) _) (Nat.le_refl _))
  have HB13 := Lib.hid (below_next HB11.out hb13)
  have HM13 := Lib.hid ((hb13.block w.heap.size (Array.getElem?_eq_some_iff.1 HM11.out).1).trans HM11.out)
  clear hw13 hb12 hb13 KR3
  generalize w12.heap.size = p3 at *
  have KR4 := Lib.hid (read_c w13 (HT.out.below HB13.out) HBL.out (HE.out.below HB13.out))
  rw [HCD.out, HLG0.out] at KR4
  go_upto_region 11 with fail
  refine wp_region_lit ?_
  refine wpList_yield (w' := w13) (v := .slice la ll lcap) rfl (by go_simp) ?_
  refine wpList_enter rfl (by go_simp) KR4.out ?_
  rintro e w14 ⟨rfl, hb14⟩
  refine ⟨_, rfl, ?_⟩
  refine wpList_yield (w' := w14) (v := .tuple #[.agg lg.toArray, .int .i64 11]) rfl (by go_simp) ?_
  refine wpList_yield (w' := w14) (v := .agg lg.toArray) rfl (by go_simp) ?_
  refine wpList_yield (w' := w14) (v := .int .i64 11) rfl (by go_simp) ?_
  refine wpList_yield (w' := w14.alloc (.cells #[.int .i64 0, .int .i64 0, .int .i64 0, .int .i64 0, .int .i64 0, .int .i64 0, .int .i64 0, .int .i64 0, .int .i64 0, .int .i64 0, .int .i64 0, .bool false] 24)) (v := .pointer (some ⟨w14.heap.size, 0, none⟩)) rfl (by go_simp) ?_
  refine wpList_store_all rfl 24 _ _ rfl w14.heap.size (cs := #[.int .i64 0, .int .i64 0, .int .i64 0, .int .i64 0, .int .i64 0, .int .i64 0, .int .i64 0, .int .i64 0, .int .i64 0, .int .i64 0, .int .i64 0, .bool false]) (T := 24) lg (by go_simp) (by go_simp) (World.alloc_heap_new _ _) (by rw [HLG.out]; rfl) HIG.out HOG1.out ?_
  intro w15 hw15
  have hb15 := below_next hb14 (hw15.below (below_alloc (Below.refl _ w14) _) (Nat.le_refl _))
  have HB15 := Lib.hid (below_next HB13.out hb15)
  have HM15 := Lib.hid ((hb15.block w.heap.size (Array.getElem?_eq_some_iff.1 HM13.out).1).trans HM13.out)
  have HG15 := Lib.hid hw15.there
  clear hw15 hb14 hb15 KR4
  generalize w14.heap.size = p4 at *
  have HL1 := Lib.hid (fun (W : World) (h : Below w15.heap.size w15 W) => (h.block _ (Array.getElem?_eq_some_iff.1 HM15.out).1).trans HM15.out)
  have HLG1 := Lib.hid (fun (W : World) (h : Below w15.heap.size w15 W) => (h.block _ (Array.getElem?_eq_some_iff.1 HG15.out).1).trans HG15.out)
  have KO := Lib.hid (fun (W : World) (h : Below w15.heap.size w15 W) => cmd_one W (HE.out.below (below_next HB15.out h)) (HN.out.below (below_next HB15.out h)))
  have HTB := Lib.hid (fun (W : World) (h : Below w15.heap.size w15 W) => txt_conv (HT.out.below (below_next HB15.out h)) W (Below.refl _ _))
  generalize hsb : strOfNums bs = sb at *
  have HS_sb := Lib.hid hsb
  clear hsb
  go_upto_region 12 with fail
  refine Rl.wp_region_rel (fun a b => Below a.heap.size a b) w15 (fun a b c h h' => below_next h h') (fun a => Below.refl _ _) hmx (by kernel_rfl) (Below.refl _ _).drew ?_
  iterate 10 (refine Rl.textR_run ?_ (fun ρ => ?_) (fun ρ W hS hd => ?_) ?_; rotate_left; (focus go_simp); (focus (obtain ⟨hc, hf⟩ := bcell hS; go_simp; first | exact ⟨rfl, Below.refl _ _⟩ | (refine ⟨?_, Below.refl _ _⟩; rfl))); (try go_simp))
  iterate 6 (refine Rl.textR_skip (fun ρ => ?_) ?_; (focus (first | rfl | (go_simp; done) | (go_simp; rfl))); (try go_simp))
  iterate 3 (refine Rl.textR_run ?_ (fun ρ => ?_) (fun ρ W hS hd => ?_) ?_; rotate_left; (focus go_simp); (focus (obtain ⟨hc, hf⟩ := bcell hS; go_simp; first | exact ⟨rfl, Below.refl _ _⟩ | (refine ⟨?_, Below.refl _ _⟩; rfl))); (try go_simp))
  refine Rl.textR_run (.agg l1.toArray) (fun ρ => ?_) (fun ρ W hS hd => ?_) ?_
  · go_simp
  · exact Rl.comesToR_load 24 _ rfl w.heap.size (by go_simp) _ _ (HL1.out W hS) Tryd.underlying24 rfl HI1.out ⟨rfl, Below.refl _ _⟩
  (try go_simp)
  (refine Rl.textR_run ?_ (fun ρ => ?_) (fun ρ W hS hd => ?_) ?_; rotate_left; (focus go_simp); (focus (obtain ⟨hc, hf⟩ := bcell hS; go_simp; refine (KCA.out W).mono ?_; rintro e w1 ⟨rfl, hb⟩; refine ⟨_, rfl, ?_, hb⟩; rfl)); (try go_simp))
  (refine Rl.textR_run ?_ (fun ρ => ?_) (fun ρ W hS hd => ?_) ?_; rotate_left; (focus go_simp); (focus (obtain ⟨hc, hf⟩ := bcell hS; go_simp; refine (KCC.out W).mono ?_; rintro e w1 ⟨rfl, hb⟩; refine ⟨_, rfl, ?_, hb⟩; rfl)); (try go_simp))
  refine Rl.textR_run (.agg l1.toArray) (fun ρ => ?_) (fun ρ W hS hd => ?_) ?_
  · go_simp
  · exact Rl.comesToR_load 24 _ rfl w.heap.size (by go_simp) _ _ (HL1.out W hS) Tryd.underlying24 rfl HI1.out ⟨rfl, Below.refl _ _⟩
  (try go_simp)
  (refine Rl.textR_run ?_ (fun ρ => ?_) (fun ρ W hS hd => ?_) ?_; rotate_left; (focus go_simp); (focus (obtain ⟨hc, hf⟩ := bcell hS; go_simp; refine (KCA.out W).mono ?_; rintro e w1 ⟨rfl, hb⟩; refine ⟨_, rfl, ?_, hb⟩; rfl)); (try go_simp))
  refine Rl.textR_run (.bool true) (fun ρ => ?_) (fun ρ W hS hd => ?_) ?_
  · go_simp
  · exact Rl.comesToR_eql 24 _ _ _ rfl _ _ (by go_simp) (by go_simp) (by kernel_rfl) (EAA.out W) ⟨rfl, Below.refl _ _⟩
  (try go_simp)
  iterate 2 (refine Rl.textR_run ?_ (fun ρ => ?_) (fun ρ W hS hd => ?_) ?_; rotate_left; (focus go_simp); (focus (obtain ⟨hc, hf⟩ := bcell hS; go_simp; first | exact ⟨rfl, Below.refl _ _⟩ | (refine ⟨?_, Below.refl _ _⟩; rfl))); (try go_simp))
  (refine Rl.textR_run ?_ (fun ρ => ?_) (fun ρ W hS hd => ?_) ?_; rotate_left; (focus go_simp); (focus (obtain ⟨hc, hf⟩ := bcell hS; go_simp; refine (KO.out W hS).mono ?_; rintro e w1 ⟨rfl, hb⟩; refine ⟨_, rfl, ?_, hb⟩; rfl)); (try go_simp))
  iterate 2 (refine Rl.textR_run ?_ (fun ρ => ?_) (fun ρ W hS hd => ?_) ?_; rotate_left; (focus go_simp); (focus (obtain ⟨hc, hf⟩ := bcell hS; go_simp; first | exact ⟨rfl, Below.refl _ _⟩ | (refine ⟨?_, Below.refl _ _⟩; rfl))); (try go_simp))
  refine Rl.textR_nil ?_
  intro ρ w16 hg hk
  have HF := Lib.hid (below_next HB15.out hg)
  clear hg hk
  dsimp only
  
  clear ρ
  go_wp2_with fail
  go_ret
  exact ⟨rfl, HF.out⟩
theorem back_anyC {a : List Int} (ha : Cmd12 a) (la : Option Addr) (ll lcap : Nat) (bs : List Int) (w : World) (ht : TxtAt w (.slice la ll lcap) bs) (hE : ErrAt w) (hN : CmdNamesAt w) : Calls Tryd.prog 5 #[.agg (cmdC a).toArray, .slice la ll lcap] w fun e w' => e = .returned (.bool true) ∧ Below w.heap.size w w' := by
  by_cases hl : ll ≤ 500
  · cases hri : rightL a <;> cases hrd : readB bs
    · exact back_nn ha hri la ll lcap bs w ht hl hrd hE hN
    · exact back_ny ha hri la ll lcap bs w ht hl hrd hE hN
    · exact back_yn ha hri la ll lcap bs w ht hl hrd hE hN
    · exact back_yy ha hri la ll lcap bs w ht hl hrd hE hN
  · exact back_longC _ la ll lcap hl w
end Go.Proofs.YtlejicmpefdhpaaDoor
