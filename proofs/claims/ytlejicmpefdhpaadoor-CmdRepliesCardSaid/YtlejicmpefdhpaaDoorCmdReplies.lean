/- A reply read from bytes, and the law CmdReplies of layer 22, walked. Its conditions: errors.errorType and cmd.names read as the program's text lays them. -/
import Derived.Test.YtlejicmpefdhpaaDoorCmdV
import Derived.Test.YtlejicmpefdhpaaDoorCmdO
namespace Go.Proofs.YtlejicmpefdhpaaDoor
set_option linter.unusedVariables false
open Go.ChangeShapes Go.WideShapes Go.ChangeAt Go.RowKit
attribute [local go_sem ↓] Go.wp_at_zero Go.wp_at_succ comesTo_value_eq comesTo_skip_eq comesTo_enter_eq Rl.comesToR_value_eq Rl.comesToR_skip_eq Rl.comesToR_enter_eq

def repL (g : Int × Int × Int) : List Value := [.int .i64 g.1, .int .i64 g.2.1, .int .i64 g.2.2]
theorem repL_one (g : Int × Int × Int) : (repL g).all (·.oneCell') = true := rfl
theorem gR_no {bs : List Int} (h : okR bs = false) : gR bs = (0, 0, 0) := by unfold gR; rw [h, if_neg (by decide)]
theorem gR_yes {bs : List Int} (h : okR bs = true) : gR bs = ((r1R bs).2, (r2R bs).2, (r3R bs).2) := by unfold gR; rw [h, if_pos rfl]
theorem codeR_no {bs : List Int} (h : okR bs = false) : codeR bs = 11 := by unfold codeR; rw [h, if_neg (by decide)]
theorem codeR_yes {bs : List Int} (h : okR bs = true) : codeR bs = 0 := by unfold codeR; rw [h, if_pos rfl]
set_option maxRecDepth 100000 in
set_option maxHeartbeats 400000 in
theorem readreply_any {v : Value} {bs : List Int} (w : World) (ht : TxtAt w v bs) (hl : bs.length ≤ 1099511627775) (hE : ErrAt w) :
    Calls Tryd.prog 19 #[v] w fun e w' => e = .returned (.tuple #[.agg (repL (gR bs)).toArray, .int .i64 (codeR bs)]) ∧ Below w.heap.size w w' := by
  have hA0 := below_alloc (Below.refl _ w) (.cells #[.int .i64 0, .int .i64 0, .int .i64 0] 44)
  have hR0 := World.alloc_heap_new w (.cells #[.int .i64 0, .int .i64 0, .int .i64 0] 44)
  have hs0 : (w.alloc (.cells #[.int .i64 0, .int .i64 0, .int .i64 0] 44)).heap.size = w.heap.size + 1 := by simp
  have HE := Lib.hid hE
  have h1 : smallF ⟨bs, 0⟩ 99 = r1R bs := rfl
  have h2 : smallF (r1R bs).1 1073741824 = r2R bs := rfl
  have h3 : smallF (r2R bs).1 1099511627776 = r3R bs := rfl
  have HOK := Lib.hid (show okR bs = (endF (r3R bs).1 == 0) from rfl)
  have HG := Lib.hid (fun h => gR_yes (bs := bs) h)
  have HS1 := Lib.hid h1
  have HS2 := Lib.hid h2
  have HS3 := Lib.hid h3
  clear h1 h2 h3 hE
  go_enter Tryd.func19, Tryd.ntmps19
  go_upto_region 1 with fail
  generalize w.alloc (.cells #[.int .i64 0, .int .i64 0, .int .i64 0] 44) = U at *
  have KR := Lib.hid (read_cur (ht.below hA0) hl)
  have HA0 := Lib.hid hA0
  have HR0 := Lib.hid hR0
  have HSU := Lib.hid hs0
  clear hA0 hR0 hs0 ht hl
  go_wp2_with fail
  ((with_reducible refine KR.out.mono ?_))
  rintro e w1 ⟨C, rfl, hc, hb⟩
  have HB1 := Lib.hid (below_next HA0.out hb)
  have HR1 := Lib.hid ((hb.block w.heap.size (by have := HSU.out; omega)).trans HR0.out)
  have hCm := hc.mem
  have HCW := Lib.hid (show w.heap.size < C by have := HSU.out; omega)
  have HLW := Lib.hid (show w.heap.size < w1.heap.size from (Array.getElem?_eq_some_iff.1 HR1.out).1)
  have K1 := small_cur hc 99
  rw [HS1.out] at K1
  have K1 := Lib.hid K1
  clear hb hc KR hCm
  go_wp2_with fail
  ((with_reducible refine K1.out.mono ?_))
  rintro e w2 ⟨rfl, hc, hf⟩
  have K2 := small_cur hc 1073741824
  rw [HS2.out] at K2
  have K2 := Lib.hid K2
  have HR2 := Lib.hid ((hf.block w.heap.size HLW.out (by have := HCW.out; omega)).trans HR1.out)
  have HB2 := Lib.hid (HB1.out.trans (hf.below HB1.out.size fun j hj => by subst hj; exact Nat.le_of_lt HCW.out))
  have HLW2 := Lib.hid (show w.heap.size < w2.heap.size from (Array.getElem?_eq_some_iff.1 HR2.out).1)
  clear hc hf K1
  generalize (r1R bs).2 = n1 at *
  go_wp2_with fail
  ((with_reducible refine K2.out.mono ?_))
  rintro e w3 ⟨rfl, hc, hf⟩
  have K3 := small_cur hc 1099511627776
  rw [HS3.out] at K3
  have K3 := Lib.hid K3
  have HR3 := Lib.hid ((hf.block w.heap.size HLW2.out (by have := HCW.out; omega)).trans HR2.out)
  have HB3 := Lib.hid (HB2.out.trans (hf.below HB2.out.size fun j hj => by subst hj; exact Nat.le_of_lt HCW.out))
  have HLW3 := Lib.hid (show w.heap.size < w3.heap.size from (Array.getElem?_eq_some_iff.1 HR3.out).1)
  clear hc hf K2
  generalize (r2R bs).2 = n2 at *
  go_wp2_with fail
  ((with_reducible refine K3.out.mono ?_))
  rintro e w4 ⟨rfl, hc, hf⟩
  have HR4 := Lib.hid ((hf.block w.heap.size HLW3.out (by have := HCW.out; omega)).trans HR3.out)
  have HB4 := Lib.hid (HB3.out.trans (hf.below HB3.out.size fun j hj => by subst hj; exact Nat.le_of_lt HCW.out))
  have HLW4 := Lib.hid (show w.heap.size < w4.heap.size from (Array.getElem?_eq_some_iff.1 HR4.out).1)
  generalize (r3R bs).2 = n3 at *
  have hA5 := below_alloc (Below.refl _ w4) (.cells #[.int .i64 n1, .int .i64 n2, .int .i64 n3] 44)
  have HC4 := Lib.hid hc
  clear hc hf K3
  go_upto_region 3 with fail
  have hN5 := World.alloc_heap_new w4 (.cells #[.int .i64 n1, .int .i64 n2, .int .i64 n3] 44)
  generalize w4.alloc (.cells #[.int .i64 n1, .int .i64 n2, .int .i64 n3] 44) = w5 at *
  have hb5 := hA5
  have HB5 := Lib.hid (below_next HB4.out hb5)
  have HR5 := Lib.hid ((hb5.block _ HLW4.out).trans HR4.out)
  have HN5 := Lib.hid hN5
  have KE := Lib.hid (end_cur (HC4.out.below hb5) (HE.out.below HB5.out))
  have HLW5 := Lib.hid (show w.heap.size < w5.heap.size from (Array.getElem?_eq_some_iff.1 HR5.out).1)
  clear hN5 hb5 hA5
  generalize w4.heap.size = p at *
  generalize hen : endF (r3R bs).1 = en at *
  clear hen
  go_wp2_with fail
  ((with_reducible refine KE.out.mono ?_))
  rintro e w6 ⟨rfl, hb6⟩
  have HB6 := Lib.hid (below_next HB5.out hb6)
  have HR6 := Lib.hid ((hb6.block _ HLW5.out).trans HR5.out)
  have HN6 := Lib.hid ((hb6.block _ (Array.getElem?_eq_some_iff.1 HN5.out).1).trans HN5.out)
  clear hb6 KE
  have hi44 : (Tryd.prog.info? 44).map (·.size) = some 3 := by kernel_rfl
  have HI := Lib.hid hi44
  clear hi44
  by_cases h0 : en = 0
  · subst h0
    have HRT := Lib.hid (show okR bs = true by rw [HOK.out]; rfl)
    go_upto_region 5 with fail
    refine wp_region_lit ?_
    refine wpList_load_all rfl 44 _ rfl p [.int .i64 n1, .int .i64 n2, .int .i64 n3] _ (by go_simp) HN6.out Tryd.underlying44 rfl HI.out ?_
    refine wpList_store_all rfl 44 _ _ rfl w.heap.size (cs := #[.int .i64 0, .int .i64 0, .int .i64 0]) (T := 44) [.int .i64 n1, .int .i64 n2, .int .i64 n3] (by go_simp) (by go_simp) HR6.out rfl HI.out rfl ?_
    intro w8 hw8
    have HW8 := Lib.hid hw8.there
    have HB8 := Lib.hid (hw8.below HB6.out (Nat.le_refl _))
    clear hw8
    go_wp2_with fail
    exact bodyPost_ret (results_all2 [.int .i64 n1, .int .i64 n2, .int .i64 n3] _ Tryd.results19 (by go_simp) HW8.out Tryd.underlying44 rfl HI.out) rfl ⟨by rw [HG.out HRT.out, codeR_yes HRT.out]; rfl, HB8.out⟩
  · have hq : (en == 0) = false := by rw [beq_eq_false_iff_ne]; exact h0
    have HRF := Lib.hid (show okR bs = false by rw [HOK.out]; exact hq)
    go_upto_region 4 with fail
    refine wp_region_lit ?_
    refine wpList_yield (w' := w6) (v := .agg #[.int .i64 0, .int .i64 0, .int .i64 0]) rfl (by go_simp) ?_
    refine wpList_store_all rfl 44 _ _ rfl w.heap.size (cs := #[.int .i64 0, .int .i64 0, .int .i64 0]) (T := 44) [.int .i64 0, .int .i64 0, .int .i64 0] (by go_simp) (by go_simp) HR6.out rfl HI.out rfl ?_
    intro w8 hw8
    have HW8 := Lib.hid hw8.there
    have HB8 := Lib.hid (hw8.below HB6.out (Nat.le_refl _))
    clear hw8
    go_wp2_with fail
    exact bodyPost_ret (results_all2 [.int .i64 0, .int .i64 0, .int .i64 0] _ Tryd.results19 (by go_simp) HW8.out Tryd.underlying44 rfl HI.out) rfl ⟨by rw [gR_no HRF.out, codeR_no HRF.out]; rfl, HB8.out⟩
theorem replies_longC (z : Array Value) (la : Option Addr) (ll lcap : Nat) (h : ¬ ll ≤ 500) (w : World) : Calls Tryd.prog 6 #[.agg z, .slice la ll lcap] w fun e w' => e = .returned (.bool true) ∧ Below w.heap.size w w' := by
  have hd : decide ((ll : Int) > 500) = true := decide_eq_true (by omega)
  go_enter Tryd.func6, Tryd.ntmps6
  go_wp2
  go_ret
  exact ⟨rfl, below_alloc (Below.refl _ _) _⟩
set_option maxRecDepth 100000 in
set_option maxHeartbeats 2000000 in
theorem replies_yy {a b c : Int} (ha : -9223372036854775808 ≤ a ∧ a ≤ 9223372036854775807) (hb : -9223372036854775808 ≤ b ∧ b ≤ 9223372036854775807) (hc : -9223372036854775808 ≤ c ∧ c ≤ 9223372036854775807) (hgd : goodR a b c = true) (la : Option Addr) (ll lcap : Nat) (bs : List Int) (w : World) (ht : TxtAt w (.slice la ll lcap) bs) (hl : ll ≤ 500) (hrd : okR bs = true) (hE : ErrAt w) (hN : CmdNamesAt w) : Calls Tryd.prog 6 #[.agg #[.int .i64 a, .int .i64 b, .int .i64 c], .slice la ll lcap] w fun e w' => e = .returned (.bool true) ∧ Below w.heap.size w w' := by
  have hmx : Tryd.prog.follows .mixedOrders = true := by kernel_rfl
  have hd : decide ((ll : Int) > 500) = false := decide_eq_false (by omega)
  have hbl : bs.length = ll := ht.form.1.symm
  have hby : ∀ x ∈ bs, 0 ≤ x ∧ x ≤ 255 := by
    intro x hx
    rcases ht with ⟨b, o, c, _, _, hr⟩ | ⟨rfl, _⟩
    · obtain ⟨k, hk, rfl⟩ := List.mem_iff_getElem.1 hx
      have h1 := hr.lo k hk
      have h2 := hr.hi k hk
      simp [List.getD, List.getElem?_eq_getElem hk] at h1 h2
      exact ⟨h1, h2⟩
    · cases hx
  have hi44 : (Tryd.prog.info? 44).map (·.size) = some 3 := by kernel_rfl
  have HI := Lib.hid hi44
  have hok := okR_put ha hb hc
  rw [hgd] at hok
  have HOK := Lib.hid hok
  have HPL := Lib.hid (show (putR a b c).length ≤ 1099511627775 by
    have := putI_len ha; have := putI_len hb; have := putI_len hc
    unfold putR; simp; omega)
  have HBL := Lib.hid (show bs.length ≤ 1099511627775 by omega)
  have HE := Lib.hid hE
  have HN := Lib.hid hN
  have HT := Lib.hid ht
  have KPA := Lib.hid (fun W => putreply_any ha hb hc W)
  have hrin : (-9223372036854775808 ≤ (r1R bs).2 ∧ (r1R bs).2 ≤ 9223372036854775807) ∧ (-9223372036854775808 ≤ (r2R bs).2 ∧ (r2R bs).2 ≤ 9223372036854775807) ∧ (-9223372036854775808 ≤ (r3R bs).2 ∧ (r3R bs).2 ≤ 9223372036854775807) := by
    have h1 : 0 ≤ (r1R bs).2 ∧ (r1R bs).2 ≤ 99 := smallF_in (by decide)
    have h2 : 0 ≤ (r2R bs).2 ∧ (r2R bs).2 ≤ 1073741824 := smallF_in (by decide)
    have h3 : 0 ≤ (r3R bs).2 ∧ (r3R bs).2 ≤ 1099511627776 := smallF_in (by decide)
    exact ⟨⟨by omega, by omega⟩, ⟨by omega, by omega⟩, ⟨by omega, by omega⟩⟩
  have KPG := Lib.hid (fun W => putreply_any hrin.1 hrin.2.1 hrin.2.2 W)
  have HBT := Lib.hid (okR_back hby hrd)
  rw [HBT.out] at KPG
  have HGB := Lib.hid (gR_yes hrd)
  generalize (r1R bs).2 = n1 at *
  generalize (r2R bs).2 = n2 at *
  generalize (r3R bs).2 = n3 at *
  clear hrin
  have HCD := Lib.hid (show codeR bs = 0 from codeR_yes hrd)
  have hgi : (0 ≤ a ∧ a ≤ 99 ∧ 0 ≤ b ∧ b ≤ 1073741824 ∧ 0 ≤ c ∧ c ≤ 1099511627776) := by unfold goodR at hgd; exact of_decide_eq_true hgd
  have HGI := Lib.hid hgi
  clear hi44 hok hE hN ht hgi hgd hrd hby hbl
  go_enter Tryd.func6, Tryd.ntmps6
  go_upto_region 1 with fail
  have hA1 := below_alloc (Below.refl _ w) (.cells #[.int .i64 a, .int .i64 b, .int .i64 c] 44)
  have hN1 := World.alloc_heap_new w (.cells #[.int .i64 a, .int .i64 b, .int .i64 c] 44)
  have hs1 : (w.alloc (.cells #[.int .i64 a, .int .i64 b, .int .i64 c] 44)).heap.size = w.heap.size + 1 := by simp
  generalize w.alloc (.cells #[.int .i64 a, .int .i64 b, .int .i64 c] 44) = U at *
  have HB := Lib.hid hA1
  have HM1 := Lib.hid hN1
  have HS1 := Lib.hid hs1
  have c0 := cell_of_block (o := 0) hN1 rfl
  have c1 := cell_of_block (o := 1) hN1 rfl
  have c2 := cell_of_block (o := 2) hN1 rfl
  clear hA1 hN1 hs1 ha hb hc
  go_upto_region 3 with fail
  go_cut [5] (fun s wx => ∃ B : Bool, s = .bool B ∧ (B = true ↔ (0 ≤ a ∧ a ≤ 99 ∧ 0 ≤ b ∧ b ≤ 1073741824 ∧ 0 ≤ c ∧ c ≤ 1099511627776)) ∧ wx = U)
  case first =>
    go_wp2_with fail
    all_goals go_meet
    all_goals (refine ⟨_, rfl, ?_, rfl⟩; simp; try omega)
  case rest =>
  obtain ⟨B0, rfl, hB0, rfl⟩ := hcut
  obtain rfl : B0 = true := by exact hB0.2 HGI.out
  clear hB0
  go_upto_region 4 with fail
  rename_i wx
  refine wp_region_lit ?_
  refine wpList_load_all rfl 44 _ rfl w.heap.size [.int .i64 a, .int .i64 b, .int .i64 c] _ (by go_simp) HM1.out Tryd.underlying44 rfl HI.out ?_
  refine wpList_enter rfl (by go_simp) (KPA.out _) ?_
  rintro e w2 ⟨z, rfl, ho, hb2⟩
  refine ⟨_, rfl, ?_⟩
  have HB2 := Lib.hid (below_next HB.out hb2)
  have KR := Lib.hid (readreply_any w2 ho HPL.out (HE.out.below HB2.out))
  have hM2 := (hb2.block w.heap.size (by have := HS1.out; omega)).trans HM1.out
  have HM2 := Lib.hid hM2
  rw [HOK.out.2 rfl, codeR_yes HOK.out.1] at KR
  clear ho hb2 hM2 c0 c1 c2
  refine wpList_enter rfl (by go_simp) KR.out ?_
  rintro e w3 ⟨rfl, hb3⟩
  refine ⟨_, rfl, ?_⟩
  refine wpList_yield (w' := w3) (v := .tuple #[.agg ([.int .i64 a, .int .i64 b, .int .i64 c] : List Value).toArray, .int .i64 0]) rfl (by go_simp; rfl) ?_
  refine wpList_yield (w' := w3) (v := .agg ([.int .i64 a, .int .i64 b, .int .i64 c] : List Value).toArray) rfl (by go_simp) ?_
  refine wpList_yield (w' := w3) (v := .int .i64 0) rfl (by go_simp) ?_
  refine wpList_yield (w' := w3.alloc (.cells #[.int .i64 0, .int .i64 0, .int .i64 0] 44)) (v := .pointer (some ⟨w3.heap.size, 0, none⟩)) rfl (by go_simp) ?_
  refine wpList_store_all rfl 44 _ _ rfl w3.heap.size (cs := #[.int .i64 0, .int .i64 0, .int .i64 0]) (T := 44) [.int .i64 a, .int .i64 b, .int .i64 c] (by go_simp) (by go_simp) (World.alloc_heap_new _ _) rfl HI.out rfl ?_
  intro w4 hw4
  have hb4 := below_next hb3 (hw4.below (below_alloc (Below.refl _ w3) _) (Nat.le_refl _))
  have HB4 := Lib.hid (below_next HB2.out hb4)
  have HM4 := Lib.hid ((hb4.block w.heap.size (Array.getElem?_eq_some_iff.1 HM2.out).1).trans HM2.out)
  have HX4 := Lib.hid hw4.there
  have KR2 := Lib.hid (readreply_any w4 (HT.out.below HB4.out) HBL.out (HE.out.below HB4.out))
  rw [HGB.out, HCD.out] at KR2
  clear hw4 hb3 hb4 KR
  generalize w3.heap.size = p at *
  go_upto_region 5 with fail
  refine wp_region_lit ?_
  refine wpList_yield (w' := w4) (v := .slice la ll lcap) rfl (by go_simp) ?_
  refine wpList_enter rfl (by go_simp) KR2.out ?_
  rintro e w5 ⟨rfl, hb5⟩
  refine ⟨_, rfl, ?_⟩
  refine wpList_yield (w' := w5) (v := .tuple #[.agg ([.int .i64 n1, .int .i64 n2, .int .i64 n3] : List Value).toArray, .int .i64 0]) rfl (by go_simp; rfl) ?_
  refine wpList_yield (w' := w5) (v := .agg ([.int .i64 n1, .int .i64 n2, .int .i64 n3] : List Value).toArray) rfl (by go_simp) ?_
  refine wpList_yield (w' := w5) (v := .int .i64 0) rfl (by go_simp) ?_
  refine wpList_yield (w' := w5.alloc (.cells #[.int .i64 0, .int .i64 0, .int .i64 0] 44)) (v := .pointer (some ⟨w5.heap.size, 0, none⟩)) rfl (by go_simp) ?_
  refine wpList_store_all rfl 44 _ _ rfl w5.heap.size (cs := #[.int .i64 0, .int .i64 0, .int .i64 0]) (T := 44) [.int .i64 n1, .int .i64 n2, .int .i64 n3] (by go_simp) (by go_simp) (World.alloc_heap_new _ _) rfl HI.out rfl ?_
  intro w6 hw6
  have hb6 := below_next hb5 (hw6.below (below_alloc (Below.refl _ w5) _) (Nat.le_refl _))
  have HB6 := Lib.hid (below_next HB4.out hb6)
  have hM6 := (hb6.block w.heap.size (Array.getElem?_eq_some_iff.1 HM4.out).1).trans HM4.out
  have hX6 := (hb6.block p (Array.getElem?_eq_some_iff.1 HX4.out).1).trans HX4.out
  have HY6 := Lib.hid hw6.there
  have c0 := cell_of_block (o := 0) hM6 rfl
  have c1 := cell_of_block (o := 1) hM6 rfl
  have c2 := cell_of_block (o := 2) hM6 rfl
  have d0 := cell_of_block (o := 0) hX6 rfl
  have d1 := cell_of_block (o := 1) hX6 rfl
  have d2 := cell_of_block (o := 2) hX6 rfl
  clear hw6 hb5 hb6 KR2 hM6 hX6
  generalize w5.heap.size = p2 at *
  go_upto_region 8 with fail
  have HLY := Lib.hid (fun (W : World) (h : Below w6.heap.size w6 W) => (h.block _ (Array.getElem?_eq_some_iff.1 HY6.out).1).trans HY6.out)
  have KO := Lib.hid (fun (W : World) (h : Below w6.heap.size w6 W) => cmd_one W (HE.out.below (below_next HB6.out h)) (HN.out.below (below_next HB6.out h)))
  have HTB := Lib.hid (fun (W : World) (h : Below w6.heap.size w6 W) => txt_conv (HT.out.below (below_next HB6.out h)) W (Below.refl _ _))
  generalize hsb : strOfNums bs = sb at *
  have HS_sb := Lib.hid hsb
  clear hsb c0 c1 c2 d0 d1 d2
  refine Rl.wp_region_rel (fun a b => Below a.heap.size a b) w6 (fun a b c h h' => below_next h h') (fun a => Below.refl _ _) hmx (by kernel_rfl) (Below.refl _ _).drew ?_
  iterate 3 (refine Rl.textR_run ?_ (fun ρ => ?_) (fun ρ W hS hd => ?_) ?_; rotate_left; (focus go_simp); (focus (obtain ⟨hc, hf⟩ := bcell hS; go_simp; first | exact ⟨rfl, Below.refl _ _⟩ | (refine ⟨?_, Below.refl _ _⟩; rfl))); (try go_simp))
  refine Rl.textR_run (.agg ([.int .i64 n1, .int .i64 n2, .int .i64 n3] : List Value).toArray) (fun ρ => ?_) (fun ρ W hS hd => ?_) ?_
  · go_simp
  · exact Rl.comesToR_load 44 _ rfl p2 (by go_simp) _ _ (HLY.out W hS) Tryd.underlying44 rfl HI.out ⟨rfl, Below.refl _ _⟩
  (try go_simp)
  refine Rl.textR_rel 76 (fun v w => TxtAt w v (bs)) rfl (fun v w w' hg h => h.below hg) (fun ρ => ?_) (fun ρ W hS hd => ?_) ?_
  · go_simp
  · go_simp
    refine (KPG.out W).mono ?_
    rintro e w1 ⟨u, rfl, ho, hb⟩
    exact ⟨u, rfl, ho, hb⟩
  (try go_simp)
  refine Rl.textR_run (.string sb) (fun ρ => ?_) (fun ρ W hS hd => ?_) ?_
  · go_simp
  · have hcv := txt_conv (hd (76, fun v w => TxtAt w v (bs)) (by first | exact List.mem_cons_self | (simp; done)) (show (76 : Nat) ∈ _ by decide)) W (Below.refl _ _)
    rw [show strOfNums (bs) = sb from HS_sb.out] at hcv
    simp only at hcv
    go_simp
    first | exact ⟨rfl, Below.refl _ _⟩ | exact Below.refl _ _
  (try go_simp)
  (refine Rl.textR_run ?_ (fun ρ => ?_) (fun ρ W hS hd => ?_) ?_; rotate_left; (focus go_simp); (focus (obtain ⟨hc, hf⟩ := bcell hS; go_simp; first | exact ⟨rfl, Below.refl _ _⟩ | (refine ⟨?_, Below.refl _ _⟩; rfl))); (try go_simp))
  (refine Rl.textR_run ?_ (fun ρ => ?_) (fun ρ W hS hd => ?_) ?_; rotate_left; (focus go_simp); (focus (have hfact := HTB.out W hS; go_simp; first | exact ⟨rfl, Below.refl _ _⟩ | (refine ⟨?_, Below.refl _ _⟩; rfl))); (try go_simp))
  iterate 6 (refine Rl.textR_run ?_ (fun ρ => ?_) (fun ρ W hS hd => ?_) ?_; rotate_left; (focus go_simp); (focus (obtain ⟨hc, hf⟩ := bcell hS; go_simp; first | exact ⟨rfl, Below.refl _ _⟩ | (refine ⟨?_, Below.refl _ _⟩; rfl))); (try go_simp))
  iterate 2 (refine Rl.textR_skip (fun ρ => ?_) ?_; (focus (first | rfl | (go_simp; done) | (go_simp; rfl))); (try go_simp))
  iterate 3 (refine Rl.textR_run ?_ (fun ρ => ?_) (fun ρ W hS hd => ?_) ?_; rotate_left; (focus go_simp); (focus (obtain ⟨hc, hf⟩ := bcell hS; go_simp; first | exact ⟨rfl, Below.refl _ _⟩ | (refine ⟨?_, Below.refl _ _⟩; rfl))); (try go_simp))
  (refine Rl.textR_run ?_ (fun ρ => ?_) (fun ρ W hS hd => ?_) ?_; rotate_left; (focus go_simp); (focus (obtain ⟨hc, hf⟩ := bcell hS; go_simp; refine (KO.out W hS).mono ?_; rintro e w1 ⟨rfl, hb⟩; refine ⟨_, rfl, ?_, hb⟩; rfl)); (try go_simp))
  iterate 2 (refine Rl.textR_run ?_ (fun ρ => ?_) (fun ρ W hS hd => ?_) ?_; rotate_left; (focus go_simp); (focus (obtain ⟨hc, hf⟩ := bcell hS; go_simp; first | exact ⟨rfl, Below.refl _ _⟩ | (refine ⟨?_, Below.refl _ _⟩; rfl))); (try go_simp))
  refine Rl.textR_nil ?_
  intro ρ w16 hg hk
  have HF := Lib.hid (below_next HB6.out hg)
  clear hg hk
  dsimp only
  generalize ρ 76 = z1
  clear ρ
  go_wp2_with fail
  go_ret
  exact ⟨rfl, HF.out⟩
set_option maxRecDepth 100000 in
set_option maxHeartbeats 2000000 in
theorem replies_yn {a b c : Int} (ha : -9223372036854775808 ≤ a ∧ a ≤ 9223372036854775807) (hb : -9223372036854775808 ≤ b ∧ b ≤ 9223372036854775807) (hc : -9223372036854775808 ≤ c ∧ c ≤ 9223372036854775807) (hgd : goodR a b c = true) (la : Option Addr) (ll lcap : Nat) (bs : List Int) (w : World) (ht : TxtAt w (.slice la ll lcap) bs) (hl : ll ≤ 500) (hrd : okR bs = false) (hE : ErrAt w) (hN : CmdNamesAt w) : Calls Tryd.prog 6 #[.agg #[.int .i64 a, .int .i64 b, .int .i64 c], .slice la ll lcap] w fun e w' => e = .returned (.bool true) ∧ Below w.heap.size w w' := by
  have hmx : Tryd.prog.follows .mixedOrders = true := by kernel_rfl
  have hd : decide ((ll : Int) > 500) = false := decide_eq_false (by omega)
  have hbl : bs.length = ll := ht.form.1.symm
  have hby : ∀ x ∈ bs, 0 ≤ x ∧ x ≤ 255 := by
    intro x hx
    rcases ht with ⟨b, o, c, _, _, hr⟩ | ⟨rfl, _⟩
    · obtain ⟨k, hk, rfl⟩ := List.mem_iff_getElem.1 hx
      have h1 := hr.lo k hk
      have h2 := hr.hi k hk
      simp [List.getD, List.getElem?_eq_getElem hk] at h1 h2
      exact ⟨h1, h2⟩
    · cases hx
  have hi44 : (Tryd.prog.info? 44).map (·.size) = some 3 := by kernel_rfl
  have HI := Lib.hid hi44
  have hok := okR_put ha hb hc
  rw [hgd] at hok
  have HOK := Lib.hid hok
  have HPL := Lib.hid (show (putR a b c).length ≤ 1099511627775 by
    have := putI_len ha; have := putI_len hb; have := putI_len hc
    unfold putR; simp; omega)
  have HBL := Lib.hid (show bs.length ≤ 1099511627775 by omega)
  have HE := Lib.hid hE
  have HN := Lib.hid hN
  have HT := Lib.hid ht
  have KPA := Lib.hid (fun W => putreply_any ha hb hc W)
  have HGB := Lib.hid (gR_no hrd)
  have HCD := Lib.hid (show codeR bs = 11 from codeR_no hrd)
  have hgi : (0 ≤ a ∧ a ≤ 99 ∧ 0 ≤ b ∧ b ≤ 1073741824 ∧ 0 ≤ c ∧ c ≤ 1099511627776) := by unfold goodR at hgd; exact of_decide_eq_true hgd
  have HGI := Lib.hid hgi
  clear hi44 hok hE hN ht hgi hgd hrd hby hbl
  go_enter Tryd.func6, Tryd.ntmps6
  go_upto_region 1 with fail
  have hA1 := below_alloc (Below.refl _ w) (.cells #[.int .i64 a, .int .i64 b, .int .i64 c] 44)
  have hN1 := World.alloc_heap_new w (.cells #[.int .i64 a, .int .i64 b, .int .i64 c] 44)
  have hs1 : (w.alloc (.cells #[.int .i64 a, .int .i64 b, .int .i64 c] 44)).heap.size = w.heap.size + 1 := by simp
  generalize w.alloc (.cells #[.int .i64 a, .int .i64 b, .int .i64 c] 44) = U at *
  have HB := Lib.hid hA1
  have HM1 := Lib.hid hN1
  have HS1 := Lib.hid hs1
  have c0 := cell_of_block (o := 0) hN1 rfl
  have c1 := cell_of_block (o := 1) hN1 rfl
  have c2 := cell_of_block (o := 2) hN1 rfl
  clear hA1 hN1 hs1 ha hb hc
  go_upto_region 3 with fail
  go_cut [5] (fun s wx => ∃ B : Bool, s = .bool B ∧ (B = true ↔ (0 ≤ a ∧ a ≤ 99 ∧ 0 ≤ b ∧ b ≤ 1073741824 ∧ 0 ≤ c ∧ c ≤ 1099511627776)) ∧ wx = U)
  case first =>
    go_wp2_with fail
    all_goals go_meet
    all_goals (refine ⟨_, rfl, ?_, rfl⟩; simp; try omega)
  case rest =>
  obtain ⟨B0, rfl, hB0, rfl⟩ := hcut
  obtain rfl : B0 = true := by exact hB0.2 HGI.out
  clear hB0
  go_upto_region 4 with fail
  rename_i wx
  refine wp_region_lit ?_
  refine wpList_load_all rfl 44 _ rfl w.heap.size [.int .i64 a, .int .i64 b, .int .i64 c] _ (by go_simp) HM1.out Tryd.underlying44 rfl HI.out ?_
  refine wpList_enter rfl (by go_simp) (KPA.out _) ?_
  rintro e w2 ⟨z, rfl, ho, hb2⟩
  refine ⟨_, rfl, ?_⟩
  have HB2 := Lib.hid (below_next HB.out hb2)
  have KR := Lib.hid (readreply_any w2 ho HPL.out (HE.out.below HB2.out))
  have hM2 := (hb2.block w.heap.size (by have := HS1.out; omega)).trans HM1.out
  have HM2 := Lib.hid hM2
  rw [HOK.out.2 rfl, codeR_yes HOK.out.1] at KR
  clear ho hb2 hM2 c0 c1 c2
  refine wpList_enter rfl (by go_simp) KR.out ?_
  rintro e w3 ⟨rfl, hb3⟩
  refine ⟨_, rfl, ?_⟩
  refine wpList_yield (w' := w3) (v := .tuple #[.agg ([.int .i64 a, .int .i64 b, .int .i64 c] : List Value).toArray, .int .i64 0]) rfl (by go_simp; rfl) ?_
  refine wpList_yield (w' := w3) (v := .agg ([.int .i64 a, .int .i64 b, .int .i64 c] : List Value).toArray) rfl (by go_simp) ?_
  refine wpList_yield (w' := w3) (v := .int .i64 0) rfl (by go_simp) ?_
  refine wpList_yield (w' := w3.alloc (.cells #[.int .i64 0, .int .i64 0, .int .i64 0] 44)) (v := .pointer (some ⟨w3.heap.size, 0, none⟩)) rfl (by go_simp) ?_
  refine wpList_store_all rfl 44 _ _ rfl w3.heap.size (cs := #[.int .i64 0, .int .i64 0, .int .i64 0]) (T := 44) [.int .i64 a, .int .i64 b, .int .i64 c] (by go_simp) (by go_simp) (World.alloc_heap_new _ _) rfl HI.out rfl ?_
  intro w4 hw4
  have hb4 := below_next hb3 (hw4.below (below_alloc (Below.refl _ w3) _) (Nat.le_refl _))
  have HB4 := Lib.hid (below_next HB2.out hb4)
  have HM4 := Lib.hid ((hb4.block w.heap.size (Array.getElem?_eq_some_iff.1 HM2.out).1).trans HM2.out)
  have HX4 := Lib.hid hw4.there
  have KR2 := Lib.hid (readreply_any w4 (HT.out.below HB4.out) HBL.out (HE.out.below HB4.out))
  rw [HGB.out, HCD.out] at KR2
  clear hw4 hb3 hb4 KR
  generalize w3.heap.size = p at *
  go_upto_region 5 with fail
  refine wp_region_lit ?_
  refine wpList_yield (w' := w4) (v := .slice la ll lcap) rfl (by go_simp) ?_
  refine wpList_enter rfl (by go_simp) KR2.out ?_
  rintro e w5 ⟨rfl, hb5⟩
  refine ⟨_, rfl, ?_⟩
  refine wpList_yield (w' := w5) (v := .tuple #[.agg ([.int .i64 0, .int .i64 0, .int .i64 0] : List Value).toArray, .int .i64 11]) rfl (by go_simp; rfl) ?_
  refine wpList_yield (w' := w5) (v := .agg ([.int .i64 0, .int .i64 0, .int .i64 0] : List Value).toArray) rfl (by go_simp) ?_
  refine wpList_yield (w' := w5) (v := .int .i64 11) rfl (by go_simp) ?_
  refine wpList_yield (w' := w5.alloc (.cells #[.int .i64 0, .int .i64 0, .int .i64 0] 44)) (v := .pointer (some ⟨w5.heap.size, 0, none⟩)) rfl (by go_simp) ?_
  refine wpList_store_all rfl 44 _ _ rfl w5.heap.size (cs := #[.int .i64 0, .int .i64 0, .int .i64 0]) (T := 44) [.int .i64 0, .int .i64 0, .int .i64 0] (by go_simp) (by go_simp) (World.alloc_heap_new _ _) rfl HI.out rfl ?_
  intro w6 hw6
  have hb6 := below_next hb5 (hw6.below (below_alloc (Below.refl _ w5) _) (Nat.le_refl _))
  have HB6 := Lib.hid (below_next HB4.out hb6)
  have hM6 := (hb6.block w.heap.size (Array.getElem?_eq_some_iff.1 HM4.out).1).trans HM4.out
  have hX6 := (hb6.block p (Array.getElem?_eq_some_iff.1 HX4.out).1).trans HX4.out
  have HY6 := Lib.hid hw6.there
  have c0 := cell_of_block (o := 0) hM6 rfl
  have c1 := cell_of_block (o := 1) hM6 rfl
  have c2 := cell_of_block (o := 2) hM6 rfl
  have d0 := cell_of_block (o := 0) hX6 rfl
  have d1 := cell_of_block (o := 1) hX6 rfl
  have d2 := cell_of_block (o := 2) hX6 rfl
  clear hw6 hb5 hb6 KR2 hM6 hX6
  generalize w5.heap.size = p2 at *
  go_upto_region 8 with fail
  have HLY := Lib.hid (fun (W : World) (h : Below w6.heap.size w6 W) => (h.block _ (Array.getElem?_eq_some_iff.1 HY6.out).1).trans HY6.out)
  have KO := Lib.hid (fun (W : World) (h : Below w6.heap.size w6 W) => cmd_one W (HE.out.below (below_next HB6.out h)) (HN.out.below (below_next HB6.out h)))
  have HTB := Lib.hid (fun (W : World) (h : Below w6.heap.size w6 W) => txt_conv (HT.out.below (below_next HB6.out h)) W (Below.refl _ _))
  generalize hsb : strOfNums bs = sb at *
  have HS_sb := Lib.hid hsb
  clear hsb c0 c1 c2 d0 d1 d2
  refine Rl.wp_region_rel (fun a b => Below a.heap.size a b) w6 (fun a b c h h' => below_next h h') (fun a => Below.refl _ _) hmx (by kernel_rfl) (Below.refl _ _).drew ?_
  iterate 3 (refine Rl.textR_run ?_ (fun ρ => ?_) (fun ρ W hS hd => ?_) ?_; rotate_left; (focus go_simp); (focus (obtain ⟨hc, hf⟩ := bcell hS; go_simp; first | exact ⟨rfl, Below.refl _ _⟩ | (refine ⟨?_, Below.refl _ _⟩; rfl))); (try go_simp))
  iterate 6 (refine Rl.textR_skip (fun ρ => ?_) ?_; (focus (first | rfl | (go_simp; done) | (go_simp; rfl))); (try go_simp))
  iterate 10 (refine Rl.textR_run ?_ (fun ρ => ?_) (fun ρ W hS hd => ?_) ?_; rotate_left; (focus go_simp); (focus (obtain ⟨hc, hf⟩ := bcell hS; go_simp; first | exact ⟨rfl, Below.refl _ _⟩ | (refine ⟨?_, Below.refl _ _⟩; rfl))); (try go_simp))
  (refine Rl.textR_run ?_ (fun ρ => ?_) (fun ρ W hS hd => ?_) ?_; rotate_left; (focus go_simp); (focus (obtain ⟨hc, hf⟩ := bcell hS; go_simp; refine (KO.out W hS).mono ?_; rintro e w1 ⟨rfl, hb⟩; refine ⟨_, rfl, ?_, hb⟩; rfl)); (try go_simp))
  iterate 2 (refine Rl.textR_run ?_ (fun ρ => ?_) (fun ρ W hS hd => ?_) ?_; rotate_left; (focus go_simp); (focus (obtain ⟨hc, hf⟩ := bcell hS; go_simp; first | exact ⟨rfl, Below.refl _ _⟩ | (refine ⟨?_, Below.refl _ _⟩; rfl))); (try go_simp))
  refine Rl.textR_nil ?_
  intro ρ w16 hg hk
  have HF := Lib.hid (below_next HB6.out hg)
  clear hg hk
  dsimp only
  
  clear ρ
  go_wp2_with fail
  go_ret
  exact ⟨rfl, HF.out⟩
set_option maxRecDepth 100000 in
set_option maxHeartbeats 2000000 in
theorem replies_ny {a b c : Int} (ha : -9223372036854775808 ≤ a ∧ a ≤ 9223372036854775807) (hb : -9223372036854775808 ≤ b ∧ b ≤ 9223372036854775807) (hc : -9223372036854775808 ≤ c ∧ c ≤ 9223372036854775807) (hgd : goodR a b c = false) (la : Option Addr) (ll lcap : Nat) (bs : List Int) (w : World) (ht : TxtAt w (.slice la ll lcap) bs) (hl : ll ≤ 500) (hrd : okR bs = true) (hE : ErrAt w) (hN : CmdNamesAt w) : Calls Tryd.prog 6 #[.agg #[.int .i64 a, .int .i64 b, .int .i64 c], .slice la ll lcap] w fun e w' => e = .returned (.bool true) ∧ Below w.heap.size w w' := by
  have hmx : Tryd.prog.follows .mixedOrders = true := by kernel_rfl
  have hd : decide ((ll : Int) > 500) = false := decide_eq_false (by omega)
  have hbl : bs.length = ll := ht.form.1.symm
  have hby : ∀ x ∈ bs, 0 ≤ x ∧ x ≤ 255 := by
    intro x hx
    rcases ht with ⟨b, o, c, _, _, hr⟩ | ⟨rfl, _⟩
    · obtain ⟨k, hk, rfl⟩ := List.mem_iff_getElem.1 hx
      have h1 := hr.lo k hk
      have h2 := hr.hi k hk
      simp [List.getD, List.getElem?_eq_getElem hk] at h1 h2
      exact ⟨h1, h2⟩
    · cases hx
  have hi44 : (Tryd.prog.info? 44).map (·.size) = some 3 := by kernel_rfl
  have HI := Lib.hid hi44
  have hok := okR_put ha hb hc
  rw [hgd] at hok
  have HOK := Lib.hid hok
  have HPL := Lib.hid (show (putR a b c).length ≤ 1099511627775 by
    have := putI_len ha; have := putI_len hb; have := putI_len hc
    unfold putR; simp; omega)
  have HBL := Lib.hid (show bs.length ≤ 1099511627775 by omega)
  have HE := Lib.hid hE
  have HN := Lib.hid hN
  have HT := Lib.hid ht
  have KPA := Lib.hid (fun W => putreply_any ha hb hc W)
  have hrin : (-9223372036854775808 ≤ (r1R bs).2 ∧ (r1R bs).2 ≤ 9223372036854775807) ∧ (-9223372036854775808 ≤ (r2R bs).2 ∧ (r2R bs).2 ≤ 9223372036854775807) ∧ (-9223372036854775808 ≤ (r3R bs).2 ∧ (r3R bs).2 ≤ 9223372036854775807) := by
    have h1 : 0 ≤ (r1R bs).2 ∧ (r1R bs).2 ≤ 99 := smallF_in (by decide)
    have h2 : 0 ≤ (r2R bs).2 ∧ (r2R bs).2 ≤ 1073741824 := smallF_in (by decide)
    have h3 : 0 ≤ (r3R bs).2 ∧ (r3R bs).2 ≤ 1099511627776 := smallF_in (by decide)
    exact ⟨⟨by omega, by omega⟩, ⟨by omega, by omega⟩, ⟨by omega, by omega⟩⟩
  have KPG := Lib.hid (fun W => putreply_any hrin.1 hrin.2.1 hrin.2.2 W)
  have HBT := Lib.hid (okR_back hby hrd)
  rw [HBT.out] at KPG
  have HGB := Lib.hid (gR_yes hrd)
  generalize (r1R bs).2 = n1 at *
  generalize (r2R bs).2 = n2 at *
  generalize (r3R bs).2 = n3 at *
  clear hrin
  have HCD := Lib.hid (show codeR bs = 0 from codeR_yes hrd)
  have hgi : ¬ (0 ≤ a ∧ a ≤ 99 ∧ 0 ≤ b ∧ b ≤ 1073741824 ∧ 0 ≤ c ∧ c ≤ 1099511627776) := by unfold goodR at hgd; exact of_decide_eq_false hgd
  have HGI := Lib.hid hgi
  clear hi44 hok hE hN ht hgi hgd hrd hby hbl
  go_enter Tryd.func6, Tryd.ntmps6
  go_upto_region 1 with fail
  have hA1 := below_alloc (Below.refl _ w) (.cells #[.int .i64 a, .int .i64 b, .int .i64 c] 44)
  have hN1 := World.alloc_heap_new w (.cells #[.int .i64 a, .int .i64 b, .int .i64 c] 44)
  have hs1 : (w.alloc (.cells #[.int .i64 a, .int .i64 b, .int .i64 c] 44)).heap.size = w.heap.size + 1 := by simp
  generalize w.alloc (.cells #[.int .i64 a, .int .i64 b, .int .i64 c] 44) = U at *
  have HB := Lib.hid hA1
  have HM1 := Lib.hid hN1
  have HS1 := Lib.hid hs1
  have c0 := cell_of_block (o := 0) hN1 rfl
  have c1 := cell_of_block (o := 1) hN1 rfl
  have c2 := cell_of_block (o := 2) hN1 rfl
  clear hA1 hN1 hs1 ha hb hc
  go_upto_region 3 with fail
  go_cut [5] (fun s wx => ∃ B : Bool, s = .bool B ∧ (B = true ↔ (0 ≤ a ∧ a ≤ 99 ∧ 0 ≤ b ∧ b ≤ 1073741824 ∧ 0 ≤ c ∧ c ≤ 1099511627776)) ∧ wx = U)
  case first =>
    go_wp2_with fail
    all_goals go_meet
    all_goals (refine ⟨_, rfl, ?_, rfl⟩; simp; try omega)
  case rest =>
  obtain ⟨B0, rfl, hB0, rfl⟩ := hcut
  obtain rfl : B0 = false := by cases B0 with | false => rfl | true => exact absurd (hB0.1 rfl) HGI.out
  clear hB0
  go_upto_region 4 with fail
  rename_i wx
  refine wp_region_lit ?_
  refine wpList_load_all rfl 44 _ rfl w.heap.size [.int .i64 a, .int .i64 b, .int .i64 c] _ (by go_simp) HM1.out Tryd.underlying44 rfl HI.out ?_
  refine wpList_enter rfl (by go_simp) (KPA.out _) ?_
  rintro e w2 ⟨z, rfl, ho, hb2⟩
  refine ⟨_, rfl, ?_⟩
  have HB2 := Lib.hid (below_next HB.out hb2)
  have KR := Lib.hid (readreply_any w2 ho HPL.out (HE.out.below HB2.out))
  have hM2 := (hb2.block w.heap.size (by have := HS1.out; omega)).trans HM1.out
  have HM2 := Lib.hid hM2
  rw [gR_no HOK.out.1, codeR_no HOK.out.1] at KR
  clear ho hb2 hM2 c0 c1 c2
  refine wpList_enter rfl (by go_simp) KR.out ?_
  rintro e w3 ⟨rfl, hb3⟩
  refine ⟨_, rfl, ?_⟩
  refine wpList_yield (w' := w3) (v := .tuple #[.agg ([.int .i64 0, .int .i64 0, .int .i64 0] : List Value).toArray, .int .i64 11]) rfl (by go_simp; rfl) ?_
  refine wpList_yield (w' := w3) (v := .agg ([.int .i64 0, .int .i64 0, .int .i64 0] : List Value).toArray) rfl (by go_simp) ?_
  refine wpList_yield (w' := w3) (v := .int .i64 11) rfl (by go_simp) ?_
  refine wpList_yield (w' := w3.alloc (.cells #[.int .i64 0, .int .i64 0, .int .i64 0] 44)) (v := .pointer (some ⟨w3.heap.size, 0, none⟩)) rfl (by go_simp) ?_
  refine wpList_store_all rfl 44 _ _ rfl w3.heap.size (cs := #[.int .i64 0, .int .i64 0, .int .i64 0]) (T := 44) [.int .i64 0, .int .i64 0, .int .i64 0] (by go_simp) (by go_simp) (World.alloc_heap_new _ _) rfl HI.out rfl ?_
  intro w4 hw4
  have hb4 := below_next hb3 (hw4.below (below_alloc (Below.refl _ w3) _) (Nat.le_refl _))
  have HB4 := Lib.hid (below_next HB2.out hb4)
  have HM4 := Lib.hid ((hb4.block w.heap.size (Array.getElem?_eq_some_iff.1 HM2.out).1).trans HM2.out)
  have HX4 := Lib.hid hw4.there
  have KR2 := Lib.hid (readreply_any w4 (HT.out.below HB4.out) HBL.out (HE.out.below HB4.out))
  rw [HGB.out, HCD.out] at KR2
  clear hw4 hb3 hb4 KR
  generalize w3.heap.size = p at *
  go_upto_region 5 with fail
  refine wp_region_lit ?_
  refine wpList_yield (w' := w4) (v := .slice la ll lcap) rfl (by go_simp) ?_
  refine wpList_enter rfl (by go_simp) KR2.out ?_
  rintro e w5 ⟨rfl, hb5⟩
  refine ⟨_, rfl, ?_⟩
  refine wpList_yield (w' := w5) (v := .tuple #[.agg ([.int .i64 n1, .int .i64 n2, .int .i64 n3] : List Value).toArray, .int .i64 0]) rfl (by go_simp; rfl) ?_
  refine wpList_yield (w' := w5) (v := .agg ([.int .i64 n1, .int .i64 n2, .int .i64 n3] : List Value).toArray) rfl (by go_simp) ?_
  refine wpList_yield (w' := w5) (v := .int .i64 0) rfl (by go_simp) ?_
  refine wpList_yield (w' := w5.alloc (.cells #[.int .i64 0, .int .i64 0, .int .i64 0] 44)) (v := .pointer (some ⟨w5.heap.size, 0, none⟩)) rfl (by go_simp) ?_
  refine wpList_store_all rfl 44 _ _ rfl w5.heap.size (cs := #[.int .i64 0, .int .i64 0, .int .i64 0]) (T := 44) [.int .i64 n1, .int .i64 n2, .int .i64 n3] (by go_simp) (by go_simp) (World.alloc_heap_new _ _) rfl HI.out rfl ?_
  intro w6 hw6
  have hb6 := below_next hb5 (hw6.below (below_alloc (Below.refl _ w5) _) (Nat.le_refl _))
  have HB6 := Lib.hid (below_next HB4.out hb6)
  have hM6 := (hb6.block w.heap.size (Array.getElem?_eq_some_iff.1 HM4.out).1).trans HM4.out
  have hX6 := (hb6.block p (Array.getElem?_eq_some_iff.1 HX4.out).1).trans HX4.out
  have HY6 := Lib.hid hw6.there
  have c0 := cell_of_block (o := 0) hM6 rfl
  have c1 := cell_of_block (o := 1) hM6 rfl
  have c2 := cell_of_block (o := 2) hM6 rfl
  have d0 := cell_of_block (o := 0) hX6 rfl
  have d1 := cell_of_block (o := 1) hX6 rfl
  have d2 := cell_of_block (o := 2) hX6 rfl
  clear hw6 hb5 hb6 KR2 hM6 hX6
  generalize w5.heap.size = p2 at *
  go_upto_region 8 with fail
  have HLY := Lib.hid (fun (W : World) (h : Below w6.heap.size w6 W) => (h.block _ (Array.getElem?_eq_some_iff.1 HY6.out).1).trans HY6.out)
  have KO := Lib.hid (fun (W : World) (h : Below w6.heap.size w6 W) => cmd_one W (HE.out.below (below_next HB6.out h)) (HN.out.below (below_next HB6.out h)))
  have HTB := Lib.hid (fun (W : World) (h : Below w6.heap.size w6 W) => txt_conv (HT.out.below (below_next HB6.out h)) W (Below.refl _ _))
  generalize hsb : strOfNums bs = sb at *
  have HS_sb := Lib.hid hsb
  clear hsb c0 c1 c2 d0 d1 d2
  refine Rl.wp_region_rel (fun a b => Below a.heap.size a b) w6 (fun a b c h h' => below_next h h') (fun a => Below.refl _ _) hmx (by kernel_rfl) (Below.refl _ _).drew ?_
  iterate 3 (refine Rl.textR_run ?_ (fun ρ => ?_) (fun ρ W hS hd => ?_) ?_; rotate_left; (focus go_simp); (focus (obtain ⟨hc, hf⟩ := bcell hS; go_simp; first | exact ⟨rfl, Below.refl _ _⟩ | (refine ⟨?_, Below.refl _ _⟩; rfl))); (try go_simp))
  refine Rl.textR_run (.agg ([.int .i64 n1, .int .i64 n2, .int .i64 n3] : List Value).toArray) (fun ρ => ?_) (fun ρ W hS hd => ?_) ?_
  · go_simp
  · exact Rl.comesToR_load 44 _ rfl p2 (by go_simp) _ _ (HLY.out W hS) Tryd.underlying44 rfl HI.out ⟨rfl, Below.refl _ _⟩
  (try go_simp)
  refine Rl.textR_rel 76 (fun v w => TxtAt w v (bs)) rfl (fun v w w' hg h => h.below hg) (fun ρ => ?_) (fun ρ W hS hd => ?_) ?_
  · go_simp
  · go_simp
    refine (KPG.out W).mono ?_
    rintro e w1 ⟨u, rfl, ho, hb⟩
    exact ⟨u, rfl, ho, hb⟩
  (try go_simp)
  refine Rl.textR_run (.string sb) (fun ρ => ?_) (fun ρ W hS hd => ?_) ?_
  · go_simp
  · have hcv := txt_conv (hd (76, fun v w => TxtAt w v (bs)) (by first | exact List.mem_cons_self | (simp; done)) (show (76 : Nat) ∈ _ by decide)) W (Below.refl _ _)
    rw [show strOfNums (bs) = sb from HS_sb.out] at hcv
    simp only at hcv
    go_simp
    first | exact ⟨rfl, Below.refl _ _⟩ | exact Below.refl _ _
  (try go_simp)
  (refine Rl.textR_run ?_ (fun ρ => ?_) (fun ρ W hS hd => ?_) ?_; rotate_left; (focus go_simp); (focus (obtain ⟨hc, hf⟩ := bcell hS; go_simp; first | exact ⟨rfl, Below.refl _ _⟩ | (refine ⟨?_, Below.refl _ _⟩; rfl))); (try go_simp))
  (refine Rl.textR_run ?_ (fun ρ => ?_) (fun ρ W hS hd => ?_) ?_; rotate_left; (focus go_simp); (focus (have hfact := HTB.out W hS; go_simp; first | exact ⟨rfl, Below.refl _ _⟩ | (refine ⟨?_, Below.refl _ _⟩; rfl))); (try go_simp))
  iterate 6 (refine Rl.textR_run ?_ (fun ρ => ?_) (fun ρ W hS hd => ?_) ?_; rotate_left; (focus go_simp); (focus (obtain ⟨hc, hf⟩ := bcell hS; go_simp; first | exact ⟨rfl, Below.refl _ _⟩ | (refine ⟨?_, Below.refl _ _⟩; rfl))); (try go_simp))
  iterate 2 (refine Rl.textR_skip (fun ρ => ?_) ?_; (focus (first | rfl | (go_simp; done) | (go_simp; rfl))); (try go_simp))
  iterate 3 (refine Rl.textR_run ?_ (fun ρ => ?_) (fun ρ W hS hd => ?_) ?_; rotate_left; (focus go_simp); (focus (obtain ⟨hc, hf⟩ := bcell hS; go_simp; first | exact ⟨rfl, Below.refl _ _⟩ | (refine ⟨?_, Below.refl _ _⟩; rfl))); (try go_simp))
  (refine Rl.textR_run ?_ (fun ρ => ?_) (fun ρ W hS hd => ?_) ?_; rotate_left; (focus go_simp); (focus (obtain ⟨hc, hf⟩ := bcell hS; go_simp; refine (KO.out W hS).mono ?_; rintro e w1 ⟨rfl, hb⟩; refine ⟨_, rfl, ?_, hb⟩; rfl)); (try go_simp))
  iterate 2 (refine Rl.textR_run ?_ (fun ρ => ?_) (fun ρ W hS hd => ?_) ?_; rotate_left; (focus go_simp); (focus (obtain ⟨hc, hf⟩ := bcell hS; go_simp; first | exact ⟨rfl, Below.refl _ _⟩ | (refine ⟨?_, Below.refl _ _⟩; rfl))); (try go_simp))
  refine Rl.textR_nil ?_
  intro ρ w16 hg hk
  have HF := Lib.hid (below_next HB6.out hg)
  clear hg hk
  dsimp only
  generalize ρ 76 = z1
  clear ρ
  go_wp2_with fail
  go_ret
  exact ⟨rfl, HF.out⟩
set_option maxRecDepth 100000 in
set_option maxHeartbeats 2000000 in
theorem replies_nn {a b c : Int} (ha : -9223372036854775808 ≤ a ∧ a ≤ 9223372036854775807) (hb : -9223372036854775808 ≤ b ∧ b ≤ 9223372036854775807) (hc : -9223372036854775808 ≤ c ∧ c ≤ 9223372036854775807) (hgd : goodR a b c = false) (la : Option Addr) (ll lcap : Nat) (bs : List Int) (w : World) (ht : TxtAt w (.slice la ll lcap) bs) (hl : ll ≤ 500) (hrd : okR bs = false) (hE : ErrAt w) (hN : CmdNamesAt w) : Calls Tryd.prog 6 #[.agg #[.int .i64 a, .int .i64 b, .int .i64 c], .slice la ll lcap] w fun e w' => e = .returned (.bool true) ∧ Below w.heap.size w w' := by
  have hmx : Tryd.prog.follows .mixedOrders = true := by kernel_rfl
  have hd : decide ((ll : Int) > 500) = false := decide_eq_false (by omega)
  have hbl : bs.length = ll := ht.form.1.symm
  have hby : ∀ x ∈ bs, 0 ≤ x ∧ x ≤ 255 := by
    intro x hx
    rcases ht with ⟨b, o, c, _, _, hr⟩ | ⟨rfl, _⟩
    · obtain ⟨k, hk, rfl⟩ := List.mem_iff_getElem.1 hx
      have h1 := hr.lo k hk
      have h2 := hr.hi k hk
      simp [List.getD, List.getElem?_eq_getElem hk] at h1 h2
      exact ⟨h1, h2⟩
    · cases hx
  have hi44 : (Tryd.prog.info? 44).map (·.size) = some 3 := by kernel_rfl
  have HI := Lib.hid hi44
  have hok := okR_put ha hb hc
  rw [hgd] at hok
  have HOK := Lib.hid hok
  have HPL := Lib.hid (show (putR a b c).length ≤ 1099511627775 by
    have := putI_len ha; have := putI_len hb; have := putI_len hc
    unfold putR; simp; omega)
  have HBL := Lib.hid (show bs.length ≤ 1099511627775 by omega)
  have HE := Lib.hid hE
  have HN := Lib.hid hN
  have HT := Lib.hid ht
  have KPA := Lib.hid (fun W => putreply_any ha hb hc W)
  have HGB := Lib.hid (gR_no hrd)
  have HCD := Lib.hid (show codeR bs = 11 from codeR_no hrd)
  have hgi : ¬ (0 ≤ a ∧ a ≤ 99 ∧ 0 ≤ b ∧ b ≤ 1073741824 ∧ 0 ≤ c ∧ c ≤ 1099511627776) := by unfold goodR at hgd; exact of_decide_eq_false hgd
  have HGI := Lib.hid hgi
  clear hi44 hok hE hN ht hgi hgd hrd hby hbl
  go_enter Tryd.func6, Tryd.ntmps6
  go_upto_region 1 with fail
  have hA1 := below_alloc (Below.refl _ w) (.cells #[.int .i64 a, .int .i64 b, .int .i64 c] 44)
  have hN1 := World.alloc_heap_new w (.cells #[.int .i64 a, .int .i64 b, .int .i64 c] 44)
  have hs1 : (w.alloc (.cells #[.int .i64 a, .int .i64 b, .int .i64 c] 44)).heap.size = w.heap.size + 1 := by simp
  generalize w.alloc (.cells #[.int .i64 a, .int .i64 b, .int .i64 c] 44) = U at *
  have HB := Lib.hid hA1
  have HM1 := Lib.hid hN1
  have HS1 := Lib.hid hs1
  have c0 := cell_of_block (o := 0) hN1 rfl
  have c1 := cell_of_block (o := 1) hN1 rfl
  have c2 := cell_of_block (o := 2) hN1 rfl
  clear hA1 hN1 hs1 ha hb hc
  go_upto_region 3 with fail
  go_cut [5] (fun s wx => ∃ B : Bool, s = .bool B ∧ (B = true ↔ (0 ≤ a ∧ a ≤ 99 ∧ 0 ≤ b ∧ b ≤ 1073741824 ∧ 0 ≤ c ∧ c ≤ 1099511627776)) ∧ wx = U)
  case first =>
    go_wp2_with fail
    all_goals go_meet
    all_goals (refine ⟨_, rfl, ?_, rfl⟩; simp; try omega)
  case rest =>
  obtain ⟨B0, rfl, hB0, rfl⟩ := hcut
  obtain rfl : B0 = false := by cases B0 with | false => rfl | true => exact absurd (hB0.1 rfl) HGI.out
  clear hB0
  go_upto_region 4 with fail
  rename_i wx
  refine wp_region_lit ?_
  refine wpList_load_all rfl 44 _ rfl w.heap.size [.int .i64 a, .int .i64 b, .int .i64 c] _ (by go_simp) HM1.out Tryd.underlying44 rfl HI.out ?_
  refine wpList_enter rfl (by go_simp) (KPA.out _) ?_
  rintro e w2 ⟨z, rfl, ho, hb2⟩
  refine ⟨_, rfl, ?_⟩
  have HB2 := Lib.hid (below_next HB.out hb2)
  have KR := Lib.hid (readreply_any w2 ho HPL.out (HE.out.below HB2.out))
  have hM2 := (hb2.block w.heap.size (by have := HS1.out; omega)).trans HM1.out
  have HM2 := Lib.hid hM2
  rw [gR_no HOK.out.1, codeR_no HOK.out.1] at KR
  clear ho hb2 hM2 c0 c1 c2
  refine wpList_enter rfl (by go_simp) KR.out ?_
  rintro e w3 ⟨rfl, hb3⟩
  refine ⟨_, rfl, ?_⟩
  refine wpList_yield (w' := w3) (v := .tuple #[.agg ([.int .i64 0, .int .i64 0, .int .i64 0] : List Value).toArray, .int .i64 11]) rfl (by go_simp; rfl) ?_
  refine wpList_yield (w' := w3) (v := .agg ([.int .i64 0, .int .i64 0, .int .i64 0] : List Value).toArray) rfl (by go_simp) ?_
  refine wpList_yield (w' := w3) (v := .int .i64 11) rfl (by go_simp) ?_
  refine wpList_yield (w' := w3.alloc (.cells #[.int .i64 0, .int .i64 0, .int .i64 0] 44)) (v := .pointer (some ⟨w3.heap.size, 0, none⟩)) rfl (by go_simp) ?_
  refine wpList_store_all rfl 44 _ _ rfl w3.heap.size (cs := #[.int .i64 0, .int .i64 0, .int .i64 0]) (T := 44) [.int .i64 0, .int .i64 0, .int .i64 0] (by go_simp) (by go_simp) (World.alloc_heap_new _ _) rfl HI.out rfl ?_
  intro w4 hw4
  have hb4 := below_next hb3 (hw4.below (below_alloc (Below.refl _ w3) _) (Nat.le_refl _))
  have HB4 := Lib.hid (below_next HB2.out hb4)
  have HM4 := Lib.hid ((hb4.block w.heap.size (Array.getElem?_eq_some_iff.1 HM2.out).1).trans HM2.out)
  have HX4 := Lib.hid hw4.there
  have KR2 := Lib.hid (readreply_any w4 (HT.out.below HB4.out) HBL.out (HE.out.below HB4.out))
  rw [HGB.out, HCD.out] at KR2
  clear hw4 hb3 hb4 KR
  generalize w3.heap.size = p at *
  go_upto_region 5 with fail
  refine wp_region_lit ?_
  refine wpList_yield (w' := w4) (v := .slice la ll lcap) rfl (by go_simp) ?_
  refine wpList_enter rfl (by go_simp) KR2.out ?_
  rintro e w5 ⟨rfl, hb5⟩
  refine ⟨_, rfl, ?_⟩
  refine wpList_yield (w' := w5) (v := .tuple #[.agg ([.int .i64 0, .int .i64 0, .int .i64 0] : List Value).toArray, .int .i64 11]) rfl (by go_simp; rfl) ?_
  refine wpList_yield (w' := w5) (v := .agg ([.int .i64 0, .int .i64 0, .int .i64 0] : List Value).toArray) rfl (by go_simp) ?_
  refine wpList_yield (w' := w5) (v := .int .i64 11) rfl (by go_simp) ?_
  refine wpList_yield (w' := w5.alloc (.cells #[.int .i64 0, .int .i64 0, .int .i64 0] 44)) (v := .pointer (some ⟨w5.heap.size, 0, none⟩)) rfl (by go_simp) ?_
  refine wpList_store_all rfl 44 _ _ rfl w5.heap.size (cs := #[.int .i64 0, .int .i64 0, .int .i64 0]) (T := 44) [.int .i64 0, .int .i64 0, .int .i64 0] (by go_simp) (by go_simp) (World.alloc_heap_new _ _) rfl HI.out rfl ?_
  intro w6 hw6
  have hb6 := below_next hb5 (hw6.below (below_alloc (Below.refl _ w5) _) (Nat.le_refl _))
  have HB6 := Lib.hid (below_next HB4.out hb6)
  have hM6 := (hb6.block w.heap.size (Array.getElem?_eq_some_iff.1 HM4.out).1).trans HM4.out
  have hX6 := (hb6.block p (Array.getElem?_eq_some_iff.1 HX4.out).1).trans HX4.out
  have HY6 := Lib.hid hw6.there
  have c0 := cell_of_block (o := 0) hM6 rfl
  have c1 := cell_of_block (o := 1) hM6 rfl
  have c2 := cell_of_block (o := 2) hM6 rfl
  have d0 := cell_of_block (o := 0) hX6 rfl
  have d1 := cell_of_block (o := 1) hX6 rfl
  have d2 := cell_of_block (o := 2) hX6 rfl
  clear hw6 hb5 hb6 KR2 hM6 hX6
  generalize w5.heap.size = p2 at *
  go_upto_region 8 with fail
  have HLY := Lib.hid (fun (W : World) (h : Below w6.heap.size w6 W) => (h.block _ (Array.getElem?_eq_some_iff.1 HY6.out).1).trans HY6.out)
  have KO := Lib.hid (fun (W : World) (h : Below w6.heap.size w6 W) => cmd_one W (HE.out.below (below_next HB6.out h)) (HN.out.below (below_next HB6.out h)))
  have HTB := Lib.hid (fun (W : World) (h : Below w6.heap.size w6 W) => txt_conv (HT.out.below (below_next HB6.out h)) W (Below.refl _ _))
  generalize hsb : strOfNums bs = sb at *
  have HS_sb := Lib.hid hsb
  clear hsb c0 c1 c2 d0 d1 d2
  refine Rl.wp_region_rel (fun a b => Below a.heap.size a b) w6 (fun a b c h h' => below_next h h') (fun a => Below.refl _ _) hmx (by kernel_rfl) (Below.refl _ _).drew ?_
  iterate 3 (refine Rl.textR_run ?_ (fun ρ => ?_) (fun ρ W hS hd => ?_) ?_; rotate_left; (focus go_simp); (focus (obtain ⟨hc, hf⟩ := bcell hS; go_simp; first | exact ⟨rfl, Below.refl _ _⟩ | (refine ⟨?_, Below.refl _ _⟩; rfl))); (try go_simp))
  iterate 6 (refine Rl.textR_skip (fun ρ => ?_) ?_; (focus (first | rfl | (go_simp; done) | (go_simp; rfl))); (try go_simp))
  iterate 10 (refine Rl.textR_run ?_ (fun ρ => ?_) (fun ρ W hS hd => ?_) ?_; rotate_left; (focus go_simp); (focus (obtain ⟨hc, hf⟩ := bcell hS; go_simp; first | exact ⟨rfl, Below.refl _ _⟩ | (refine ⟨?_, Below.refl _ _⟩; rfl))); (try go_simp))
  (refine Rl.textR_run ?_ (fun ρ => ?_) (fun ρ W hS hd => ?_) ?_; rotate_left; (focus go_simp); (focus (obtain ⟨hc, hf⟩ := bcell hS; go_simp; refine (KO.out W hS).mono ?_; rintro e w1 ⟨rfl, hb⟩; refine ⟨_, rfl, ?_, hb⟩; rfl)); (try go_simp))
  iterate 2 (refine Rl.textR_run ?_ (fun ρ => ?_) (fun ρ W hS hd => ?_) ?_; rotate_left; (focus go_simp); (focus (obtain ⟨hc, hf⟩ := bcell hS; go_simp; first | exact ⟨rfl, Below.refl _ _⟩ | (refine ⟨?_, Below.refl _ _⟩; rfl))); (try go_simp))
  refine Rl.textR_nil ?_
  intro ρ w16 hg hk
  have HF := Lib.hid (below_next HB6.out hg)
  clear hg hk
  dsimp only
  
  clear ρ
  go_wp2_with fail
  go_ret
  exact ⟨rfl, HF.out⟩
theorem replies_anyC {a b c : Int} (ha : -9223372036854775808 ≤ a ∧ a ≤ 9223372036854775807) (hb : -9223372036854775808 ≤ b ∧ b ≤ 9223372036854775807) (hc : -9223372036854775808 ≤ c ∧ c ≤ 9223372036854775807) (la : Option Addr) (ll lcap : Nat) (bs : List Int) (w : World) (ht : TxtAt w (.slice la ll lcap) bs) (hE : ErrAt w) (hN : CmdNamesAt w) : Calls Tryd.prog 6 #[.agg #[.int .i64 a, .int .i64 b, .int .i64 c], .slice la ll lcap] w fun e w' => e = .returned (.bool true) ∧ Below w.heap.size w w' := by
  by_cases hl : ll ≤ 500
  · cases hgd : goodR a b c <;> cases hrd : okR bs
    · exact replies_nn ha hb hc hgd la ll lcap bs w ht hl hrd hE hN
    · exact replies_ny ha hb hc hgd la ll lcap bs w ht hl hrd hE hN
    · exact replies_yn ha hb hc hgd la ll lcap bs w ht hl hrd hE hN
    · exact replies_yy ha hb hc hgd la ll lcap bs w ht hl hrd hE hN
  · exact replies_longC _ la ll lcap hl w
end Go.Proofs.YtlejicmpefdhpaaDoor
