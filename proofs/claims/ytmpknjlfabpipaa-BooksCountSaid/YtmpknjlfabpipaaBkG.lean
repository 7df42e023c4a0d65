/- All lines of books visited in their order (layer 14), told by an invariant of the visitor. No condition. -/
import Derived.Test.YtmpknjlfabpipaaBkE
import Derived.Test.YtmpknjlfabpipaaBkF
namespace Go.Proofs.Ytmpknjlfabpipaa
set_option linter.unusedVariables false
open Go.ChangeShapes Go.WideShapes Go.ChangeAt Go.RowKit Bk
attribute [local go_sem ↓] Go.wp_at_zero Go.wp_at_succ comesTo_value_eq comesTo_skip_eq comesTo_enter_eq

/-- rows of ints stay -/
structure StB (w w' : World) : Prop where
  size : w.heap.size ≤ w'.heap.size
  blk : ∀ (j : Nat) (cs : Array Value) (mk : Nat × Nat), w.heap[j]? = some (.cells cs 3 mk) → w'.heap[j]? = w.heap[j]?
theorem StB.of_below {w w' : World} (h : Below w.heap.size w w') : StB w w' := ⟨h.size, fun j _ _ hj => h.block j (Array.getElem?_eq_some_iff.1 hj).1⟩
theorem StB.trans {a b c : World} (h : StB a b) (k : StB b c) : StB a c := ⟨Nat.le_trans h.size k.size, fun j cs mk hj => (k.blk j cs mk ((h.blk j cs mk hj).trans hj)).trans (h.blk j cs mk hj)⟩
theorem rowI_st {w w' : World} {B n : Nat} {v : Value} {xs : List Value} (h : w.ownsRow B 3 1 v n xs) (hs : StB w w') : w'.ownsRow B 3 1 v n xs := by
  obtain ⟨h1, hn | ⟨g, cap, cur, hv, hB, hg, rest⟩⟩ := h
  · exact ⟨h1, .inl hn⟩
  · exact ⟨h1, .inr ⟨g, cap, cur, hv, hB, (hs.blk _ _ _ hg).trans hg, rest⟩⟩
theorem rowI_form {w : World} {B n : Nat} {v : Value} {xs : List Value} (h : w.ownsRow B 3 1 v n xs) : ∃ ad c, v = .slice ad n c ∧ (0 < n → ∃ g, ad = some ⟨g, 0, none⟩) := by
  obtain ⟨_, ⟨rfl, rfl⟩ | ⟨g, cap, cur, hv, _⟩⟩ := h
  · exact ⟨none, 0, rfl, fun h => absurd h (by omega)⟩
  · exact ⟨_, cap, hv, fun _ => ⟨g, rfl⟩⟩
theorem getB_at : ∀ {L : List LV}, Up L → ∀ {k : Nat}, k < L.length → getB L (usr (L.getD k zL)) = some (L.getD k zL)
  | [], _, k, hk => absurd hk (by simp)
  | y :: L, h, 0, _ => by simp [getB]
  | y :: L, h, k + 1, hk => by
    have h0 := List.pairwise_cons.1 h
    have hk' : k < L.length := by simpa using hk
    have ih := getB_at h0.2 hk'
    have hm : L.getD k zL ∈ L := by rw [List.getD_eq_getElem?_getD, List.getElem?_eq_getElem hk']; exact List.getElem_mem _
    have := h0.1 _ hm
    unfold getB at ih ⊢
    rw [show (y :: L).getD (k + 1) zL = L.getD k zL by simp [List.getD], List.find?_cons, show (usr y == usr (L.getD k zL)) = false by rw [beq_eq_false_iff_ne]; omega]
    exact ih
theorem line_at {L : List LV} (h : BG L) {k : Nat} (hk : k < L.length) : lineB L (usr (L.getD k zL)) = L.getD k zL := by unfold lineB; rw [getB_at h.up hk]; rfl
theorem Bk.BG.at {L : List LV} (h : BG L) {k : Nat} (hk : k < L.length) : L.getD k zL ∈ L := by rw [List.getD_eq_getElem?_getD, List.getElem?_eq_getElem hk]; exact List.getElem_mem _
set_option maxRecDepth 100000 in
set_option maxHeartbeats 4000000 in
theorem each_bk {w : World} {b m : Nat} {h : Int} {L : List LV} (H : BkAt w b m h L) (fb : FuncId) (caps : Array Value) (Inv : Nat → World → Prop) (hE : Go.Proofs.Enters Try.prog fb)
    (h0 : ∀ W, Below w.heap.size w W → Inv 0 W) (hR : ∀ k W, Inv k W → BkAt W b m h L)
    (hC : ∀ k W, k < L.length → Inv k W → Calls Try.prog fb (#[.agg (vL (L.getD k zL)).toArray] ++ caps) W fun e w' => e = .returned (.tuple #[]) ∧ Inv (k + 1) w' ∧ StB W w') :
    Calls Try.prog 21 #[.pointer (some ⟨b, 0, none⟩), .func (.func fb) #[] caps] w fun e w' => e = .returned (.tuple #[]) ∧ Inv L.length w' ∧ StB w w' := by
  unfold Go.Proofs.Enters at hE
  have KT := Lib.hid (there_bk H)
  have KK := Lib.hid (keys_c (some m) w)
  have KS := Lib.hid (sorted_c H)
  have HG := Lib.hid H.good
  have HC := Lib.hid hC
  have HR := Lib.hid hR
  have H0 := Lib.hid h0
  have HLN := Lib.hid H.good.len
  have c1 : w.cell? ⟨b, 1, none⟩ = some (.map (some m)) := cell_of_block (o := 1) H.blk rfl
  clear hC hR h0 H
  go_enter Try.func21, Try.ntmps21
  go_wp2_with fail
  refine KT.out.mono ?_
  rintro e w1 ⟨rfl, hww⟩
  obtain rfl := hww
  go_wp2_with fail
  refine KK.out.mono ?_
  rintro e w2 ⟨rfl, hww⟩
  obtain rfl := hww
  go_wp2_with fail
  refine KS.out.mono ?_
  rintro e w3 ⟨v, rfl, hrow, hbel⟩
  obtain ⟨ad, c, rfl, had⟩ := rowI_form hrow
  have HRW := Lib.hid hrow
  have HAD := Lib.hid had
  have HB := Lib.hid hbel
  have HI := Lib.hid (H0.out _ hbel)
  clear hrow had hbel c1 KT KK KS H0
  go_wp2_with fail
  go_loopw [16] (fun i wr => ∃ k : Nat, k ≤ L.length ∧ i = .int .i64 k ∧ Inv k wr ∧ StB w3 wr) (fun i _ => L.length - (intOf i).toNat)
  case atStart => exact ⟨0, Nat.zero_le _, rfl, HI.out, ⟨Nat.le_refl _, fun _ _ _ _ => rfl⟩⟩
  case round =>
    obtain ⟨k, hk, rfl, hinv, hst⟩ := hrel
    have HV := Lib.hid hinv
    have HS := Lib.hid hst
    clear hinv hst HI
    by_cases hlt : k < L.length
    · have hd2 : decide ((k : Int) < (L.length : Int)) = true := decide_eq_true (by omega)
      have hlo : (0 : Int) ≤ (k : Int) := by omega
      have hkl : (k : Int) < (L.length : Int) := by omega
      have hw1 : IntKind.i64.wrap ((k : Int) + 1) = (k : Int) + 1 := by have := HLN.out; rw [IntKind.wrap_i64]; omega
      obtain ⟨g, hg⟩ := HAD.out (by omega)
      subst hg
      have HRW2 := rowI_st HRW.out HS.out
      have cu : wr.cell? ⟨g, k, none⟩ = some (.int .i64 (usr (L.getD k zL))) := by
        rw [HRW2.cellAt k (by omega)]
        rw [List.getElem?_map, List.getElem?_map, List.getD_eq_getElem?_getD, List.getElem?_eq_getElem hlt]
        rfl
      have HA := HG.out.all _ (HG.out.at hlt)
      have HH := HR.out k wr HV.out
      have hlk := HH.look (u := usr (L.getD k zL)) (by omega) (by omega)
      rw [line_at HG.out hlt] at hlk
      have cb : wr.cell? ⟨b, 1, none⟩ = some (.map (some m)) := cell_of_block (o := 1) HH.blk rfl
      have KC := Lib.hid (HC.out k wr hlt HV.out)
      clear HRW2 HA HH HV
      generalize hx : usr (L.getD k zL) = u at *
      clear hx
      generalize (vL (L.getD k zL)).toArray = A at *
      go_wp2_with fail
      refine KC.out.mono ?_
      rintro e w4 ⟨rfl, hv4, hs4⟩
      have HV4 := Lib.hid hv4
      have HS4 := Lib.hid (HS.out.trans hs4)
      clear hv4 hs4 HS KC cu cb hlk
      go_wp2_with fail
      go_roundw
      case rel => exact ⟨k + 1, by omega, by go_num, HV4.out, HS4.out⟩
      case measure => simp [intOf]; omega
    · have hke : k = L.length := by omega
      subst hke
      have hd2 : decide ((L.length : Int) < (L.length : Int)) = false := decide_eq_false (by omega)
      go_wp2_with fail
      go_end0
      exact ⟨rfl, HV.out, (StB.of_below HB.out).trans HS.out⟩
theorem each_no {w : World} {v : Value} (h : NoBk w v) (f : Value) : Calls Try.prog 21 #[v, f] w fun e w' => e = .returned (.tuple #[]) ∧ w' = w := by
  have KT := Lib.hid (there_no h)
  obtain ⟨p, rfl⟩ : ∃ p, v = .pointer p := by rcases h with rfl | ⟨g, rfl, _⟩ <;> exact ⟨_, rfl⟩
  clear h
  go_enter Try.func21, Try.ntmps21
  go_wp2_with fail
  refine KT.out.mono ?_
  rintro e w1 ⟨rfl, hw⟩
  obtain rfl := hw
  go_wp2_with fail
  (try simp only [Exit.inBlock, Exit.then])
  refine bodyPost_ret (results_none rfl _ _ _) rfl ?_
  exact ⟨rfl, rfl⟩
theorem half_bk {w : World} {b m : Nat} {h : Int} {L : List LV} (H : BkAt w b m h L) : Calls Try.prog 11 #[.pointer (some ⟨b, 0, none⟩)] w fun e w' => e = .returned (.int .i64 h) ∧ Below w.heap.size w w' := by
  have KT := Lib.hid (there_bk H)
  have c0 : w.cell? ⟨b, 0, none⟩ = some (.int .i64 h) := cell_of_block (o := 0) H.blk rfl
  clear H
  go_enter Try.func11, Try.ntmps11
  go_wp2_with fail
  refine KT.out.mono ?_
  rintro e w1 ⟨rfl, hw⟩
  obtain rfl := hw
  go_wp2_with fail
  go_ret
  exact ⟨rfl, Below.refl _ _⟩
theorem half_no {w : World} {v : Value} (h : NoBk w v) : Calls Try.prog 11 #[v] w fun e w' => e = .returned (.int .i64 0) ∧ Below w.heap.size w w' := by
  have KT := Lib.hid (there_no h)
  obtain ⟨p, rfl⟩ : ∃ p, v = .pointer p := by rcases h with rfl | ⟨g, rfl, _⟩ <;> exact ⟨_, rfl⟩
  clear h
  go_enter Try.func11, Try.ntmps11
  go_wp2_with fail
  refine KT.out.mono ?_
  rintro e w1 ⟨rfl, hw⟩
  obtain rfl := hw
  go_wp2_with fail
  go_ret
  exact ⟨rfl, Below.refl _ _⟩
theorem line_no {w : World} {v : Value} (h : NoBk w v) (u : Int) : Calls Try.prog 5 #[v, .int .i64 u] w fun e w' => e = .returned (.tuple #[.agg (vL zL).toArray, .bool false]) ∧ Below w.heap.size w w' := by
  have KT := Lib.hid (fun X (hX : Below w.heap.size w X) => there_no (h.below hX))
  obtain ⟨p, rfl⟩ : ∃ p, v = .pointer p := by rcases h with rfl | ⟨g, rfl, _⟩ <;> exact ⟨_, rfl⟩
  clear h
  have HB := Lib.hid (below_alloc (Below.refl _ w) (.cells #[.int .i64 0, .int .i64 0, .int .i64 0, .int .i64 0, .int .i64 0, .int .i64 0, .int .i64 0, .int .i64 0, .int .i64 0] 33))
  have HR := Lib.hid (World.alloc_heap_new w (.cells #[.int .i64 0, .int .i64 0, .int .i64 0, .int .i64 0, .int .i64 0, .int .i64 0, .int .i64 0, .int .i64 0, .int .i64 0] 33))
  go_enter Try.func5, Try.ntmps5
  go_upto_region 1 with fail
  generalize w.alloc (.cells #[.int .i64 0, .int .i64 0, .int .i64 0, .int .i64 0, .int .i64 0, .int .i64 0, .int .i64 0, .int .i64 0, .int .i64 0] 33) = W1 at *
  go_wp2_with fail
  refine (KT.out _ HB.out).mono ?_
  rintro e w1 ⟨rfl, hw⟩
  obtain rfl := hw
  obtain ⟨q, hq⟩ : ∃ q, q = w.heap.size := ⟨_, rfl⟩
  rw [← hq] at HR ⊢
  have HQ := Lib.hid hq
  clear hq
  go_upto_region 2 with fail
  refine wp_region_lit ?_
  refine wpList_yield (w' := w1) (v := .agg (vL zL).toArray) rfl (by first | (go_simp; done) | (go_simp; rfl)) ?_
  refine wpList_store_all rfl 33 _ _ rfl q (T := 33) (vL zL) (by go_simp) (by go_simp) HR.out (by rfl) (lineInfo rfl) (vL_one _) ?_
  intro w2 hw2
  have HB2 := Lib.hid (hw2.below HB.out (by have := HQ.out; omega))
  have HR2 := Lib.hid hw2.there
  clear hw2
  refine wpList_yield (w' := w2) (v := .bool false) rfl (by go_simp) ?_
  rename_i hK
  refine hK _ _ ?_
  go_simp
  go_wp2_with fail
  refine bodyPost_ret (results_all2 (vL zL) _ Try.results5 (by go_simp) HR2.out Try.underlying33 rfl (lineInfo rfl)) rfl ?_
  exact ⟨by first | (go_simp; done) | simp, HB2.out⟩
end Go.Proofs.Ytmpknjlfabpipaa
