/- JournalCuts walked. Condition: errors.errorType reads as the program's text lays it. -/
import Derived.Test.YtomhfnaekjmjnaaDoorJnq
import Derived.Deep.CutBlock
import Derived.BigQuiet
namespace Go.Proofs.YtomhfnaekjmjnaaDoor
set_option linter.unusedVariables false
open Go.ChangeShapes Go.WideShapes Go.ChangeAt Go.RowKit
attribute [local go_sem ↓] Go.wp_at_zero Go.wp_at_succ comesTo_value_eq comesTo_skip_eq comesTo_enter_eq

/-- a row of ints of the call's own -/
def OwnZ (w : World) (B : Nat) (v : Value) (l : List Int) : Prop := w.ownsRow B 3 1 v l.length (l.map (Value.int .i64))
theorem info_int5 : (Tryd.prog.info? 3).map (fun i => (i.zero, i.size, i.bytes)) = some (some (.int .i64 0), 1, 8) := by kernel_rfl
theorem OwnZ.form {w : World} {B : Nat} {v : Value} {l : List Int} (h : OwnZ w B v l) : (l = [] ∧ v = .slice none 0 0) ∨ ∃ g c, v = .slice (some ⟨g, 0, none⟩) l.length c ∧ B ≤ g ∧ g < w.heap.size ∧ ∀ k, k < l.length → w.cell? ⟨g, k, none⟩ = some (.int .i64 (l.getD k 0)) := by
  rcases h.2 with ⟨e, hl⟩ | ⟨g, cap, cur, e, hg, hc, rest⟩
  · exact .inl ⟨List.length_eq_zero_iff.1 hl, e⟩
  · refine .inr ⟨g, cap, e, hg, (Array.getElem?_eq_some_iff.1 hc).1, fun k hk => ?_⟩
    have hcl := World.ownsRow.cells (g := g) h (by rw [e]; rfl)
    have e0 := hcl k (.int .i64 (l.getD k 0)) (by simp [List.getElem?_map, List.getElem?_eq_getElem hk, List.getD])
    have hadd : ∀ j, (⟨g, 0, none⟩ : Addr).add j = ⟨g, j, none⟩ := fun j => by unfold Addr.add; split <;> simp_all
    rw [hadd] at e0
    exact e0
theorem own_apart {w : World} {B1 B2 n1 n2 s1 s2 : Nat} {T1 T2 : TypeId} {v1 v2 : Value} {l1 l2 : List Value} (h1 : w.ownsRow B1 T1 s1 v1 n1 l1) (h2 : w.ownsRow B2 T2 s2 v2 n2 l2) (hT : T1 ≠ T2) {j : Nat} (hj : v1.ownBlock = some j) : v2.ownBlock ≠ some j := by
  intro e
  rcases h1.2 with ⟨rfl, _⟩ | ⟨g, cap, cur, rfl, _, hh, _⟩
  · cases hj
  · rcases h2.2 with ⟨rfl, _⟩ | ⟨g2, cap2, cur2, rfl, _, hh2, _⟩
    · cases e
    · simp only [Value.ownBlock, Option.some.injEq] at hj e
      subst hj
      subst e
      rw [hh] at hh2
      injection hh2 with hh2
      injection hh2 with _ h3 _
      exact hT h3
def endsN (A : Nat → JRec) (k : Nat) : List Int := (List.range k).map fun j => ((framesF (recsN A (j + 1))).length : Int)
theorem endsN_succ (A : Nat → JRec) (k : Nat) : endsN A (k + 1) = endsN A k ++ [((framesF (recsN A (k + 1))).length : Int)] := by unfold endsN; rw [List.range_succ, List.map_append]; rfl
theorem endsN_len (A : Nat → JRec) (k : Nat) : (endsN A k).length = k := by simp [endsN]
theorem endsN_get (A : Nat → JRec) {k j : Nat} (h : j < k) : (endsN A k).getD j 0 = ((framesF (recsN A (j + 1))).length : Int) := by
  simp [endsN, List.getD, h]
theorem recsN_take (A : Nat → JRec) {k j : Nat} (h : j ≤ k) : (recsN A k).take j = recsN A j := by
  unfold recsN
  rw [← List.map_take, List.take_range, Nat.min_eq_left h]
structure CAt (W : World) (A : Nat → JRec) (k : Nat) (v u : Value) (wr : World) : Prop where
  all : OwnTxt wr W.heap.size v (framesF (recsN A k))
  ends : OwnZ wr W.heap.size u (endsN A k)
  below : Below W.heap.size W wr
  good : ∀ j, j < k → (A j).2.length ≤ 300 ∧ -9223372036854775808 ≤ (A j).1 ∧ (A j).1 ≤ 9223372036854775807
  vals : ∀ j, j < k → ∀ x ∈ (A j).2, 0 ≤ x ∧ x ≤ 255
theorem CAt.goodR {W wr : World} {A : Nat → JRec} {k : Nat} {v u : Value} (h : CAt W A k v u wr) : ∀ r ∈ recsN A k, GoodR r := by
  intro r hr
  obtain ⟨j, hj, rfl⟩ := List.mem_map.1 hr
  have hj := List.mem_range.1 hj
  exact ⟨(h.good j hj).2, by have := (h.good j hj).1; omega, h.vals j hj⟩
theorem framesC_le {A : Nat → JRec} : ∀ {k : Nat}, (∀ j, j < k → (A j).2.length ≤ 300 ∧ -9223372036854775808 ≤ (A j).1 ∧ (A j).1 ≤ 9223372036854775807) → (framesF (recsN A k)).length ≤ k * 318
  | 0, _ => Nat.le_refl _
  | k + 1, h => by
    rw [recsN_succ, frames_snoc, List.length_append]
    have h1 := framesC_le (k := k) (fun j hj => h j (by omega))
    have h2 := frame_le (h k (by omega)).2
    have h3 := (h k (by omega)).1
    omega
set_option maxRecDepth 100000 in
set_option maxHeartbeats 4000000 in
theorem jcuts_any (ad : Option Addr) (ll lcap : Nat) (A : Nat → JRec) (cut : Int) (hcut0 : -9223372036854775808 ≤ cut ∧ cut ≤ 9223372036854775807) (W : World) (hA : RecsAt W ad ll A) (hE : ErrAt W) :
    Calls Tryd.prog 5 #[.slice ad ll lcap, .int .i64 cut] W fun e W' => e = .returned (.bool true) ∧ Below W.heap.size W W' := by
  obtain ⟨i0, hi, hz0, hz1, hz2⟩ := info_parts info_int5
  have HA := Lib.hid hA
  have HE := Lib.hid hE
  have HCU := Lib.hid hcut0
  clear hA hE hcut0
  go_enter Tryd.func5, Tryd.ntmps5
  go_upto_block 0 with fail
  go_cut [5, 6] (fun s t wx => ∃ (k : Nat) (v u : Value), k ≤ 12 ∧ k ≤ ll ∧ v = s ∧ u = t ∧ CAt W A k v u wx)
  case first =>
    go_wp2_with fail
    go_loopw [5, 6, 7] (fun s t i wr => ∃ (k : Nat) (v u : Value), k ≤ 12 ∧ k ≤ ll ∧ i = .int .i64 k ∧ v = s ∧ u = t ∧ CAt W A k v u wr) (fun _ _ i _ => 12 - (intOf i).toNat)
    case atStart => exact ⟨0, _, _, by decide, Nat.zero_le _, rfl, rfl, rfl, ⟨OwnTxt.nil, ⟨rfl, .inl ⟨rfl, rfl⟩⟩, Below.refl _ _, fun j hj => by omega, fun j hj => by omega⟩⟩
    case round =>
      obtain ⟨k, v, u, hk12, hkl, rfl, rfl, rfl, hst⟩ := hrel
      have HST := Lib.hid hst
      clear hst
      by_cases hlt : k < ll ∧ k < 12
      case neg =>
        rcases (by omega : ¬ k < ll ∨ k < ll ∧ k = 12) with hx | ⟨hx, rfl⟩
        · have hd1 : decide (k < ll) = false := decide_eq_false (by omega)
          clear hlt
          go_wp2_with fail
          go_meet
          exact ⟨k, _, _, hk12, hkl, rfl, rfl, HST.out⟩
        · have hd1 : decide (12 < ll) = true := decide_eq_true (by omega)
          clear hlt
          go_wp2_with fail
          go_meet
          exact ⟨12, _, _, hk12, hkl, rfl, rfl, HST.out⟩
      case pos =>
        obtain ⟨b0, off, rfl, hrow⟩ := HA.out.2 (by omega)
        have hcW := hrow k hlt.1
        clear hrow
        obtain ⟨r, hr⟩ : ∃ r, r = A k := ⟨_, rfl⟩
        rw [← hr] at hcW
        obtain ⟨g, bs⟩ := r
        have HR := Lib.hid hr
        clear hr
        have hbl := HST.out.below
        have q0 := (hbl.cell (p := ⟨b0, off + k * 2, none⟩) (World.block_lt_of_cell? W _ hcW.c0)).trans hcW.c0
        obtain ⟨sad, sc, k1, k2, k3, _⟩ := hcW.c1
        have hg := hcW.g_in
        have q1 := (hbl.cell (p := ⟨b0, off + k * 2 + 1, none⟩) (World.block_lt_of_cell? W _ k1)).trans k1
        try simp only at q0 q1 k2 k3 hg
        have HK2 := Lib.hid k2
        have HGI := Lib.hid hg
        have KF := Lib.hid (frame_any g hg (k2.below hbl))
        have hd1 : decide (k < ll) = true := decide_eq_true hlt.1
        have hd2 : decide ((k : Int) < 12) = true := decide_eq_true (by omega)
        have hix : (k : Int) < (ll : Int) := by omega
        have hwk : IntKind.i64.wrap ((k : Int) + 1) = ((k + 1 : Nat) : Int) := by rw [IntKind.wrap_i64]; omega
        have HLT := Lib.hid hlt
        clear hcW k1 k2 hg hbl hlt
        obtain ⟨m, hm⟩ : ∃ m, m = bs.length := ⟨_, rfl⟩
        have HM := Lib.hid hm
        rw [← hm] at q1 k3 KF
        clear hm
        by_cases hb3 : m < 300
        case neg =>
          have hd3 : decide ((m : Int) < 300) = false := decide_eq_false (by omega)
          clear hb3
          go_wp2_with fail
          go_meet
          exact ⟨k, _, _, hk12, hkl, rfl, rfl, HST.out⟩
        case pos =>
        have hd3 : decide ((m : Int) < 300) = true := decide_eq_true (by omega)
        have HB3 := Lib.hid hb3
        clear hb3
        go_wp2_with fail
        refine KF.out.mono ?_
        rintro e w4 ⟨x, rfl, ho4, hb4⟩
        simp only at ho4
        rw [if_pos (by have := HM.out; have := HB3.out; omega)] at ho4
        rw [if_pos (show (g, bs).2.length ≤ 65536 by have := HM.out; have := HB3.out; simp only; omega)]
        have hfr : (frameF (g, bs)).length ≤ 318 := by have := frame_le (r := (g, bs)) HGI.out; have := HM.out; have := HB3.out; simp only at *; omega
        have hf9 : 9 ≤ (frameF (g, bs)).length := by rw [frame_len]; have := putI_pos g; unfold bodyF; simp; omega
        obtain ⟨un, hun⟩ : ∃ un, un = (frameF (g, bs)).length := ⟨_, rfl⟩
        obtain ⟨xa, xc, rfl⟩ : ∃ a c, x = .slice a un c := by
          rcases ho4.form with ⟨rfl, h⟩ | ⟨g', c', rfl, _⟩
          · rw [hun, h]; exact ⟨_, _, rfl⟩
          · rw [hun]; exact ⟨_, _, rfl⟩
        have hd9 : decide ((un : Int) < 9) = false := decide_eq_false (by omega)
        have HO4 := Lib.hid ho4
        have HB4 := Lib.hid hb4
        have hfl := framesC_le HST.out.good
        have HALL := Lib.hid (HST.out.all.below hb4)
        have HENDS := Lib.hid (show OwnZ w4 W.heap.size u (endsN A k) from Ap.own_below HST.out.ends hb4)
        have hBW : W.heap.size ≤ w4.heap.size := Nat.le_trans HST.out.below.size hb4.size
        have hxl : (framesF (recsN A k)).length + (frameF (g, bs)).length ≤ 140737488355328 := by omega
        obtain ⟨va, vc, rfl⟩ : ∃ a c, v = .slice a (framesF (recsN A k)).length c := by
          rcases HST.out.all.form with ⟨rfl, h⟩ | ⟨g', c', rfl, _⟩
          · rw [h]; exact ⟨none, 0, rfl⟩
          · exact ⟨_, _, rfl⟩
        have HXL := Lib.hid hxl
        have HFL := Lib.hid (And.intro hfl hfr)
        have HTX := Lib.hid ho4.at
        have hf : framesF (recsN A (k + 1)) = framesF (recsN A k) ++ frameF (g, bs) := by rw [recsN_succ, frames_snoc, ← HR.out]
        have HF := Lib.hid hf
        have HUN := Lib.hid hun
        clear ho4 hb4 hfr hf9 hfl hxl hf hun KF
        obtain ⟨xs, hxs⟩ : ∃ xs, xs = framesF (recsN A k) := ⟨_, rfl⟩
        have HXS := Lib.hid hxs
        rw [← hxs] at HALL HXL HFL HF ⊢
        clear hxs
        go_upto_region 10 with (at_builtin; go_loud (refine wpList_append_txt (by rfl) _ _ (by rfl) W.heap.size (.slice va xs.length vc) xs (by rfl) HALL.out _ (frameF (g, bs)) (by rfl) HTX.out HXL.out hBW ?_; intro ad' n' c' w5 o5 b5 g5; have O5 := Lib.hid o5; have B5 := Lib.hid b5; have G5 := Lib.hid g5; clear o5 b5 g5))
        have hn' : n' = (framesF (recsN A (k + 1))).length := by
          rw [HF.out]
          rcases O5.out.form with ⟨e, h⟩ | ⟨g', c', e, _⟩
          · rw [h]; cases e; rfl
          · injection e
        subst hn'
        have hen5 : OwnZ w5 W.heap.size u (endsN A k) := Ap.own_keep HENDS.out fun j hj => G5.out.block j (Ap.own_lt HENDS.out j hj) (fun e => own_apart HENDS.out HALL.out.own (by decide) hj e.symm)
        obtain ⟨ua, uc, rfl⟩ : ∃ a c, u = .slice a k c := by
          rcases hen5.form with ⟨h, rfl⟩ | ⟨g', c', rfl, _⟩
          · have := endsN_len A k; rw [h] at this; exact ⟨none, 0, by rw [← this]; rfl⟩
          · exact ⟨_, _, by rw [endsN_len]⟩
        obtain ⟨N, hN⟩ : ∃ N, N = (framesF (recsN A (k + 1))).length := ⟨_, rfl⟩
        have HN := Lib.hid hN
        rw [← hN]
        have hbA := below_alloc (Below.refl _ w5) (.cells #[.int .i64 (N : Int)] 3)
        have HBA := Lib.hid hbA
        have HEN := Lib.hid (show World.ownsRow (w5.alloc (.cells #[.int .i64 (N : Int)] 3)) W.heap.size 3 1 (.slice ua k uc) k ((endsN A k).map (Value.int .i64)) from by have h := Ap.own_below hen5 hbA; rw [endsN_len] at h; exact h)
        have hmx1 : k + 1 ≤ maxLen := by unfold maxLen; omega
        have hmx2 : (k + 1) * 8 ≤ 140737488355328 := by omega
        have hbg : W.heap.size ≤ (w5.alloc (.cells #[.int .i64 (N : Int)] 3)).heap.size := Nat.le_trans hBW (Nat.le_trans B5.out.size hbA.size)
        have HAL5 := Lib.hid (O5.out.below hbA)
        clear hen5 hbA hN
        go_wp2_with (at_builtin; go_loud (refine wpList_append_own_at _ rfl _ _ 59 rfl W.heap.size 3 i0 (.int .i64 0) 1 8 Tryd.underlying59 hi hz0 hz1 hz2 rfl (by decide) (.slice ua k uc) k ((endsN A k).map (Value.int .i64)) rfl HEN.out ⟨w5.heap.size, 0, none⟩ 1 1 [.int .i64 (N : Int)] rfl rfl (fun j u hj => cell_one_new _ _ _ j u hj) (by intro u hu; simp at hu; subst hu; rfl) hmx1 hmx2 hbg ?_; intro v' w6 hown' hgrow _ hat; obtain ⟨g', cap', rfl⟩ := ownsRow_succ hown'; have HO' := Lib.hid hown'; have HGW := Lib.hid hgrow; clear hown' hgrow hat))
        go_roundw
        case rel =>
          have hk1 := HLT.out
          refine ⟨k + 1, _, _, by omega, by omega, by go_num, rfl, rfl, ⟨?_, ?_, ?_, fun j hj => ?_, fun j hj => ?_⟩⟩
          · rw [HF.out]
            have h6 := HAL5.out
            rw [← HN.out] at h6
            exact h6.of_block fun j hj => HGW.out.block j (ownBlock_lt h6 hj) (fun e => own_apart h6.own HEN.out (by decide) hj e.symm)
          · unfold OwnZ
            rw [endsN_succ, List.length_append, endsN_len, List.map_append, ← HN.out]
            exact HO'.out
          · refine Below.grown ?_ HGW.out hbg (fun j hj => Ap.own_blk HEN.out j hj)
            have hb4 := HST.out.below.trans (HB4.out.mono HST.out.below.size)
            exact (hb4.trans (B5.out)).trans (HBA.out.mono (Nat.le_trans hBW B5.out.size))
          · by_cases h : j < k
            · exact HST.out.good j h
            · obtain rfl : j = k := by omega
              rw [← HR.out]
              exact ⟨by have := HM.out; have := HB3.out; simp only; omega, HGI.out⟩
          · by_cases h : j < k
            · exact HST.out.vals j h
            · obtain rfl : j = k := by omega
              rw [← HR.out]
              intro x hx
              obtain ⟨i, hi, rfl⟩ := List.getElem_of_mem hx
              have := HK2.out.bytes8 i hi
              simpa [List.getD, List.getElem?_eq_getElem hi] using this
        case measure => have := HLT.out; simp [intOf]; omega
  case rest =>
  obtain ⟨k, v, u, hk12, hkl, rfl, rfl, hst⟩ := hcut
  have HST := Lib.hid hst
  have HGR := Lib.hid hst.goodR
  have hfl := framesC_le hst.good
  have hall := hst.all
  have hends := hst.ends
  obtain ⟨N, hN⟩ : ∃ N, N = (framesF (recsN A k)).length := ⟨_, rfl⟩
  rw [← hN] at hfl
  have HN := Lib.hid hN
  obtain ⟨va, vc, rfl⟩ : ∃ a c, v = .slice a N c := by
    rcases hall.form with ⟨rfl, h⟩ | ⟨g', c', rfl, _⟩
    · rw [hN, h]; exact ⟨none, 0, rfl⟩
    · rw [hN]; exact ⟨_, _, rfl⟩
  obtain ⟨ua, uc, rfl⟩ : ∃ a c, u = .slice a k c := by
    rcases hends.form with ⟨h, rfl⟩ | ⟨g', c', rfl, _⟩
    · have := endsN_len A k; rw [h] at this; exact ⟨none, 0, by rw [← this]; rfl⟩
    · exact ⟨_, _, by rw [endsN_len]⟩
  have HALL := Lib.hid hall
  have HENDS := Lib.hid hends
  have HBW := Lib.hid hst.below
  have HFL := Lib.hid hfl
  have HK := Lib.hid (And.intro hk12 hkl)
  clear hst hall hends hN
  obtain ⟨T, hT⟩ : ∃ T, T = cut.tmod ((N : Int) + 1) := ⟨_, rfl⟩
  have hN12 : N ≤ 3816 := by have := HK.out; omega
  have hTb : -(N : Int) ≤ T ∧ T ≤ (N : Int) := by
    have hp : 0 < (N : Int) + 1 := by omega
    rcases Int.lt_or_le cut 0 with h | h
    · have h1 := Int.tmod_nonneg ((N : Int) + 1) (show 0 ≤ -cut by omega)
      have h2 := Int.tmod_lt_of_pos (-cut) hp
      rw [Int.neg_tmod] at h1 h2
      omega
    · have h1 := Int.tmod_nonneg ((N : Int) + 1) h
      have h2 := Int.tmod_lt_of_pos cut hp
      omega
  have hne : ¬ ((N : Int) + 1 = 0) := by omega
  have hwa : IntKind.i64.wrap ((N : Int) + 1) = (N : Int) + 1 := by rw [IntKind.wrap_i64]; omega
  have hwb : IntKind.i64.wrap (cut.tmod ((N : Int) + 1)) = T := by rw [← hT, IntKind.wrap_i64]; omega
  have hwc : IntKind.i64.wrap (T + (N : Int)) = T + (N : Int) := by rw [IntKind.wrap_i64]; omega
  have hwd : IntKind.i64.wrap (T + (N : Int) + 1) = T + (N : Int) + 1 := by rw [IntKind.wrap_i64]; omega
  have hmb : 0 ≤ (T + (N : Int) + 1).tmod ((N : Int) + 1) ∧ (T + (N : Int) + 1).tmod ((N : Int) + 1) ≤ N := by
    have h1 := Int.tmod_nonneg ((N : Int) + 1) (show 0 ≤ T + (N : Int) + 1 by omega)
    have h2 := Int.tmod_lt_of_pos (T + (N : Int) + 1) (show 0 < (N : Int) + 1 by omega)
    omega
  obtain ⟨m0, hm0⟩ : ∃ m : Nat, (m : Int) = (T + (N : Int) + 1).tmod ((N : Int) + 1) := ⟨((T + (N : Int) + 1).tmod ((N : Int) + 1)).toNat, by omega⟩
  have hm0N : m0 ≤ N := by omega
  have hwe : IntKind.i64.wrap ((T + (N : Int) + 1).tmod ((N : Int) + 1)) = (m0 : Int) := by rw [← hm0, IntKind.wrap_i64]; omega
  have hval : (wrap64 (wrap64 (cut.tmod ((N : Int) + 1) + (N : Int)) + 1)).tmod ((N : Int) + 1) = (m0 : Int) := by
    rw [← hT, show wrap64 (T + (N : Int)) = T + (N : Int) by unfold wrap64; omega, show wrap64 (T + (N : Int) + 1) = T + (N : Int) + 1 by unfold wrap64; omega, hm0]
  have HV := Lib.hid hval
  clear hTb hmb hm0 hT hval hwb hwc hwd hwe
  go_upto_if 59 with fail
  go_cut [10] (fun n wx => ∃ m : Nat, m ≤ N ∧ n = .int .i64 m ∧ wx = wc)
  case first =>
    by_cases hz : 0 < N
    · have hd : decide ((N : Int) > 0) = true := decide_eq_true (by omega)
      have hd2 : decide (0 < N) = true := decide_eq_true hz
      go_wp2_with fail
      go_meet
      exact ⟨m0, hm0N, by rw [HV.out], rfl⟩
    · have hd : decide ((N : Int) > 0) = false := decide_eq_false (by omega)
      have hd2 : decide (0 < N) = false := decide_eq_false hz
      go_wp2_with fail
      go_meet
      exact ⟨0, by omega, rfl, rfl⟩
  case rest =>
  obtain ⟨m, hmN, rfl, rfl⟩ := hcut
  clear hwa hne hm0N
  have hsp : (va = none ∧ N = 0 ∧ vc = 0) ∨ ∃ g, va = some ⟨g, 0, none⟩ := by
    rcases HALL.out.form with ⟨h, _⟩ | ⟨g', c', h, _⟩
    · injection h with h1 h2 h3; exact .inl ⟨h1, h2, h3⟩
    · injection h with h1; exact .inr ⟨g', h1⟩
  have hcap : N ≤ vc := HALL.out.capLe
  have hsl := slice_to (n := N) hsp (Nat.le_trans hmN hcap)
  have htk := HALL.out.take (k := m) (by rw [← HN.out]; exact hmN)
  have KP := Lib.hid (parse_any htk.at (Nat.le_trans hmN hcap) (by rw [List.length_take, ← HN.out]; omega) (HE.out.below HBW.out))
  have HSL := Lib.hid hsl
  clear htk hsp
  have hs1 := HSL.out wc
  go_wp2_with fail
  refine KP.out.mono ?_
  rintro e w3 ⟨v3, l, rfl, hrec, hmap, hb3⟩
  have HREC := Lib.hid hrec
  have HMAP := Lib.hid hmap
  have HB3 := Lib.hid (HBW.out.trans (hb3.mono HBW.out.size))
  have hE3 : OwnZ w3 W.heap.size (.slice ua k uc) (endsN A k) := Ap.own_below HENDS.out hb3
  have HE3 := Lib.hid hE3
  have hp0 := Lib.hid hmN
  obtain ⟨pn, hpn⟩ : ∃ p, p = (parseF ((framesF (recsN A k)).take m)).2 := ⟨_, rfl⟩
  have HPN := Lib.hid hpn
  rw [← hpn]
  clear hs1 hrec hmap hb3 hE3 hpn KP hcap hmN
  go_upto_block 2 with fail
  go_cut [13] (fun i wx => ∃ q : Nat, q ≤ k ∧ i = .int .i64 q ∧ (∀ j, j < q → (framesF (recsN A (j + 1))).length ≤ m) ∧ (q < k → m < (framesF (recsN A (q + 1))).length) ∧ wx = w3)
  case first =>
    go_wp2_with fail
    go_loopw [13] (fun i wr => ∃ q : Nat, q ≤ k ∧ i = .int .i64 q ∧ (∀ j, j < q → (framesF (recsN A (j + 1))).length ≤ m) ∧ wr = w3) (fun i _ => k - (intOf i).toNat)
    case atStart => exact ⟨0, Nat.zero_le _, rfl, fun j hj => by omega, rfl⟩
    case round =>
      obtain ⟨q, hq, rfl, hall, rfl⟩ := hrel
      have HAL := Lib.hid hall
      clear hall
      by_cases hlt : q < k
      case pos =>
        have hd : decide (q < k) = true := decide_eq_true hlt
        have hix : (q : Int) < (k : Int) := by omega
        have hwk : IntKind.i64.wrap ((q : Int) + 1) = ((q + 1 : Nat) : Int) := by have := HK.out; rw [IntKind.wrap_i64]; omega
        obtain ⟨g1, rfl, e1⟩ : ∃ g1, ua = some ⟨g1, 0, none⟩ ∧ wr.cell? ⟨g1, q, none⟩ = some (.int .i64 ((framesF (recsN A (q + 1))).length : Int)) := by
          rcases HE3.out.form with ⟨h, _⟩ | ⟨g', c', h1, _, h3, h4⟩
          · have := endsN_len A k; rw [h] at this; simp at this; omega
          · injection h1 with h1 _ _
            exact ⟨g', h1, by have := h4 q (by rw [endsN_len]; exact hlt); rw [endsN_get A hlt] at this; exact this⟩
        obtain ⟨en, hen⟩ : ∃ en, en = (framesF (recsN A (q + 1))).length := ⟨_, rfl⟩
        rw [← hen] at e1
        by_cases hle : en ≤ m
        case pos =>
          have hd2 : decide ((en : Int) ≤ (m : Int)) = true := decide_eq_true (by omega)
          have hd3 : decide (en ≤ m) = true := decide_eq_true hle
          have HLE := Lib.hid (And.intro hen hle)
          clear hen hle
          go_wp2_with fail
          go_roundw
          case rel => exact ⟨q + 1, by omega, by go_num, fun j hj => by
            by_cases h : j < q
            · exact HAL.out j h
            · obtain rfl : j = q := by omega
              rw [← HLE.out.1]; exact HLE.out.2, by trivial⟩
          case measure => simp [intOf]; omega
        case neg =>
          have hd2 : decide ((en : Int) ≤ (m : Int)) = false := decide_eq_false (by omega)
          have hd3 : decide (en ≤ m) = false := decide_eq_false hle
          have HLE := Lib.hid (And.intro hen hle)
          clear hen hle
          go_wp2_with fail
          go_meet
          exact ⟨q, hq, rfl, HAL.out, fun _ => by rw [← HLE.out.1]; have := HLE.out.2; omega, rfl⟩
      case neg =>
        have hd : decide (q < k) = false := decide_eq_false hlt
        go_wp2_with fail
        go_meet
        exact ⟨q, hq, rfl, HAL.out, fun h => absurd h hlt, rfl⟩
  case rest =>
  obtain ⟨q, hqk, rfl, hq1, hq2, hww⟩ := hcut
  obtain rfl := hww.symm
  have hpt := parse_take (l := recsN A k) HGR.out (n := m) (j := q) (by rw [recsN_len]; exact hqk) (by
    rw [recsN_take A hqk]
    rcases Nat.eq_zero_or_pos q with h | h
    · subst h; exact Nat.zero_le _
    · have := hq1 (q - 1) (by omega)
      rw [show q - 1 + 1 = q by omega] at this
      exact this) (fun h => by rw [recsN_len] at h; rw [recsN_take A (by omega)]; exact hq2 h)
  rw [recsN_take A hqk] at hpt
  have hl : l.map RV.rc = recsN A q := by rw [HMAP.out, hpt]
  have hpn : pn = (framesF (recsN A q)).length := by rw [HPN.out, hpt]
  have hll : l.length = q := by have := congrArg List.length hl; rw [List.length_map, recsN_len] at this; exact this
  have HLM := Lib.hid hl
  have HLL := Lib.hid hll
  obtain ⟨ra, rc, rfl⟩ : ∃ a c, v3 = .slice a q c := by
    rcases HREC.out.form with ⟨h, rfl⟩ | ⟨g, c, rfl, _⟩
    · rw [h] at hll; exact ⟨none, 0, by rw [← hll]; rfl⟩
    · exact ⟨_, _, by rw [hll]⟩
  have HQK := Lib.hid hqk
  clear hq1 hq2 hpt hl hll
  go_upto_region 18 with fail
  go_cut [118] (fun b wx => b = .bool false ∧ wx = w3)
  case first =>
    rcases Nat.eq_zero_or_pos q with hz | hz
    · subst hz
      have hp0 : pn = 0 := hpn
      subst hp0
      clear hpn
      go_wp2_with fail
      go_meet
      exact ⟨rfl, rfl⟩
    · obtain ⟨q', hq'⟩ : ∃ q', q = q' + 1 := ⟨q - 1, by omega⟩
      have hd : decide ((q : Int) > 0) = true := decide_eq_true (by omega)
      have hd2 : decide (0 < q) = true := decide_eq_true (by omega)
      have hqi : (q' : Int) < (k : Int) := by have := HQK.out; omega
      have hwq : IntKind.i64.wrap ((q : Int) - 1) = (q' : Int) := by have := HQK.out; have := HK.out; rw [IntKind.wrap_i64]; omega
      have hwq2 : wrap64 ((q : Int) - 1) = (q' : Int) := by have := HQK.out; have := HK.out; unfold wrap64; omega
      have he1 : ∃ g1, ua = some ⟨g1, 0, none⟩ ∧ w3.cell? ⟨g1, q', none⟩ = some (.int .i64 (pn : Int)) := by
        rcases HE3.out.form with ⟨h, _⟩ | ⟨g', c', h1, _, h3, h4⟩
        · have := endsN_len A k; rw [h] at this; simp at this; omega
        · injection h1 with h1 _ _
          exact ⟨g', h1, by have := h4 q' (by rw [endsN_len]; omega); rw [endsN_get A (by omega), ← hq', ← hpn] at this; exact this⟩
      have hnz2 : ((q : Int) == 0) = false := by simp; omega
      clear hpn hq'
      obtain ⟨g1, rfl, e1⟩ := he1
      go_wp2_with fail
      go_meet
      exact ⟨rfl, rfl⟩
  case rest =>
  obtain ⟨rfl, hww⟩ := hcut
  obtain rfl := hww.symm
  clear hpn
  go_upto_block 4 with fail
  go_cut [] (fun wx => Below w3.heap.size w3 wx)
  case first =>
    go_wp2_with fail
    go_loopw [14] (fun i wr => ∃ j : Nat, j ≤ q ∧ i = .int .i64 j ∧ Below w3.heap.size w3 wr) (fun i _ => q - (intOf i).toNat)
    case atStart => exact ⟨0, Nat.zero_le _, rfl, Below.refl _ _⟩
    case round =>
      obtain ⟨j, hj, rfl, hb⟩ := hrel
      have HB := Lib.hid hb
      by_cases hlt : j < q
      case pos =>
        have hqk := HQK.out
        have hkl2 := HK.out
        have hd : decide (j < q) = true := decide_eq_true hlt
        have hix : (j : Int) < (q : Int) := by omega
        have hix2 : (j : Int) < (ll : Int) := by omega
        have hwk : IntKind.i64.wrap ((j : Int) + 1) = ((j + 1 : Nat) : Int) := by rw [IntKind.wrap_i64]; omega
        have hl2 := HLL.out
        obtain ⟨x, hx⟩ : ∃ x, l[j]? = some x := ⟨_, List.getElem?_eq_getElem (by omega)⟩
        have hxr : x.rc = A j := by
          have h1 : (l.map RV.rc)[j]? = some x.rc := by rw [List.getElem?_map, hx]; rfl
          rw [HLM.out] at h1
          simp [recsN] at h1
          have hjq : j < q := hlt
          rw [List.getElem?_range hjq] at h1
          obtain ⟨a, e1, e2⟩ := h1
          injection e1 with e1
          subst e1
          exact e2.symm
        obtain ⟨g1, rfl, z1, e1, e2⟩ : ∃ g1, ra = some ⟨g1, 0, none⟩ ∧ g1 < w3.heap.size ∧ w3.cell? ⟨g1, j * 2, none⟩ = some (.int .i64 x.g) ∧ w3.cell? ⟨g1, j * 2 + 1, none⟩ = some x.val := by
          rcases HREC.out.form with ⟨h, _⟩ | ⟨g', c', h1, _, h3, h4⟩
          · rw [h] at hl2; simp at hl2; omega
          · injection h1 with h1 _ _
            exact ⟨g', h1, h3, (h4 j x hx).1, (h4 j x hx).2⟩
        have htx := (HREC.out.txt x (List.mem_of_getElem? hx)).at
        obtain ⟨b0, off, rfl, hrow⟩ := HA.out.2 (by omega)
        have hcW := hrow j (by omega)
        clear hrow
        rw [← hxr] at hcW
        obtain ⟨xg, xb, xa⟩ := x
        have hbW : Below W.heap.size W wr := HB3.out.trans (hb.mono HB3.out.size)
        have q0 := (hbW.cell (p := ⟨b0, off + j * 2, none⟩) (World.block_lt_of_cell? W _ hcW.c0)).trans hcW.c0
        obtain ⟨sad, sc, k1, k2, k3, _⟩ := hcW.c1
        have q1 := (hbW.cell (p := ⟨b0, off + j * 2 + 1, none⟩) (World.block_lt_of_cell? W _ k1)).trans k1
        have q2 := (hb.cell (p := ⟨g1, j * 2, none⟩) z1).trans e1
        have q3 := (hb.cell (p := ⟨g1, j * 2 + 1, none⟩) z1).trans e2
        have KV1 := Lib.hid (fun X (hX : Below wr.heap.size wr X) => txt_conv (htx.below hb) X hX)
        have KV2 := Lib.hid (fun X (hX : Below wr.heap.size wr X) => txt_conv (k2.below hbW) X hX)
        unfold RV.val at q3 KV1
        try simp only [RV.rc] at q0 q1 q2 q3 KV1 KV2
        clear hcW k1 k2 k3 e1 e2 htx hx hxr hbW hb hl2 hlt
        obtain ⟨xs, hxs⟩ : ∃ xs, xs = strOfNums xb := ⟨_, rfl⟩
        obtain ⟨xn, hxn⟩ : ∃ xn, xn = xb.length := ⟨_, rfl⟩
        rw [← hxs, ← hxn] at KV1 KV2
        rw [← hxn] at q1 q3
        have hv1 : ∀ n, (convert 22 9 (.slice xa xn xn)).run Tryd.prog (wr.drewN n) = .ok (.string xs) (wr.drewN n) := fun n => KV1.out _ (below_drewN (Below.refl _ _) n)
        have hv2 : ∀ n, (convert 22 9 (.slice sad xn sc)).run Tryd.prog (wr.drewN n) = .ok (.string xs) (wr.drewN n) := fun n => KV2.out _ (below_drewN (Below.refl _ _) n)
        clear hxs hxn
        go_upto_region 23 with fail
        go_quiet (fail)
        have HBq := Lib.hid (below_drewN (Below.refl wr.heap.size wr) nq)
        go_wp2_with fail
        go_roundw
        case rel => exact ⟨j + 1, by omega, by go_num, HB.out.trans (HBq.out.mono HB.out.size)⟩
        case measure => simp [intOf]; omega
      case neg =>
        have hd : decide (j < q) = false := decide_eq_false hlt
        clear hlt hb
        go_wp2_with fail
        go_meet
        exact HB.out
  case rest =>
  have hB4 := HB3.out.trans (hcut.mono HB3.out.size)
  have HB4 := Lib.hid hB4
  have KJ := Lib.hid (fun X (hX : Below W.heap.size W X) => one_jn X (HE.out.below hX))
  go_wp2_with fail
  refine (KJ.out _ HB4.out).mono ?_
  rintro e w10 ⟨rfl, hb10⟩
  have HB10 := Lib.hid (HB4.out.trans (hb10.mono HB4.out.size))
  clear hb10
  go_wp2_with fail
  go_ret
  exact ⟨rfl, HB10.out⟩
end Go.Proofs.YtomhfnaekjmjnaaDoor
