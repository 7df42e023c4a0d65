/- Levels (layer 10): UsagePlays walked. Conditions: the acts that came in. -/
import Derived.Deep.CutBlock
import Derived.Test.YthdljigcfhjikaaUrn
import Derived.Test.YthdljigcfhjikaaUrc
namespace Go.Proofs.Ythdljigcfhjikaa
set_option linter.unusedVariables false
open Go.ChangeShapes Go.WideShapes Go.ChangeAt Go.RowKit
def mnP (x y : Int) : Int := if y < x then y else x
theorem run_mnP {P : Program} (w : World) (ts : Array TypeId) (t : TypeId) (k k' : IntKind) (x y : Int) : (Builtin.min_ ts t #[.int k x, .int k' y]).run P w = .ok (.int k (mnP x y)) w := run_min_int2 w ts t k k' x y
attribute [local go_sem high] run_mnP
attribute [local go_sem ↓] Go.wp_at_zero Go.wp_at_succ comesTo_value_eq comesTo_skip_eq comesTo_enter_eq Rl.comesToR_value_eq Rl.comesToR_skip_eq Rl.comesToR_enter_eq

theorem pick_take (lt : Int → Int → Bool) (V : List Int) {k : Nat} (hk : k < V.length) : pickL lt (V.take (k + 1)) = if k = 0 ∨ lt (V.getD k 0) (pickL lt (V.take k)) = true then V.getD k 0 else pickL lt (V.take k) := by
  rw [List.take_add_one, List.getElem?_eq_getElem hk, List.getD_eq_getElem?_getD, List.getElem?_eq_getElem hk]
  simp only [Option.toList_some, Option.getD_some]
  rw [pickL_snoc]
  have : V.take k = [] ↔ k = 0 := by
    constructor
    · intro e
      have := congrArg List.length e
      rw [List.length_take, List.length_nil] at this
      omega
    · rintro rfl; simp
  simp only [this]
theorem sat_bd : ∀ (M : List (Int × Int)) (s : Int), (∀ p ∈ M, 0 < p.2) → 0 ≤ s ∧ s ≤ 1099511627776 → 0 ≤ M.foldl (fun s p => satU s p.1 p.2) s ∧ M.foldl (fun s p => satU s p.1 p.2) s ≤ 1099511627776
  | [], s, _, h => h
  | p :: r, s, hp, h => by
    rw [List.foldl_cons]
    refine sat_bd r _ (fun q hq => hp q (List.mem_cons_of_mem _ hq)) ?_
    have hn := hp p List.mem_cons_self
    obtain ⟨v, n⟩ := p
    simp only at hn ⊢
    unfold satU
    split
    · rename_i hc
      have := Int.mul_pos hn hc.1
      split
      · omega
      · split <;> omega
    · exact h
theorem mapfst_get (M : List (Int × Int)) {k : Nat} (hk : k < M.length) : (M.map (·.1)).getD k 0 = (M.getD k (0, 0)).1 ∧ (M.map (·.2)).getD k 0 = (M.getD k (0, 0)).2 := by
  simp [List.getD_eq_getElem?_getD, List.getElem?_map, List.getElem?_eq_getElem hk]
set_option maxRecDepth 100000 in
set_option maxHeartbeats 16000000 in
theorem plays_any (lad : Option Addr) (ll lcap : Nat) (A : Nat → ActU) (first f t : Int) (w : World) (hA : ActsU w lad ll A) :
    Calls Try.prog 3 #[.int .i64 first, .slice lad ll lcap, .agg #[.int .i64 f, .int .i64 t]] w fun e w' => e = .returned (.bool true) ∧ Below w.heap.size w w' := by
  have hmx : Try.prog.follows .mixedOrders = true := by kernel_rfl
  have K1 := Lib.hid (fun W => usage_one W)
  have hb0 := below_alloc (Below.refl _ w) (.cells #[.int .i64 f, .int .i64 t] 25)
  have n0 := World.alloc_heap_new w (.cells #[.int .i64 f, .int .i64 t] 25)
  have hA0 : ActsU (w.alloc (.cells #[.int .i64 f, .int .i64 t] 25)) lad ll A := by
    refine ⟨hA.1, fun hp => ?_⟩
    obtain ⟨b, off, rfl, hc⟩ := hA.2 hp
    refine ⟨b, off, rfl, fun k hk => ?_⟩
    have h := hc k hk
    have hbl : b < w.heap.size := World.block_lt_of_cell? w _ h.c0
    exact ⟨(hb0.cell (p := ⟨b, off + k * 4, none⟩) hbl).trans h.c0, (hb0.cell (p := ⟨b, off + k * 4 + 1, none⟩) hbl).trans h.c1, (hb0.cell (p := ⟨b, off + k * 4 + 2, none⟩) hbl).trans h.c2, (hb0.cell (p := ⟨b, off + k * 4 + 3, none⟩) hbl).trans h.c3, h.n64, h.f64, h.t64⟩
  have KP := Lib.hid (play_any lad ll lcap A first 24 (by decide) _ hA0)
  clear hA hA0
  go_enter Try.func3, Try.ntmps3
  go_upto_region 1 with fail
  generalize w.alloc (.cells #[.int .i64 f, .int .i64 t] 25) = W0 at *
  go_wp2_with fail
  refine KP.out.mono ?_
  rintro e W1 ⟨S, v, L, C, rfl, hS, hu, hr, hl, hrow, hcl, hlk, hb1⟩
  obtain ⟨vad, vn, vcp, rfl⟩ : ∃ a n c, v = .slice a n c := by obtain ⟨a, c, e⟩ := hrow.form; exact ⟨_, _, _, e⟩
  have hw0 := (Array.getElem?_eq_some_iff.1 n0).1
  have n1 := (hb1.block _ hw0).trans n0
  have hw1 := (Array.getElem?_eq_some_iff.1 n1).1
  have hb2 := below_alloc (Below.refl _ W1) (.cells #[.int .i64 first, .slice vad vn vcp] 29)
  have n2 := World.alloc_heap_new W1 (.cells #[.int .i64 first, .slice vad vn vcp] 29)
  have HN2 := Lib.hid ((hb2.block _ hw1).trans n1)
  have HU := Lib.hid (hu.below hb2)
  have HRow := Lib.hid (hrow.below hb2)
  have HR := Lib.hid hr
  have HLK := Lib.hid hlk
  have HB := Lib.hid (below_next (below_next hb0 hb1) hb2)
  have NR := Lib.hid n2
  obtain ⟨R, hRe⟩ : ∃ R, R = W1.heap.size := ⟨_, rfl⟩
  rw [← hRe] at NR hw1
  clear hu hr hrow hlk hb0 hb1 hb2 n0 n1 n2 KP hS
  go_upto_region 2 with fail
  rw [← hRe]
  clear hRe
  generalize W1.alloc (.cells #[.int .i64 first, .slice vad vn vcp] 29) = W2 at *
  have r0 := cell_of_block (o := 0) NR.out rfl
  have r1 := cell_of_block (o := 1) NR.out rfl
  have KL := Lib.hid (like_any HU.out HR.out HRow.out (by omega) HLK.out)
  go_wp2_with fail
  refine KL.out.mono ?_
  rintro e W3 ⟨rfl, hb3⟩
  have hR2 := (Array.getElem?_eq_some_iff.1 NR.out).1
  have hw2 := (Array.getElem?_eq_some_iff.1 HN2.out).1
  have HU3 := Lib.hid (HU.out.below hb3)
  have HRow3 := Lib.hid (HRow.out.below hb3)
  have HB3 := Lib.hid (below_next HB.out hb3)
  have NR3 := Lib.hid ((hb3.block _ hR2).trans NR.out)
  have NS3 := Lib.hid ((hb3.block _ hw2).trans HN2.out)
  clear hb3 r0 r1 KL HU HRow HB NR HN2
  have hR3 := (Array.getElem?_eq_some_iff.1 NR3.out).1
  have hw3 := (Array.getElem?_eq_some_iff.1 NS3.out).1
  have hlk := in_least HLK.out HR.out f t
  obtain ⟨M, hM⟩ : ∃ M, M = inL first C f t := ⟨_, rfl⟩
  have KI := Lib.hid (show ∀ W, RowC W (.slice vad vn vcp) C → Calls Try.prog 14 #[.agg #[.int .i64 first, .slice vad vn vcp], .agg #[.int .i64 f, .int .i64 t]] W fun e w' => ∃ v1 v2, e = .returned (.tuple #[v1, v2]) ∧ OwnN w' W.heap.size 3 v1 (M.map (·.1)) ∧ OwnN w' W.heap.size 2 v2 (M.map (·.2)) ∧ Below W.heap.size W w' from fun W hW => by rw [hM]; exact rin_any hW (by omega) first f t)
  have hlenM : M.length ≤ 1048576 := by
    rw [hM]
    unfold inL
    rw [← inPre_all]
    have h1 := inPre_len first C (cleanI (f, t)) (putT (timesU C) (cleanI (f, t)).1) (putT (timesU C) (cleanI (f, t)).1).length
    have h2 := putT_len (timesU C) (cleanI (f, t)).1
    have h3 := timesU_len C
    omega
  rw [← hM] at hlk
  have HLM := Lib.hid hlk
  clear hM hlk
  go_upto_region 4 with fail
  refine Ap.wp_region_K (S1 := fun X => X.heap[R]? = some (.cells #[.int .i64 first, .slice vad vn vcp] 29 (0, 0)) ∧ X.heap[w.heap.size]? = some (.cells #[.int .i64 f, .int .i64 t] 25 (0, 0))) (S2 := fun _ => True) (js := 8) hmx ?_
  change Ap.wpAnyK _ _ _ _ _ _ _ 9 _ _ W3.drew
  have hSS : (fun X : World => X.heap[R]? = some (.cells #[.int .i64 first, .slice vad vn vcp] 29 (0, 0)) ∧ X.heap[w.heap.size]? = some (.cells #[.int .i64 f, .int .i64 t] 25 (0, 0))) W3.drew ∧ (fun _ : World => True) W3.drew := ⟨⟨NR3.out, NS3.out⟩, trivial⟩
  refine Ap.wpAnyK_take1 (i := 0) (v := .agg #[.int .i64 first, .slice vad vn vcp]) rfl (by decide) (by decide +kernel) (by decide +kernel) (by decide +kernel) (fun _ _ _ h => h) (.inl ⟨by first | rfl | (go_simp; done), fun X hX => by have hx1 := cell_of_block (o := 0) hX.1 rfl; have hx2 := cell_of_block (o := 1) hX.1 rfl; have hx3 := cell_of_block (o := 0) hX.2 rfl; have hx4 := cell_of_block (o := 1) hX.2 rfl; clear hX; first | (go_simp; done) | (go_simp; rfl)⟩) hSS ?_
  refine Ap.wpAnyK_take1 (i := 1) (v := .agg #[.int .i64 f, .int .i64 t]) rfl (by decide) (by decide +kernel) (by decide +kernel) (by decide +kernel) (fun _ _ _ h => h) (.inl ⟨by first | rfl | (go_simp; done), fun X hX => by have hx1 := cell_of_block (o := 0) hX.1 rfl; have hx2 := cell_of_block (o := 1) hX.1 rfl; have hx3 := cell_of_block (o := 0) hX.2 rfl; have hx4 := cell_of_block (o := 1) hX.2 rfl; clear hX; first | (go_simp; done) | (go_simp; rfl)⟩) hSS ?_
  refine Ap.anyK_call (i := 2) (by decide +kernel) rfl rfl (by go_simp) (own_any f t _) ?_
  rintro e X ⟨rfl, hbx1⟩
  have hSS1 : (fun X : World => X.heap[R]? = some (.cells #[.int .i64 first, .slice vad vn vcp] 29 (0, 0)) ∧ X.heap[w.heap.size]? = some (.cells #[.int .i64 f, .int .i64 t] 25 (0, 0))) X ∧ (fun _ : World => True) X := ⟨⟨(hbx1.block _ hR3).trans hSS.1.1, (hbx1.block _ hw3).trans hSS.1.2⟩, trivial⟩
  refine ⟨_, rfl, ⟨hSS1.1, fun _ => trivial⟩, ?_⟩
  refine Ap.anyK_call (i := 3) (by decide +kernel) rfl rfl (by go_simp) (KI.out _ ((HRow3.out.below (Below.refl _ _).drew).below hbx1)) ?_
  rintro e X2 ⟨v1, v2, rfl, ho1, ho2, hbx2⟩
  have hR4 : R < X.heap.size := Nat.lt_of_lt_of_le hR3 hbx1.size
  have hw4 : w.heap.size < X.heap.size := Nat.lt_of_lt_of_le hw3 hbx1.size
  have hSS2 : (fun X : World => X.heap[R]? = some (.cells #[.int .i64 first, .slice vad vn vcp] 29 (0, 0)) ∧ X.heap[w.heap.size]? = some (.cells #[.int .i64 f, .int .i64 t] 25 (0, 0))) X2 ∧ (fun _ : World => True) X2 := ⟨⟨(hbx2.block _ hR4).trans hSS1.1.1, (hbx2.block _ hw4).trans hSS1.1.2⟩, trivial⟩
  refine ⟨_, rfl, ⟨hSS2.1, fun _ => trivial⟩, ?_⟩
  obtain ⟨a1, c1, rfl, hf1⟩ := ho1.form
  obtain ⟨a2, c2, rfl, hf2⟩ := ho2.form
  rw [List.length_map] at *
  refine Ap.wpAnyK_take1 (i := 4) (v := .tuple #[.slice a1 M.length c1, .slice a2 M.length c2]) rfl (by decide) (by decide +kernel) (by decide +kernel) (by decide +kernel) (fun _ _ _ h => h) (.inl ⟨by first | rfl | (go_simp; done), fun X hX => by have hx1 := cell_of_block (o := 0) hX.1 rfl; have hx2 := cell_of_block (o := 1) hX.1 rfl; have hx3 := cell_of_block (o := 0) hX.2 rfl; have hx4 := cell_of_block (o := 1) hX.2 rfl; clear hX; first | (go_simp; done) | (go_simp; rfl)⟩) hSS2 ?_
  refine Ap.wpAnyK_take1 (i := 5) (v := .slice a1 M.length c1) rfl (by decide) (by decide +kernel) (by decide +kernel) (by decide +kernel) (fun _ _ _ h => h) (.inl ⟨by first | rfl | (go_simp; done), fun X hX => by have hx1 := cell_of_block (o := 0) hX.1 rfl; have hx2 := cell_of_block (o := 1) hX.1 rfl; have hx3 := cell_of_block (o := 0) hX.2 rfl; have hx4 := cell_of_block (o := 1) hX.2 rfl; clear hX; first | (go_simp; done) | (go_simp; rfl)⟩) hSS2 ?_
  refine Ap.wpAnyK_take1 (i := 6) (v := .slice a2 M.length c2) rfl (by decide) (by decide +kernel) (by decide +kernel) (by decide +kernel) (fun _ _ _ h => h) (.inl ⟨by first | rfl | (go_simp; done), fun X hX => by have hx1 := cell_of_block (o := 0) hX.1 rfl; have hx2 := cell_of_block (o := 1) hX.1 rfl; have hx3 := cell_of_block (o := 0) hX.2 rfl; have hx4 := cell_of_block (o := 1) hX.2 rfl; clear hX; first | (go_simp; done) | (go_simp; rfl)⟩) hSS2 ?_
  refine Ap.wpAnyK_take1 (i := 7) (v := .slice a1 M.length c1) rfl (by decide) (by decide +kernel) (by decide +kernel) (by decide +kernel) (fun _ _ _ h => h) (.inl ⟨by first | rfl | (go_simp; done), fun X hX => by have hx1 := cell_of_block (o := 0) hX.1 rfl; have hx2 := cell_of_block (o := 1) hX.1 rfl; have hx3 := cell_of_block (o := 0) hX.2 rfl; have hx4 := cell_of_block (o := 1) hX.2 rfl; clear hX; first | (go_simp; done) | (go_simp; rfl)⟩) hSS2 ?_
  refine Ap.anyK_val1 (i := 8) (v := .slice a2 M.length c2) (w' := X2) (by decide +kernel) rfl rfl (by first | (go_simp; done) | (go_simp; rfl)) ⟨hSS2.1, trivial⟩ ?_
  refine Ap.wpAnyK_done (by decide +kernel) ?_ _
  have HB4 := Lib.hid (below_next (below_next (Below.drew HB3.out) hbx1) hbx2)
  have HU4 := Lib.hid (((HU3.out.below (Below.refl _ _).drew).below hbx1).below hbx2)
  have HRow4 := Lib.hid (((HRow3.out.below (Below.refl _ _).drew).below hbx1).below hbx2)
  have NR4 := Lib.hid hSS2.1.1
  have NS4 := Lib.hid hSS2.1.2
  have HF1 := Lib.hid hf1
  have HF2 := Lib.hid hf2
  clear hSS hSS1 hSS2 hbx1 hbx2 ho1 ho2 hf1 hf2 HU3 HRow3 HB3 NR3 NS3 KI hR4 hw4
  go_wp2_with fail
  obtain ⟨V, hV⟩ : ∃ V, V = M.map (·.1) := ⟨_, rfl⟩
  obtain ⟨N, hN⟩ : ∃ N, N = M.map (·.2) := ⟨_, rfl⟩
  have hVl : V.length = M.length := by rw [hV, List.length_map]
  have HVN := Lib.hid (And.intro hV hN)
  rw [← hV] at HF1
  rw [← hN] at HF2
  have hlm2 := HLM.out
  rw [← hV] at hlm2
  have HLV := Lib.hid hlm2
  clear hV hN hlm2
  have hR4 := (Array.getElem?_eq_some_iff.1 NR4.out).1
  have hw4 := (Array.getElem?_eq_some_iff.1 NS4.out).1
  go_loopw [11, 12, 13, 14] (fun p q s i wr => ∃ k : Nat, k ≤ M.length ∧ i = .int .i64 k ∧ p = .int .i64 (pickL (fun a b => decide (a < b)) (V.take k)) ∧ q = .int .i64 (pickL (fun a b => decide (a > b)) (V.take k)) ∧ s = .int .i64 ((M.take k).foldl (fun s p => satU s p.1 p.2) 0) ∧ Below X2.heap.size X2 wr) (fun _ _ _ i _ => M.length - (intOf i).toNat)
  case atStart => exact ⟨0, by omega, rfl, rfl, rfl, rfl, Below.refl _ _⟩
  case round =>
    obtain ⟨k, hk, rfl, rfl, rfl, rfl, hb⟩ := hrel
    have HBr := Lib.hid hb
    clear hb
    by_cases hlt : k < M.length
    case pos =>
      have hd : decide (k < M.length) = true := decide_eq_true hlt
      have hix : (k : Int) < (M.length : Int) := by omega
      have hw1 : IntKind.i64.wrap ((k : Int) + 1) = ((k + 1 : Nat) : Int) := by rw [IntKind.wrap_i64]; omega
      obtain ⟨g1, rfl, _, hg1, hr1⟩ := HF1.out (by omega)
      obtain ⟨g2, rfl, _, hg2, hr2⟩ := HF2.out (by have := congrArg List.length HVN.out.2; rw [List.length_map] at this; omega)
      have q1 := (HBr.out.cell (p := ⟨g1, k, none⟩) hg1).trans (hr1 k (by omega))
      have q2 := (HBr.out.cell (p := ⟨g2, k, none⟩) hg2).trans (hr2 k (by have := congrArg List.length HVN.out.2; rw [List.length_map] at this; omega))
      have hg1r : g1 < wr.heap.size := Nat.lt_of_lt_of_le hg1 HBr.out.size
      have hg2r : g2 < wr.heap.size := Nat.lt_of_lt_of_le hg2 HBr.out.size
      clear hr1 hr2
      have hgt := mapfst_get M hlt
      rw [← HVN.out.1, ← HVN.out.2] at hgt
      have hmem : M.getD k (0, 0) ∈ M := by rw [List.getD_eq_getElem?_getD, List.getElem?_eq_getElem hlt]; exact List.getElem_mem hlt
      have hnp := HLV.out.2.2.2 _ hmem
      have HP1 := Lib.hid (pick_take (fun a b => decide (a < b)) V (k := k) (by omega))
      have HP2 := Lib.hid (pick_take (fun a b => decide (a > b)) V (k := k) (by omega))
      have HP3 := Lib.hid (fold_step (fun s p => satU s p.1 p.2) 0 M (0, 0) hlt)
      have hsb := sat_bd (M.take k) 0 (fun p hp => (HLV.out.2.2.2 p (List.mem_of_mem_take hp)).1) ⟨by decide, by decide⟩
      rw [← hgt.2] at hnp
      have hm2 : M.getD k (0, 0) = (V.getD k 0, N.getD k 0) := by rw [hgt.1, hgt.2]
      rw [hm2] at HP3
      clear hgt hmem hm2
      generalize V.getD k 0 = vk at *
      generalize N.getD k 0 = nk at *
      generalize pickL (fun a b => decide (a < b)) (V.take k) = pk at *
      generalize pickL (fun a b => decide (a > b)) (V.take k) = mk at *
      generalize (M.take k).foldl (fun s p => satU s p.1 p.2) 0 = sk at *
      simp only at HP3
      go_upto_region 9 with fail
      go_cut [47] (fun s wx => s = .bool (decide (k = 0 ∨ vk < pk)) ∧ wx = wr)
      case first =>
        by_cases h0 : k = 0
        case pos =>
          have hq : ((k : Int) == 0) = true := beq_iff_eq.2 (by omega)
          have hr : decide (k = 0 ∨ vk < pk) = true := decide_eq_true (.inl h0)
          have HR9 := Lib.hid hr
          clear h0 hr
          go_wp2_with fail
          go_meet
          exact ⟨by rw [HR9.out], rfl⟩
        case neg =>
          have hq : ((k : Int) == 0) = false := beq_false_of_ne (by omega)
          have hr : decide (k = 0 ∨ vk < pk) = decide (vk < pk) := by rw [Bool.eq_iff_iff, decide_eq_true_eq, decide_eq_true_eq]; omega
          have HR9 := Lib.hid hr
          clear h0 hr
          go_wp2_with fail
          go_meet
          exact ⟨by rw [HR9.out], rfl⟩
      case rest =>
      obtain ⟨rfl, hwc⟩ := hcut
      rw [hwc]
      clear hwc
      have HP1 := Lib.hid (show pickL (fun a b => decide (a < b)) (V.take (k + 1)) = if (decide (k = 0 ∨ vk < pk)) = true then vk else pk from by rw [HP1.out]; simp only [decide_eq_true_eq])
      generalize decide (k = 0 ∨ vk < pk) = b1 at *
      go_upto_if 47 with fail
      go_cut [11] (fun s wx => s = .int .i64 (if b1 = true then vk else pk) ∧ wx = wr)
      case first =>
        cases b1 with
        | true =>
          go_wp2_with fail
          go_meet
          exact ⟨rfl, rfl⟩
        | false =>
          go_wp2_with fail
          go_meet
          exact ⟨rfl, rfl⟩
      case rest =>
      obtain ⟨rfl, hwc⟩ := hcut
      rw [hwc]
      clear hwc
      rw [← HP1.out]
      clear HP1
      obtain ⟨pk1, hpk1⟩ : ∃ p, p = pickL (fun a b => decide (a < b)) (V.take (k + 1)) := ⟨_, rfl⟩
      rw [← hpk1]
      have HQ1 := Lib.hid hpk1
      clear hpk1
      go_upto_region 11 with fail
      go_cut [61] (fun s wx => s = .bool (decide (k = 0 ∨ vk > mk)) ∧ wx = wr)
      case first =>
        by_cases h0 : k = 0
        case pos =>
          have hq : ((k : Int) == 0) = true := beq_iff_eq.2 (by omega)
          have hr : decide (k = 0 ∨ vk > mk) = true := decide_eq_true (.inl h0)
          have HR9 := Lib.hid hr
          clear h0 hr
          go_wp2_with fail
          go_meet
          exact ⟨by rw [HR9.out], rfl⟩
        case neg =>
          have hq : ((k : Int) == 0) = false := beq_false_of_ne (by omega)
          have hr : decide (k = 0 ∨ vk > mk) = decide (vk > mk) := by rw [Bool.eq_iff_iff, decide_eq_true_eq, decide_eq_true_eq]; omega
          have HR9 := Lib.hid hr
          clear h0 hr
          go_wp2_with fail
          go_meet
          exact ⟨by rw [HR9.out], rfl⟩
      case rest =>
      obtain ⟨rfl, hwc⟩ := hcut
      rw [hwc]
      clear hwc
      have HP2 := Lib.hid (show pickL (fun a b => decide (a > b)) (V.take (k + 1)) = if (decide (k = 0 ∨ vk > mk)) = true then vk else mk from by rw [HP2.out]; simp only [decide_eq_true_eq])
      generalize decide (k = 0 ∨ vk > mk) = b2 at *
      go_upto_if 61 with fail
      go_cut [12] (fun s wx => s = .int .i64 (if b2 = true then vk else mk) ∧ wx = wr)
      case first =>
        cases b2 with
        | true =>
          go_wp2_with fail
          go_meet
          exact ⟨rfl, rfl⟩
        | false =>
          go_wp2_with fail
          go_meet
          exact ⟨rfl, rfl⟩
      case rest =>
      obtain ⟨rfl, hwc⟩ := hcut
      rw [hwc]
      clear hwc
      rw [← HP2.out]
      clear HP2
      obtain ⟨mk1, hmk1⟩ : ∃ p, p = pickL (fun a b => decide (a > b)) (V.take (k + 1)) := ⟨_, rfl⟩
      rw [← hmk1]
      have HQ2 := Lib.hid hmk1
      clear hmk1
      go_upto_region 13 with fail
      go_cut [74] (fun s wx => s = .bool (decide (vk > 0 ∧ sk < 1099511627776)) ∧ wx = wr)
      case first =>
        by_cases hv : vk > 0
        case neg =>
          have hdv : decide (vk > 0) = false := decide_eq_false hv
          have HR9 := Lib.hid (show decide (vk > 0 ∧ sk < 1099511627776) = false from decide_eq_false (fun h => hv h.1))
          clear hv
          go_wp2_with fail
          go_meet
          exact ⟨by rw [HR9.out], rfl⟩
        case pos =>
          have hdv : decide (vk > 0) = true := decide_eq_true hv
          have HR9 := Lib.hid (show decide (vk > 0 ∧ sk < 1099511627776) = decide (sk < 1099511627776) from by rw [Bool.eq_iff_iff, decide_eq_true_eq, decide_eq_true_eq]; exact ⟨fun h => h.2, fun h => ⟨hv, h⟩⟩)
          clear hv
          go_wp2_with fail
          go_meet
          exact ⟨by rw [HR9.out], rfl⟩
      case rest =>
      obtain ⟨rfl, hwc⟩ := hcut
      rw [hwc]
      clear hwc
      have HB3 := Lib.hid (show decide (vk > 0 ∧ sk < 1099511627776) = true ↔ (vk > 0 ∧ sk < 1099511627776) from decide_eq_true_iff)
      generalize decide (vk > 0 ∧ sk < 1099511627776) = b3 at *
      go_upto_if 74 with fail
      have E0 := Lib.hid (show satU sk vk nk = if vk > 0 ∧ sk < 1099511627776 then (if nk > 1099511627776 / vk then 1099511627776 else (if 1099511627776 < sk + nk * vk then 1099511627776 else sk + nk * vk)) else sk from rfl)
      obtain ⟨rs, hrs⟩ : ∃ r, r = satU sk vk nk := ⟨_, rfl⟩
      rw [← hrs] at E0
      have HRS := Lib.hid hrs.symm
      clear hrs
      cases b3 with
      | false =>
        have E := E0.out
        rw [if_neg (fun hh => by have := HB3.out.2 hh; cases this)] at E
        subst E
        go_wp2_with fail
        exact ⟨⟨k + 1, by omega, rfl, by rw [HQ1.out], by rw [HQ2.out], by rw [HP3.out, HRS.out], HBr.out⟩, by show M.length - (((k + 1 : Nat) : Int)).toNat < M.length - ((k : Int)).toNat; omega⟩
      | true =>
      obtain ⟨hv, hs⟩ := HB3.out.1 rfl
      have hE := E0.out
      rw [if_pos ⟨hv, hs⟩] at hE
      have HE := Lib.hid hE
      clear hE E0
      have hdiv : 0 ≤ 1099511627776 / vk ∧ 1099511627776 / vk ≤ 1099511627776 := ⟨Int.ediv_nonneg (by decide) (by omega), Int.ediv_le_self _ (by decide)⟩
      have hqz : (vk == 0) = false := beq_false_of_ne (by omega)
      have hqn : ¬ vk = 0 := by omega
      have hqq : IntKind.i64.wrap (Int.tdiv 1099511627776 vk) = 1099511627776 / vk := by rw [Int.tdiv_eq_ediv_of_nonneg (by decide), IntKind.wrap_i64]; omega
      obtain ⟨dv, hdve⟩ : ∃ d, d = 1099511627776 / vk := ⟨_, rfl⟩
      rw [← hdve] at hqq HE hdiv
      have HDV := Lib.hid hdve
      clear hdve
      go_upto_region 14 with fail
      refine Rl.wp_region_rel (fun a b => Below a.heap.size a b) wr (fun a b c h h' => below_next h h') (fun a => Below.refl _ _) hmx (by kernel_rfl) (Below.refl _ _).drew ?_
      iterate 10 (refine Rl.textR_run ?_ (fun ρ => ?_) (fun ρ W hS hd => ?_) ?_; rotate_left; (focus go_simp); (focus (obtain ⟨hc, hf⟩ := bcell hS; go_simp; first | exact ⟨rfl, Below.refl _ _⟩ | (refine ⟨?_, Below.refl _ _⟩; rfl))); (try go_simp))
      refine Rl.textR_nil ?_
      intro ρ w1 hg hk1
      dsimp only
      have q1 := (hg.cell (p := ⟨g1, k, none⟩) hg1r).trans q1
      have q2 := (hg.cell (p := ⟨g2, k, none⟩) hg2r).trans q2
      have hg1r := Nat.lt_of_lt_of_le hg1r hg.size
      have hg2r := Nat.lt_of_lt_of_le hg2r hg.size
      have HG := Lib.hid hg
      clear hg hk1 hqq hqz hqn
      by_cases hn : nk > dv
      case pos =>
        have hdn : decide (nk > dv) = true := decide_eq_true hn
        have E := HE.out
        rw [if_pos hn] at E
        subst E
        go_wp2_with fail
        exact ⟨⟨k + 1, by omega, rfl, by rw [HQ1.out], by rw [HQ2.out], by rw [HP3.out, HRS.out], Below.trans HBr.out (Below.mono HG.out HBr.out.size)⟩, by show M.length - (((k + 1 : Nat) : Int)).toNat < M.length - ((k : Int)).toNat; omega⟩
      have hdn : decide (nk > dv) = false := decide_eq_false hn
      have E := HE.out
      rw [if_neg hn] at E
      have hmul : 0 ≤ nk * vk ∧ nk * vk ≤ 1099511627776 := by
        refine ⟨Int.mul_nonneg (by omega) (by omega), ?_⟩
        have h1 := Int.mul_le_mul_of_nonneg_right (show nk ≤ 1099511627776 / vk by rw [← HDV.out]; omega) (show 0 ≤ vk by omega)
        have h2 := Int.ediv_mul_le 1099511627776 (show vk ≠ 0 by omega)
        omega
      have hwm : IntKind.i64.wrap (nk * vk) = nk * vk := by rw [IntKind.wrap_i64]; omega
      have hwa : IntKind.i64.wrap (sk + nk * vk) = sk + nk * vk := by rw [IntKind.wrap_i64]; omega
      have hmn : mnP (sk + nk * vk) 1099511627776 = rs := E.symm
      have HMN := Lib.hid hmn
      clear hmn E hmul
      go_upto_region 16 with fail
      refine Rl.wp_region_rel (fun a b => Below a.heap.size a b) w1 (fun a b c h h' => below_next h h') (fun a => Below.refl _ _) hmx (by kernel_rfl) (Below.refl _ _).drew ?_
      iterate 13 (refine Rl.textR_run ?_ (fun ρ => ?_) (fun ρ W hS hd => ?_) ?_; rotate_left; (focus go_simp); (focus (obtain ⟨hc, hf⟩ := bcell hS; go_simp; first | exact ⟨rfl, Below.refl _ _⟩ | (refine ⟨?_, Below.refl _ _⟩; rfl))); (try go_simp))
      refine Rl.textR_nil ?_
      intro ρ w9 hg9 hk9
      dsimp only
      have HG9 := Lib.hid (below_next HG.out hg9)
      clear hg9 hk9 q1 q2
      go_wp2_with fail
      exact ⟨⟨k + 1, by omega, rfl, by rw [HQ1.out], by rw [HQ2.out], by rw [HP3.out, HRS.out, HMN.out], Below.trans HBr.out (Below.mono HG9.out HBr.out.size)⟩, by show M.length - (((k + 1 : Nat) : Int)).toNat < M.length - ((k : Int)).toNat; omega⟩
    case neg =>
      have hd : decide (k < M.length) = false := decide_eq_false hlt
      have hke : k = M.length := by omega
      have hT1 : V.take k = V := List.take_of_length_le (by omega)
      have hT2 : M.take k = M := List.take_of_length_le (by omega)
      rw [hT1, hT2, HLV.out.1, HLV.out.2.1, HLV.out.2.2.1]
      clear hT1 hT2 HF1 HF2
      have s0 := cell_of_block (o := 0) ((HBr.out.block _ hw4).trans NS4.out) rfl
      have s1 := cell_of_block (o := 1) ((HBr.out.block _ hw4).trans NS4.out) rfl
      have r0 := cell_of_block (o := 0) ((HBr.out.block _ hR4).trans NR4.out) rfl
      have r1 := cell_of_block (o := 1) ((HBr.out.block _ hR4).trans NR4.out) rfl
      have hws : w.heap.size < wr.heap.size := Nat.lt_of_lt_of_le hw4 HBr.out.size
      have hRs : R < wr.heap.size := Nat.lt_of_lt_of_le hR4 HBr.out.size
      have KF1 := Lib.hid (fun W (hb : Below wr.heap.size wr W) => (show Calls Try.prog 16 #[.pointer (some ⟨S, 0, none⟩), .int .i64 f] W fun e w' => e = .returned (.int .i64 (ratU first C f)) ∧ Below W.heap.size W w' from like_at HLK.out HR.out f ▸ at_any ((HU4.out.below HBr.out).below hb) f))
      have KF2 := Lib.hid (fun W (hb : Below wr.heap.size wr W) => rat_any ((HRow4.out.below HBr.out).below hb) (show C.length ≤ 4294967296 by omega) first f)
      have KT1 := Lib.hid (fun W (hb : Below wr.heap.size wr W) => (show Calls Try.prog 16 #[.pointer (some ⟨S, 0, none⟩), .int .i64 t] W fun e w' => e = .returned (.int .i64 (ratU first C t)) ∧ Below W.heap.size W w' from like_at HLK.out HR.out t ▸ at_any ((HU4.out.below HBr.out).below hb) t))
      have KT2 := Lib.hid (fun W (hb : Below wr.heap.size wr W) => rat_any ((HRow4.out.below HBr.out).below hb) (show C.length ≤ 4294967296 by omega) first t)
      have KL := Lib.hid (fun W (hb : Below wr.heap.size wr W) => least_any ((HU4.out.below HBr.out).below hb) f t)
      have KM := Lib.hid (fun W (hb : Below wr.heap.size wr W) => most_any ((HU4.out.below HBr.out).below hb) f t)
      have KAr := Lib.hid (fun W (hb : Below wr.heap.size wr W) => area_any ((HU4.out.below HBr.out).below hb) f t)
      generalize ratU first C f = vf at *
      generalize ratU first C t = vt at *
      generalize chooseU minU L (f, t) = cl at *
      generalize chooseU maxU L (f, t) = cm at *
      generalize areaU L (f, t) = ca at *
      go_upto_region 17 with fail
      refine Rl.wp_region_rel (fun a b => Below a.heap.size a b) wr (fun a b c h h' => below_next h h') (fun a => Below.refl _ _) hmx (by kernel_rfl) (Below.refl _ _).drew ?_
      iterate 3 (refine Rl.textR_run ?_ (fun ρ => ?_) (fun ρ W hS hd => ?_) ?_; rotate_left; (focus go_simp); (focus (obtain ⟨hc, hf⟩ := bcell hS; go_simp; first | exact ⟨rfl, Below.refl _ _⟩ | (refine ⟨?_, Below.refl _ _⟩; rfl))); (try go_simp))
      (refine Rl.textR_run ?_ (fun ρ => ?_) (fun ρ W hS hd => ?_) ?_; rotate_left; (focus go_simp); (focus (obtain ⟨hc, hf⟩ := bcell hS; go_simp; refine (KF1.out _ hS).mono ?_; rintro e w1 ⟨rfl, hb⟩; refine ⟨_, rfl, ?_, hb⟩; rfl)); (try go_simp))
      iterate 3 (refine Rl.textR_run ?_ (fun ρ => ?_) (fun ρ W hS hd => ?_) ?_; rotate_left; (focus go_simp); (focus (obtain ⟨hc, hf⟩ := bcell hS; go_simp; first | exact ⟨rfl, Below.refl _ _⟩ | (refine ⟨?_, Below.refl _ _⟩; rfl))); (try go_simp))
      (refine Rl.textR_run ?_ (fun ρ => ?_) (fun ρ W hS hd => ?_) ?_; rotate_left; (focus go_simp); (focus (obtain ⟨hc, hf⟩ := bcell hS; go_simp; refine (KF2.out _ hS).mono ?_; rintro e w1 ⟨rfl, hb⟩; refine ⟨_, rfl, ?_, hb⟩; rfl)); (try go_simp))
      iterate 5 (refine Rl.textR_run ?_ (fun ρ => ?_) (fun ρ W hS hd => ?_) ?_; rotate_left; (focus go_simp); (focus (obtain ⟨hc, hf⟩ := bcell hS; go_simp; first | exact ⟨rfl, Below.refl _ _⟩ | (refine ⟨?_, Below.refl _ _⟩; rfl))); (try go_simp))
      (refine Rl.textR_run ?_ (fun ρ => ?_) (fun ρ W hS hd => ?_) ?_; rotate_left; (focus go_simp); (focus (obtain ⟨hc, hf⟩ := bcell hS; go_simp; refine (KT1.out _ hS).mono ?_; rintro e w1 ⟨rfl, hb⟩; refine ⟨_, rfl, ?_, hb⟩; rfl)); (try go_simp))
      iterate 3 (refine Rl.textR_run ?_ (fun ρ => ?_) (fun ρ W hS hd => ?_) ?_; rotate_left; (focus go_simp); (focus (obtain ⟨hc, hf⟩ := bcell hS; go_simp; first | exact ⟨rfl, Below.refl _ _⟩ | (refine ⟨?_, Below.refl _ _⟩; rfl))); (try go_simp))
      (refine Rl.textR_run ?_ (fun ρ => ?_) (fun ρ W hS hd => ?_) ?_; rotate_left; (focus go_simp); (focus (obtain ⟨hc, hf⟩ := bcell hS; go_simp; refine (KT2.out _ hS).mono ?_; rintro e w1 ⟨rfl, hb⟩; refine ⟨_, rfl, ?_, hb⟩; rfl)); (try go_simp))
      iterate 5 (refine Rl.textR_run ?_ (fun ρ => ?_) (fun ρ W hS hd => ?_) ?_; rotate_left; (focus go_simp); (focus (obtain ⟨hc, hf⟩ := bcell hS; go_simp; first | exact ⟨rfl, Below.refl _ _⟩ | (refine ⟨?_, Below.refl _ _⟩; rfl))); (try go_simp))
      (refine Rl.textR_run ?_ (fun ρ => ?_) (fun ρ W hS hd => ?_) ?_; rotate_left; (focus go_simp); (focus (obtain ⟨hc, hf⟩ := bcell hS; go_simp; refine (KL.out _ hS).mono ?_; rintro e w1 ⟨rfl, hb⟩; refine ⟨_, rfl, ?_, hb⟩; rfl)); (try go_simp))
      iterate 6 (refine Rl.textR_run ?_ (fun ρ => ?_) (fun ρ W hS hd => ?_) ?_; rotate_left; (focus go_simp); (focus (obtain ⟨hc, hf⟩ := bcell hS; go_simp; first | exact ⟨rfl, Below.refl _ _⟩ | (refine ⟨?_, Below.refl _ _⟩; rfl))); (try go_simp))
      (refine Rl.textR_run ?_ (fun ρ => ?_) (fun ρ W hS hd => ?_) ?_; rotate_left; (focus go_simp); (focus (obtain ⟨hc, hf⟩ := bcell hS; go_simp; refine (KM.out _ hS).mono ?_; rintro e w1 ⟨rfl, hb⟩; refine ⟨_, rfl, ?_, hb⟩; rfl)); (try go_simp))
      iterate 6 (refine Rl.textR_run ?_ (fun ρ => ?_) (fun ρ W hS hd => ?_) ?_; rotate_left; (focus go_simp); (focus (obtain ⟨hc, hf⟩ := bcell hS; go_simp; first | exact ⟨rfl, Below.refl _ _⟩ | (refine ⟨?_, Below.refl _ _⟩; rfl))); (try go_simp))
      (refine Rl.textR_run ?_ (fun ρ => ?_) (fun ρ W hS hd => ?_) ?_; rotate_left; (focus go_simp); (focus (obtain ⟨hc, hf⟩ := bcell hS; go_simp; refine (KAr.out _ hS).mono ?_; rintro e w1 ⟨rfl, hb⟩; refine ⟨_, rfl, ?_, hb⟩; rfl)); (try go_simp))
      iterate 4 (refine Rl.textR_run ?_ (fun ρ => ?_) (fun ρ W hS hd => ?_) ?_; rotate_left; (focus go_simp); (focus (obtain ⟨hc, hf⟩ := bcell hS; go_simp; first | exact ⟨rfl, Below.refl _ _⟩ | (refine ⟨?_, Below.refl _ _⟩; rfl))); (try go_simp))
      (refine Rl.textR_run ?_ (fun ρ => ?_) (fun ρ W hS hd => ?_) ?_; rotate_left; (focus go_simp); (focus (obtain ⟨hc, hf⟩ := bcell hS; go_simp; refine (K1.out _).mono ?_; rintro e w1 ⟨rfl, hb⟩; refine ⟨_, rfl, ?_, hb⟩; rfl)); (try go_simp))
      iterate 2 (refine Rl.textR_run ?_ (fun ρ => ?_) (fun ρ W hS hd => ?_) ?_; rotate_left; (focus go_simp); (focus (obtain ⟨hc, hf⟩ := bcell hS; go_simp; first | exact ⟨rfl, Below.refl _ _⟩ | (refine ⟨?_, Below.refl _ _⟩; rfl))); (try go_simp))
      refine Rl.textR_nil ?_
      intro ρ w9 hg9 hk9
      dsimp only
      have HB9 := Lib.hid (below_next (below_next HB4.out HBr.out) hg9)
      clear hg9 hk9
      go_wp2_with fail
      go_ret
      exact ⟨rfl, HB9.out⟩
end Go.Proofs.Ythdljigcfhjikaa
