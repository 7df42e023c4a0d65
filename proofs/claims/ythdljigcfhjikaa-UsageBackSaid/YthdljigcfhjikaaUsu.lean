/- Levels (layer 10): UsageBack walked (under way). -/
import Derived.Deep.CutBlock
import Derived.Test.YthdljigcfhjikaaUsw
import Derived.Test.YthdljigcfhjikaaRelT
import Derived.Test.YthdljigcfhjikaaRelL
namespace Go.Proofs.Ythdljigcfhjikaa
set_option linter.unusedVariables false
open Go.ChangeShapes Go.WideShapes Go.ChangeAt Go.RowKit
attribute [local go_sem ↓] Go.wp_at_zero Go.wp_at_succ comesTo_value_eq comesTo_skip_eq comesTo_enter_eq Rl.comesToR_value_eq Rl.comesToR_skip_eq Rl.comesToR_enter_eq

theorem USt.other {w w' : World} {S M : Nat} {L K : List (Int × Int)} (h : USt w S L) (k : USt w M K) (hn : M ≠ S) (hf : Fr (fun b => b = S) w w') : USt w' M K := by
  obtain ⟨g, c, hg, hS, hc, hs, hr⟩ := k.at_
  obtain ⟨g0, c0, _, hS0, _⟩ := h.at_
  have h0 := cell_of_block (o := 0) hS0 rfl
  have hgS : g ≠ S := by
    rintro rfl
    have := (hr 0 k.pos).1
    rw [show 0 * 2 = 0 by omega, h0] at this
    cases this
  exact ⟨⟨g, c, hg, (hf.block M (Array.getElem?_eq_some_iff.1 hS).1 hn).trans hS, hc, Nat.lt_of_lt_of_le hs hf.size, hr.mono (hf.block g hs hgS)⟩, k.pos, k.len⟩
theorem Fr.keep {S : Nat} {w w' : World} (h : Fr (fun b => b = S) w w') {k : Nat} (hk : k < w.heap.size) (hn : k ≠ S) : w'.heap[k]? = w.heap[k]? := h.block k hk hn
theorem pow_small {q : Nat} (h : q ≤ 16) : 3 ^ q ≤ 43046721 := Nat.le_trans (Nat.pow_le_pow_right (by decide) h) (by decide)
set_option maxRecDepth 100000 in
set_option maxHeartbeats 8000000 in
theorem back_any (lad : Option Addr) (ll lcap : Nat) (A : Nat → ActU) (f t by_ : Int) (hby : -9223372036854775808 ≤ by_ ∧ by_ ≤ 9223372036854775807) (w : World) (hA : ActsU w lad ll A) :
    Calls Try.prog 4 #[.slice lad ll lcap, .agg #[.int .i64 f, .int .i64 t], .int .i64 by_] w fun e w' => e = .returned (.bool true) ∧ Below w.heap.size w w' := by
  have hmx : Try.prog.follows .mixedOrders = true := by kernel_rfl
  have KP := Lib.hid (fun W => play_nil W)
  have K1 := Lib.hid (fun W => usage_one W)
  have HA := Lib.hid hA
  clear hA
  have hb0 := below_alloc (Below.refl _ w) (.cells #[.int .i64 f, .int .i64 t] 25)
  have n0 := World.alloc_heap_new w (.cells #[.int .i64 f, .int .i64 t] 25)
  have HB0 := Lib.hid hb0
  have N0 := Lib.hid n0
  clear hb0 n0
  go_enter Try.func4, Try.ntmps4
  go_upto_region 1 with fail
  generalize w.alloc (.cells #[.int .i64 f, .int .i64 t] 25) = W0 at *
  go_wp2_with fail
  refine (KP.out _).mono ?_
  rintro e W1 ⟨S, rfl, hS, hu, hb1⟩
  have hb2 := below_alloc (Below.refl _ W1) (.cells #[.int .i64 0, .slice none 0 0] 29)
  have hw0 := (Array.getElem?_eq_some_iff.1 N0.out).1
  have HU := Lib.hid (hu.below hb2)
  have HB := Lib.hid (below_next (below_next HB0.out hb1) hb2)
  have HN := Lib.hid (((below_next hb1 hb2).block _ hw0).trans N0.out)
  have hSw : w.heap.size < S := by omega
  clear hu hb1 hb2 HB0 N0
  go_upto_region 2 with fail
  generalize W1.alloc (.cells #[.int .i64 0, .slice none 0 0] 29) = W2 at *
  go_upto_block 0 with fail
  go_cut [] (fun wx => ∃ L : List (Int × Int), USt wx S L ∧ RightU L ∧ L.length ≤ 43046721 ∧ (∀ x, 0 ≤ x → x < 1099511627776 → -15984 ≤ lvl 0 L x ∧ lvl 0 L x ≤ 15984) ∧ Below w.heap.size w wx ∧ wx.heap[w.heap.size]? = some (.cells #[.int .i64 f, .int .i64 t] 25 (0, 0)))
  case first =>
    go_wp2_with fail
    go_loopw [9] (fun i wr => ∃ (q : Nat) (L : List (Int × Int)), q ≤ 16 ∧ q ≤ ll ∧ i = .int .i64 q ∧ USt wr S L ∧ RightU L ∧ L.length ≤ 3 ^ q ∧ (∀ x, 0 ≤ x → x < 1099511627776 → -999 * (q : Int) ≤ lvl 0 L x ∧ lvl 0 L x ≤ 999 * (q : Int)) ∧ Below w.heap.size w wr ∧ wr.heap[w.heap.size]? = some (.cells #[.int .i64 f, .int .i64 t] 25 (0, 0))) (fun i _ => 16 - (intOf i).toNat)
    case atStart => exact ⟨0, [(0, 0)], by omega, by omega, rfl, HU.out, right_flat 0, by simp, fun x h0 _ => by simp only [lvl]; rw [if_neg (by omega)]; omega, HB.out, HN.out⟩
    case round =>
      obtain ⟨q, L, hq, hql, rfl, hu, hr, hl, hv, hb, hn⟩ := hrel
      have HUq := Lib.hid hu
      have HRq := Lib.hid hr
      have HLq := Lib.hid hl
      have HVq := Lib.hid hv
      have HBq := Lib.hid hb
      have HNq := Lib.hid hn
      clear hu hr hl hv hb hn HU HB HN
      have hll := HA.out.1
      by_cases hlt : q < ll ∧ q < 16
      case pos =>
        have hd1 : decide (q < ll) = true := decide_eq_true hlt.1
        have hd2 : decide ((q : Int) < 16) = true := decide_eq_true (by omega)
        have hix : (q : Int) < (ll : Int) := by omega
        have hw1 : IntKind.i64.wrap ((q : Int) + 1) = (q : Int) + 1 := by rw [IntKind.wrap_i64]; omega
        obtain ⟨ab, off, rfl, hrow⟩ := HA.out.2 (by omega)
        have hc := hrow q hlt.1
        clear hrow
        generalize A q = a at hc
        go_upto_region 5 with fail
        have w1 := (HBq.out.cell (p := ⟨ab, off + q * 4 + 1, none⟩) (World.block_lt_of_cell? w _ hc.c1)).trans hc.c1
        have w2 := (HBq.out.cell (p := ⟨ab, off + q * 4 + 2, none⟩) (World.block_lt_of_cell? w _ hc.c2)).trans hc.c2
        have w3 := (HBq.out.cell (p := ⟨ab, off + q * 4 + 3, none⟩) (World.block_lt_of_cell? w _ hc.c3)).trans hc.c3
        have hql' : q ≤ 16 := hq
        have hwt : IntKind.i64.wrap (a.n.tmod 1000) = a.n.tmod 1000 := by have := tmod_small a.n; rw [IntKind.wrap_i64]; omega
        have hu9 : USt wr.drew S L := HUq.out.below (Below.refl _ wr).drew
        refine wp_region_held (S := fun X => X.cell? ⟨ab, off + q * 4 + 1, none⟩ = some (.int .i64 a.fr) ∧ X.cell? ⟨ab, off + q * 4 + 2, none⟩ = some (.int .i64 a.to_) ∧ X.cell? ⟨ab, off + q * 4 + 3, none⟩ = some (.int .i64 a.n)) hmx ?_
        change wpAnyH _ _ _ _ _ 13 _ _ wr.drew
        have hSS : (fun X : World => X.cell? ⟨ab, off + q * 4 + 1, none⟩ = some (.int .i64 a.fr) ∧ X.cell? ⟨ab, off + q * 4 + 2, none⟩ = some (.int .i64 a.to_) ∧ X.cell? ⟨ab, off + q * 4 + 3, none⟩ = some (.int .i64 a.n)) wr.drew := ⟨w1, w2, w3⟩
        clear w1 w2 w3
        refine wpAnyH_take (i := 0) (v := .pointer (some ⟨S, 0, none⟩)) rfl (by decide +kernel) (by decide +kernel) (by decide +kernel) (fun _ _ _ h => h) (.inl ⟨by first | rfl | (go_simp; done), fun X hX => by have hx1 := hX.1; have hx2 := hX.2.1; have hx3 := hX.2.2; clear hX; first | (go_simp; done) | (go_simp; rfl)⟩) hSS ?_
        refine wpAnyH_take (i := 1) (v := .slice (some ⟨ab, off, none⟩) ll lcap) rfl (by decide +kernel) (by decide +kernel) (by decide +kernel) (fun _ _ _ h => h) (.inl ⟨by first | rfl | (go_simp; done), fun X hX => by have hx1 := hX.1; have hx2 := hX.2.1; have hx3 := hX.2.2; clear hX; first | (go_simp; done) | (go_simp; rfl)⟩) hSS ?_
        refine wpAnyH_take (i := 2) (v := .int .i64 q) rfl (by decide +kernel) (by decide +kernel) (by decide +kernel) (fun _ _ _ h => h) (.inl ⟨by first | rfl | (go_simp; done), fun X hX => by have hx1 := hX.1; have hx2 := hX.2.1; have hx3 := hX.2.2; clear hX; first | (go_simp; done) | (go_simp; rfl)⟩) hSS ?_
        refine wpAnyH_take (i := 3) (v := .pointer (some ⟨ab, off + q * 4, none⟩)) rfl (by decide +kernel) (by decide +kernel) (by decide +kernel) (fun _ _ _ h => h) (.inl ⟨by first | rfl | (go_simp; done), fun X hX => by have hx1 := hX.1; have hx2 := hX.2.1; have hx3 := hX.2.2; clear hX; first | (go_simp; done) | (go_simp; rfl)⟩) hSS ?_
        refine wpAnyH_take (i := 4) (v := .pointer (some ⟨ab, off + q * 4 + 1, none⟩)) rfl (by decide +kernel) (by decide +kernel) (by decide +kernel) (fun _ _ _ h => h) (.inl ⟨by first | rfl | (go_simp; done), fun X hX => by have hx1 := hX.1; have hx2 := hX.2.1; have hx3 := hX.2.2; clear hX; first | (go_simp; done) | (go_simp; rfl)⟩) hSS ?_
        refine wpAnyH_take (i := 5) (v := .agg #[.int .i64 a.fr, .int .i64 a.to_]) rfl (by decide +kernel) (by decide +kernel) (by decide +kernel) (fun _ _ _ h => h) (.inl ⟨by first | rfl | (go_simp; done), fun X hX => by have hx1 := hX.1; have hx2 := hX.2.1; have hx3 := hX.2.2; clear hX; first | (go_simp; done) | (go_simp; rfl)⟩) hSS ?_
        refine wpAnyH_take (i := 6) (v := .slice (some ⟨ab, off, none⟩) ll lcap) rfl (by decide +kernel) (by decide +kernel) (by decide +kernel) (fun _ _ _ h => h) (.inl ⟨by first | rfl | (go_simp; done), fun X hX => by have hx1 := hX.1; have hx2 := hX.2.1; have hx3 := hX.2.2; clear hX; first | (go_simp; done) | (go_simp; rfl)⟩) hSS ?_
        refine wpAnyH_take (i := 7) (v := .int .i64 q) rfl (by decide +kernel) (by decide +kernel) (by decide +kernel) (fun _ _ _ h => h) (.inl ⟨by first | rfl | (go_simp; done), fun X hX => by have hx1 := hX.1; have hx2 := hX.2.1; have hx3 := hX.2.2; clear hX; first | (go_simp; done) | (go_simp; rfl)⟩) hSS ?_
        refine wpAnyH_take (i := 8) (v := .pointer (some ⟨ab, off + q * 4, none⟩)) rfl (by decide +kernel) (by decide +kernel) (by decide +kernel) (fun _ _ _ h => h) (.inl ⟨by first | rfl | (go_simp; done), fun X hX => by have hx1 := hX.1; have hx2 := hX.2.1; have hx3 := hX.2.2; clear hX; first | (go_simp; done) | (go_simp; rfl)⟩) hSS ?_
        refine wpAnyH_take (i := 9) (v := .pointer (some ⟨ab, off + q * 4 + 3, none⟩)) rfl (by decide +kernel) (by decide +kernel) (by decide +kernel) (fun _ _ _ h => h) (.inl ⟨by first | rfl | (go_simp; done), fun X hX => by have hx1 := hX.1; have hx2 := hX.2.1; have hx3 := hX.2.2; clear hX; first | (go_simp; done) | (go_simp; rfl)⟩) hSS ?_
        refine wpAnyH_take (i := 10) (v := .int .i64 a.n) rfl (by decide +kernel) (by decide +kernel) (by decide +kernel) (fun _ _ _ h => h) (.inl ⟨by first | rfl | (go_simp; done), fun X hX => by have hx1 := hX.1; have hx2 := hX.2.1; have hx3 := hX.2.2; clear hX; first | (go_simp; done) | (go_simp; rfl)⟩) hSS ?_
        refine wpAnyH_take (i := 11) (v := .int .i64 (a.n.tmod 1000)) rfl (by decide +kernel) (by decide +kernel) (by decide +kernel) (fun _ _ _ h => h) (.inl ⟨by first | rfl | (go_simp; done), fun X hX => by have hx1 := hX.1; have hx2 := hX.2.1; have hx3 := hX.2.2; clear hX; first | (go_simp; done) | (go_simp; rfl)⟩) hSS ?_
        refine anyH_call (i := 12) (by decide +kernel) rfl (by first | rfl | (go_simp; done)) (by go_simp) (add_r hu9 HRq.out (by have := HLq.out; have := pow_small hql'; omega) a.fr a.to_ (a.n.tmod 1000)) ?_
        rintro e W7 ⟨rfl, hu7, hf7⟩
        have hab := World.block_lt_of_cell? w _ hc.c1
        have hwS := HBq.out.size
        have hb7 : Below w.heap.size w W7 := Below.trans (Below.drew HBq.out) (hf7.below hwS (fun j hj => by have hj' : j = S := hj; omega))
        have hcc : ∀ o v, w.cell? ⟨ab, o, none⟩ = some v → W7.cell? ⟨ab, o, none⟩ = some v := fun o v h => (hb7.cell (p := ⟨ab, o, none⟩) hab).trans h
        have hl9 := (Array.getElem?_eq_some_iff.1 HNq.out).1
        have hn7 := (hf7.block w.heap.size hl9 (by omega)).trans HNq.out
        have HN7 := Lib.hid hn7
        have HB7 := Lib.hid hb7
        have hch := change_right HRq.out (addF_in (byU (a.n.tmod 1000))) a.fr a.to_
        have hlen := changeU_len (addF (byU (a.n.tmod 1000))) L (a.fr, a.to_)
        have HU7 := Lib.hid hu7
        have HCH := Lib.hid hch
        have hlq := HLq.out
        have h3 : 3 ^ (q + 1) = 3 * 3 ^ q := by rw [Nat.pow_succ]; omega
        have hV : ∀ x, 0 ≤ x → x < 1099511627776 → -999 * ((q + 1 : Nat) : Int) ≤ lvl 0 (changeU (addF (byU (a.n.tmod 1000))) L (a.fr, a.to_)) x ∧ lvl 0 (changeU (addF (byU (a.n.tmod 1000))) L (a.fr, a.to_)) x ≤ 999 * ((q + 1 : Nat) : Int) := fun x h0 h1 => by
          have hv := HVq.out x h0 h1
          have ht := tmod_small a.n
          rw [HCH.out.2 x h0 h1]
          split
          · rw [add_small (by omega) (by omega)]; omega
          · omega
        have HV7 := Lib.hid hV
        clear hn7 hb7 hch hV hu7
        refine ⟨_, rfl, ⟨hcc _ _ hc.c1, hcc _ _ hc.c2, hcc _ _ hc.c3⟩, ?_⟩
        refine wpAnyH_done (by decide +kernel) ?_ _
        go_wp2_with fail
        go_wp2_with fail
        exact ⟨⟨q + 1, _, by omega, by omega, rfl, HU7.out, HCH.out.1, by omega, HV7.out, HB7.out, HN7.out⟩, by show 16 - ((q : Int) + 1).toNat < 16 - ((q : Int)).toNat; omega⟩
      case neg =>
        by_cases hl1 : q < ll
        case pos =>
          have hd1 : decide (q < ll) = true := decide_eq_true hl1
          have hd2 : decide ((q : Int) < 16) = false := decide_eq_false (by omega)
          go_wp2_with fail
          go_meet
          exact ⟨L, HUq.out, HRq.out, Nat.le_trans HLq.out (pow_small hq), fun x h0 h1 => by have := HVq.out x h0 h1; omega, HBq.out, HNq.out⟩
        case neg =>
          have hd1 : decide (q < ll) = false := decide_eq_false hl1
          go_wp2_with fail
          go_meet
          exact ⟨L, HUq.out, HRq.out, Nat.le_trans HLq.out (pow_small hq), fun x h0 h1 => by have := HVq.out x h0 h1; omega, HBq.out, HNq.out⟩
  case rest =>
  obtain ⟨L, hu, hr, hl, hv, hb, hn⟩ := hcut
  have HR := Lib.hid hr
  have HLn := Lib.hid hl
  have HV := Lib.hid hv
  have HBc := Lib.hid hb
  have HNc := Lib.hid hn
  have KC := Lib.hid (clone_any hu)
  have HUc := Lib.hid hu
  clear hr hl hv hb hn hu HU HB HN
  have hwt : IntKind.i64.wrap (by_.tmod 1000) = by_.tmod 1000 := by have := tmod_small by_; rw [IntKind.wrap_i64]; omega
  go_wp2_with fail
  refine KC.out.mono ?_
  rintro e W2 ⟨M, rfl, hM, hm, hb2⟩
  have HM2 := Lib.hid hm
  have HU2 := Lib.hid (HUc.out.below hb2)
  have hlc := (Array.getElem?_eq_some_iff.1 HNc.out).1
  have hn2 := (hb2.block w.heap.size hlc).trans HNc.out
  have hbx := Below.trans HBc.out (Below.mono hb2 HBc.out.size)
  have HB2 := Lib.hid hbx
  have hSM : S ≠ M := by
    obtain ⟨g, c, _, hs, _⟩ := HUc.out.at_
    have := (Array.getElem?_eq_some_iff.1 hs).1
    omega
  have s0 := cell_of_block (o := 0) hn2 rfl
  have s1 := cell_of_block (o := 1) hn2 rfl
  have HN2 := Lib.hid hn2
  clear hm hb2 hn2 hbx KC
  go_wp2_with fail
  refine (add_r HU2.out HR.out (by have := HLn.out; omega) f t (by_.tmod 1000)).mono ?_
  rintro e W3 ⟨rfl, hu3, hf3⟩
  have hsz2 := HB2.out.size
  have hb3 : Below w.heap.size w W3 := Below.trans HB2.out (hf3.below hsz2 (fun j hj => by have hj' : j = S := hj; omega))
  have hn3 := (hf3.block w.heap.size (Array.getElem?_eq_some_iff.1 HN2.out).1 (by show ¬ (w.heap.size = S); omega)).trans HN2.out
  have HU3 := Lib.hid hu3
  have HB3 := Lib.hid hb3
  have HN3 := Lib.hid hn3
  have HC3 := Lib.hid (change_right HR.out (addF_in (byU (by_.tmod 1000))) f t)
  have hln3 := changeU_len (addF (byU (by_.tmod 1000))) L (f, t)
  have hlen3 : (changeU (addF (byU (by_.tmod 1000))) L (f, t)).length ≤ 129140163 := by have := HLn.out; omega
  have HV3 := Lib.hid (show ∀ x, 0 ≤ x → x < 1099511627776 → lvl 0 (changeU (addF (byU (by_.tmod 1000))) L (f, t)) x = if clampI f < clampI t ∧ f ≤ x ∧ x < t then lvl 0 L x + by_.tmod 1000 else lvl 0 L x from fun x h0 h1 => by rw [HC3.out.2 x h0 h1, add_small (by have := HV.out x h0 h1; omega) (by have := tmod_small by_; omega)])
  generalize changeU (addF (byU (by_.tmod 1000))) L (f, t) = B at *
  have s0 := cell_of_block (o := 0) hn3 rfl
  have s1 := cell_of_block (o := 1) hn3 rfl
  clear hu3 hb3 hn3 hln3
  go_upto_region 10 with fail
  go_quiet ((first | (go_at_call 25; exact Calls.quiet_of_same ((clamp_any _ _).mono fun _ _ h => ⟨h.1, h.2.symm⟩)) | (go_at_call 24; exact Calls.quiet_of_same ((sub_any _ _ _).mono fun _ _ h => ⟨h.1, h.2.symm⟩))))
  have HBq := Lib.hid (below_drewN (Below.refl W3.heap.size W3) nq)
  have HE := Lib.hid (fun W => empty_any f t W)
  have HM3 := Lib.hid (HU2.out.other HM2.out (fun h => hSM h.symm) hf3)
  generalize W3.drewN nq = W4 at *
  have n4 := (HBq.out.block w.heap.size (Array.getElem?_eq_some_iff.1 HN3.out).1).trans HN3.out
  have hw4 := (Array.getElem?_eq_some_iff.1 n4).1
  have z0 := cell_of_block (o := 0) n4 rfl
  have z1 := cell_of_block (o := 1) n4 rfl
  have HU4 := Lib.hid (HU3.out.below HBq.out)
  have HM4 := Lib.hid (HM3.out.below HBq.out)
  have HX := Lib.hid (show MoreU L B f t (by_.tmod 1000) from HV3.out)
  have HRB := Lib.hid HC3.out.1
  have hn9 := tmod_small by_
  have HSm := Lib.hid (at_small HR.out (b := 15984) (fun x h0 h1 => by have := HV.out x h0 h1; omega) f)
  clear n4 s0 s1
  go_upto_region 11 with fail
  go_cut [97] (fun s wx => s = .bool false ∧ Below W4.heap.size W4 wx)
  case first =>
    by_cases he : clampI f < clampI t
    case neg =>
      have hd : decide (clampI t ≤ clampI f) = true := decide_eq_true (by omega)
      refine Rl.wp_region_rel (fun a b => Below a.heap.size a b) W4 (fun a b c h h' => below_next h h') (fun a => Below.refl _ _) hmx (by kernel_rfl) (Below.refl _ _).drew ?_
      (refine Rl.textR_run ?_ (fun ρ => ?_) (fun ρ W hS hd => ?_) ?_; rotate_left; (focus go_simp); (focus (obtain ⟨hc, hf⟩ := bcell hS; go_simp; first | exact ⟨rfl, Below.refl _ _⟩ | (refine ⟨?_, Below.refl _ _⟩; rfl))); (try go_simp))
      (refine Rl.textR_run ?_ (fun ρ => ?_) (fun ρ W hS hd => ?_) ?_; rotate_left; (focus go_simp); (focus (obtain ⟨hc, hf⟩ := bcell hS; go_simp; refine (HE.out _).mono ?_; rintro e w1 ⟨rfl, hb⟩; refine ⟨_, rfl, ?_, hb⟩; rfl)); (try go_simp))
      iterate 2 (refine Rl.textR_run ?_ (fun ρ => ?_) (fun ρ W hS hd => ?_) ?_; rotate_left; (focus go_simp); (focus (obtain ⟨hc, hf⟩ := bcell hS; go_simp; first | exact ⟨rfl, Below.refl _ _⟩ | (refine ⟨?_, Below.refl _ _⟩; rfl))); (try go_simp))
      iterate 38 (refine Rl.textR_skip (fun ρ => ?_) ?_; (focus (first | rfl | (go_simp; done) | (go_simp; rfl))); (try go_simp))
      (refine Rl.textR_run ?_ (fun ρ => ?_) (fun ρ W hS hd => ?_) ?_; rotate_left; (focus go_simp); (focus (obtain ⟨hc, hf⟩ := bcell hS; go_simp; first | exact ⟨rfl, Below.refl _ _⟩ | (refine ⟨?_, Below.refl _ _⟩; rfl))); (try go_simp))
      refine Rl.textR_nil ?_
      intro ρ w1 hg hk1
      dsimp only
      go_wp2_with fail
      go_meet
      exact ⟨rfl, hg⟩
    case pos =>
      have hd : decide (clampI t ≤ clampI f) = false := decide_eq_false (by omega)
      obtain ⟨v3, hv3⟩ : ∃ v, v = atU L f := ⟨_, rfl⟩
      have hS3 : -15984 ≤ v3 ∧ v3 ≤ 15984 := by rw [hv3]; exact HSm.out
      have A5 := Lib.hid (fun W (hb : Below W4.heap.size W4 W) => (show Calls Try.prog 16 #[.pointer (some ⟨S, 0, none⟩), .int .i64 f] W fun e w' => e = .returned (.int .i64 (v3 + by_.tmod 1000)) ∧ Below W.heap.size W w' from (show atU B f = v3 + by_.tmod 1000 from hv3 ▸ more_in HR.out HRB.out HX.out he) ▸ at_any (HU4.out.below hb) f))
      have A6 := Lib.hid (fun W (hb : Below W4.heap.size W4 W) => (show Calls Try.prog 16 #[.pointer (some ⟨M, 0, none⟩), .int .i64 f] W fun e w' => e = .returned (.int .i64 v3) ∧ Below W.heap.size W w' from (hv3 ▸ at_any (HM4.out.below hb) f)))
      have hw3 : IntKind.i64.wrap (v3 + by_.tmod 1000) = v3 + by_.tmod 1000 := by rw [IntKind.wrap_i64]; omega
      clear hv3
      by_cases h1 : f > 0
      case pos =>
        have hd1 : decide (f > 0) = true := decide_eq_true (by omega)
        obtain ⟨v1, hv1⟩ : ∃ v, v = atU L (subI f 1) := ⟨_, rfl⟩
        have A1 := Lib.hid (fun W (hb : Below W4.heap.size W4 W) => (show Calls Try.prog 16 #[.pointer (some ⟨S, 0, none⟩), .int .i64 (subI f 1)] W fun e w' => e = .returned (.int .i64 v1) ∧ Below W.heap.size W w' from (show atU B (subI f 1) = v1 from hv1 ▸ more_ahead HR.out HRB.out HX.out he h1) ▸ at_any (HU4.out.below hb) (subI f 1)))
        have A2 := Lib.hid (fun W (hb : Below W4.heap.size W4 W) => (show Calls Try.prog 16 #[.pointer (some ⟨M, 0, none⟩), .int .i64 (subI f 1)] W fun e w' => e = .returned (.int .i64 v1) ∧ Below W.heap.size W w' from (hv1 ▸ at_any (HM4.out.below hb) (subI f 1))))
        clear hv1
        by_cases h2 : clampI t < 1099511627776
        case pos =>
          have hd2 : decide (clampI t < 1099511627776) = true := decide_eq_true (by omega)
          obtain ⟨v2, hv2⟩ : ∃ v, v = atU L (clampI t) := ⟨_, rfl⟩
          have A3 := Lib.hid (fun W (hb : Below W4.heap.size W4 W) => (show Calls Try.prog 16 #[.pointer (some ⟨S, 0, none⟩), .int .i64 (clampI t)] W fun e w' => e = .returned (.int .i64 v2) ∧ Below W.heap.size W w' from (show atU B (clampI t) = v2 from hv2 ▸ more_behind HR.out HRB.out HX.out he h2) ▸ at_any (HU4.out.below hb) (clampI t)))
          have A4 := Lib.hid (fun W (hb : Below W4.heap.size W4 W) => (show Calls Try.prog 16 #[.pointer (some ⟨M, 0, none⟩), .int .i64 (clampI t)] W fun e w' => e = .returned (.int .i64 v2) ∧ Below W.heap.size W w' from (hv2 ▸ at_any (HM4.out.below hb) (clampI t))))
          clear hv2
          clear HX HC3 HV3 HRB HSm HV HR
          refine Rl.wp_region_rel (fun a b => Below a.heap.size a b) W4 (fun a b c h h' => below_next h h') (fun a => Below.refl _ _) hmx (by kernel_rfl) (Below.refl _ _).drew ?_
          (refine Rl.textR_run ?_ (fun ρ => ?_) (fun ρ W hS hd => ?_) ?_; rotate_left; (focus go_simp); (focus (obtain ⟨hc, hf⟩ := bcell hS; go_simp; first | exact ⟨rfl, Below.refl _ _⟩ | (refine ⟨?_, Below.refl _ _⟩; rfl))); (try go_simp))
          (refine Rl.textR_run ?_ (fun ρ => ?_) (fun ρ W hS hd => ?_) ?_; rotate_left; (focus go_simp); (focus (obtain ⟨hc, hf⟩ := bcell hS; go_simp; refine (HE.out _).mono ?_; rintro e w1 ⟨rfl, hb⟩; refine ⟨_, rfl, ?_, hb⟩; rfl)); (try go_simp))
          iterate 6 (refine Rl.textR_run ?_ (fun ρ => ?_) (fun ρ W hS hd => ?_) ?_; rotate_left; (focus go_simp); (focus (obtain ⟨hc, hf⟩ := bcell hS; go_simp; first | exact ⟨rfl, Below.refl _ _⟩ | (refine ⟨?_, Below.refl _ _⟩; rfl))); (try go_simp))
          iterate 2 (refine Rl.textR_run ?_ (fun ρ => ?_) (fun ρ W hS hd => ?_) ?_; rotate_left; (focus go_simp); (focus (obtain ⟨hc, hf⟩ := bcell hS; go_simp; first | exact ⟨rfl, Below.refl _ _⟩ | (refine ⟨?_, Below.refl _ _⟩; rfl))); (try go_simp))
          (refine Rl.textR_run ?_ (fun ρ => ?_) (fun ρ W hS hd => ?_) ?_; rotate_left; (focus go_simp); (focus (obtain ⟨hc, hf⟩ := bcell hS; go_simp; refine (A1.out _ hS).mono ?_; rintro e w1 ⟨rfl, hb⟩; refine ⟨_, rfl, ?_, hb⟩; rfl)); (try go_simp))
          iterate 2 (refine Rl.textR_run ?_ (fun ρ => ?_) (fun ρ W hS hd => ?_) ?_; rotate_left; (focus go_simp); (focus (obtain ⟨hc, hf⟩ := bcell hS; go_simp; first | exact ⟨rfl, Below.refl _ _⟩ | (refine ⟨?_, Below.refl _ _⟩; rfl))); (try go_simp))
          (refine Rl.textR_run ?_ (fun ρ => ?_) (fun ρ W hS hd => ?_) ?_; rotate_left; (focus go_simp); (focus (obtain ⟨hc, hf⟩ := bcell hS; go_simp; refine (A2.out _ hS).mono ?_; rintro e w1 ⟨rfl, hb⟩; refine ⟨_, rfl, ?_, hb⟩; rfl)); (try go_simp))
          (refine Rl.textR_run ?_ (fun ρ => ?_) (fun ρ W hS hd => ?_) ?_; rotate_left; (focus go_simp); (focus (obtain ⟨hc, hf⟩ := bcell hS; go_simp; first | exact ⟨rfl, Below.refl _ _⟩ | (refine ⟨?_, Below.refl _ _⟩; rfl))); (try go_simp))
          iterate 5 (refine Rl.textR_run ?_ (fun ρ => ?_) (fun ρ W hS hd => ?_) ?_; rotate_left; (focus go_simp); (focus (obtain ⟨hc, hf⟩ := bcell hS; go_simp; first | exact ⟨rfl, Below.refl _ _⟩ | (refine ⟨?_, Below.refl _ _⟩; rfl))); (try go_simp))
          iterate 2 (refine Rl.textR_run ?_ (fun ρ => ?_) (fun ρ W hS hd => ?_) ?_; rotate_left; (focus go_simp); (focus (obtain ⟨hc, hf⟩ := bcell hS; go_simp; first | exact ⟨rfl, Below.refl _ _⟩ | (refine ⟨?_, Below.refl _ _⟩; rfl))); (try go_simp))
          (refine Rl.textR_run ?_ (fun ρ => ?_) (fun ρ W hS hd => ?_) ?_; rotate_left; (focus go_simp); (focus (obtain ⟨hc, hf⟩ := bcell hS; go_simp; refine (A3.out _ hS).mono ?_; rintro e w1 ⟨rfl, hb⟩; refine ⟨_, rfl, ?_, hb⟩; rfl)); (try go_simp))
          iterate 2 (refine Rl.textR_run ?_ (fun ρ => ?_) (fun ρ W hS hd => ?_) ?_; rotate_left; (focus go_simp); (focus (obtain ⟨hc, hf⟩ := bcell hS; go_simp; first | exact ⟨rfl, Below.refl _ _⟩ | (refine ⟨?_, Below.refl _ _⟩; rfl))); (try go_simp))
          (refine Rl.textR_run ?_ (fun ρ => ?_) (fun ρ W hS hd => ?_) ?_; rotate_left; (focus go_simp); (focus (obtain ⟨hc, hf⟩ := bcell hS; go_simp; refine (A4.out _ hS).mono ?_; rintro e w1 ⟨rfl, hb⟩; refine ⟨_, rfl, ?_, hb⟩; rfl)); (try go_simp))
          (refine Rl.textR_run ?_ (fun ρ => ?_) (fun ρ W hS hd => ?_) ?_; rotate_left; (focus go_simp); (focus (obtain ⟨hc, hf⟩ := bcell hS; go_simp; first | exact ⟨rfl, Below.refl _ _⟩ | (refine ⟨?_, Below.refl _ _⟩; rfl))); (try go_simp))
          iterate 6 (refine Rl.textR_run ?_ (fun ρ => ?_) (fun ρ W hS hd => ?_) ?_; rotate_left; (focus go_simp); (focus (obtain ⟨hc, hf⟩ := bcell hS; go_simp; first | exact ⟨rfl, Below.refl _ _⟩ | (refine ⟨?_, Below.refl _ _⟩; rfl))); (try go_simp))
          (refine Rl.textR_run ?_ (fun ρ => ?_) (fun ρ W hS hd => ?_) ?_; rotate_left; (focus go_simp); (focus (obtain ⟨hc, hf⟩ := bcell hS; go_simp; refine (A5.out _ hS).mono ?_; rintro e w1 ⟨rfl, hb⟩; refine ⟨_, rfl, ?_, hb⟩; rfl)); (try go_simp))
          iterate 3 (refine Rl.textR_run ?_ (fun ρ => ?_) (fun ρ W hS hd => ?_) ?_; rotate_left; (focus go_simp); (focus (obtain ⟨hc, hf⟩ := bcell hS; go_simp; first | exact ⟨rfl, Below.refl _ _⟩ | (refine ⟨?_, Below.refl _ _⟩; rfl))); (try go_simp))
          (refine Rl.textR_run ?_ (fun ρ => ?_) (fun ρ W hS hd => ?_) ?_; rotate_left; (focus go_simp); (focus (obtain ⟨hc, hf⟩ := bcell hS; go_simp; refine (A6.out _ hS).mono ?_; rintro e w1 ⟨rfl, hb⟩; refine ⟨_, rfl, ?_, hb⟩; rfl)); (try go_simp))
          iterate 5 (refine Rl.textR_run ?_ (fun ρ => ?_) (fun ρ W hS hd => ?_) ?_; rotate_left; (focus go_simp); (focus (obtain ⟨hc, hf⟩ := bcell hS; go_simp; first | exact ⟨rfl, Below.refl _ _⟩ | (refine ⟨?_, Below.refl _ _⟩; rfl))); (try go_simp))
          refine Rl.textR_nil ?_
          intro ρ w1 hg hk1
          dsimp only
          go_wp2_with fail
          go_meet
          exact ⟨rfl, hg⟩
        case neg =>
          have hd2 : decide (clampI t < 1099511627776) = false := decide_eq_false (by omega)
          clear HX HC3 HV3 HRB HSm HV HR
          refine Rl.wp_region_rel (fun a b => Below a.heap.size a b) W4 (fun a b c h h' => below_next h h') (fun a => Below.refl _ _) hmx (by kernel_rfl) (Below.refl _ _).drew ?_
          (refine Rl.textR_run ?_ (fun ρ => ?_) (fun ρ W hS hd => ?_) ?_; rotate_left; (focus go_simp); (focus (obtain ⟨hc, hf⟩ := bcell hS; go_simp; first | exact ⟨rfl, Below.refl _ _⟩ | (refine ⟨?_, Below.refl _ _⟩; rfl))); (try go_simp))
          (refine Rl.textR_run ?_ (fun ρ => ?_) (fun ρ W hS hd => ?_) ?_; rotate_left; (focus go_simp); (focus (obtain ⟨hc, hf⟩ := bcell hS; go_simp; refine (HE.out _).mono ?_; rintro e w1 ⟨rfl, hb⟩; refine ⟨_, rfl, ?_, hb⟩; rfl)); (try go_simp))
          iterate 6 (refine Rl.textR_run ?_ (fun ρ => ?_) (fun ρ W hS hd => ?_) ?_; rotate_left; (focus go_simp); (focus (obtain ⟨hc, hf⟩ := bcell hS; go_simp; first | exact ⟨rfl, Below.refl _ _⟩ | (refine ⟨?_, Below.refl _ _⟩; rfl))); (try go_simp))
          iterate 2 (refine Rl.textR_run ?_ (fun ρ => ?_) (fun ρ W hS hd => ?_) ?_; rotate_left; (focus go_simp); (focus (obtain ⟨hc, hf⟩ := bcell hS; go_simp; first | exact ⟨rfl, Below.refl _ _⟩ | (refine ⟨?_, Below.refl _ _⟩; rfl))); (try go_simp))
          (refine Rl.textR_run ?_ (fun ρ => ?_) (fun ρ W hS hd => ?_) ?_; rotate_left; (focus go_simp); (focus (obtain ⟨hc, hf⟩ := bcell hS; go_simp; refine (A1.out _ hS).mono ?_; rintro e w1 ⟨rfl, hb⟩; refine ⟨_, rfl, ?_, hb⟩; rfl)); (try go_simp))
          iterate 2 (refine Rl.textR_run ?_ (fun ρ => ?_) (fun ρ W hS hd => ?_) ?_; rotate_left; (focus go_simp); (focus (obtain ⟨hc, hf⟩ := bcell hS; go_simp; first | exact ⟨rfl, Below.refl _ _⟩ | (refine ⟨?_, Below.refl _ _⟩; rfl))); (try go_simp))
          (refine Rl.textR_run ?_ (fun ρ => ?_) (fun ρ W hS hd => ?_) ?_; rotate_left; (focus go_simp); (focus (obtain ⟨hc, hf⟩ := bcell hS; go_simp; refine (A2.out _ hS).mono ?_; rintro e w1 ⟨rfl, hb⟩; refine ⟨_, rfl, ?_, hb⟩; rfl)); (try go_simp))
          (refine Rl.textR_run ?_ (fun ρ => ?_) (fun ρ W hS hd => ?_) ?_; rotate_left; (focus go_simp); (focus (obtain ⟨hc, hf⟩ := bcell hS; go_simp; first | exact ⟨rfl, Below.refl _ _⟩ | (refine ⟨?_, Below.refl _ _⟩; rfl))); (try go_simp))
          iterate 5 (refine Rl.textR_run ?_ (fun ρ => ?_) (fun ρ W hS hd => ?_) ?_; rotate_left; (focus go_simp); (focus (obtain ⟨hc, hf⟩ := bcell hS; go_simp; first | exact ⟨rfl, Below.refl _ _⟩ | (refine ⟨?_, Below.refl _ _⟩; rfl))); (try go_simp))
          iterate 7 (refine Rl.textR_skip (fun ρ => ?_) ?_; (focus (first | rfl | (go_simp; done) | (go_simp; rfl))); (try go_simp))
          iterate 6 (refine Rl.textR_run ?_ (fun ρ => ?_) (fun ρ W hS hd => ?_) ?_; rotate_left; (focus go_simp); (focus (obtain ⟨hc, hf⟩ := bcell hS; go_simp; first | exact ⟨rfl, Below.refl _ _⟩ | (refine ⟨?_, Below.refl _ _⟩; rfl))); (try go_simp))
          (refine Rl.textR_run ?_ (fun ρ => ?_) (fun ρ W hS hd => ?_) ?_; rotate_left; (focus go_simp); (focus (obtain ⟨hc, hf⟩ := bcell hS; go_simp; refine (A5.out _ hS).mono ?_; rintro e w1 ⟨rfl, hb⟩; refine ⟨_, rfl, ?_, hb⟩; rfl)); (try go_simp))
          iterate 3 (refine Rl.textR_run ?_ (fun ρ => ?_) (fun ρ W hS hd => ?_) ?_; rotate_left; (focus go_simp); (focus (obtain ⟨hc, hf⟩ := bcell hS; go_simp; first | exact ⟨rfl, Below.refl _ _⟩ | (refine ⟨?_, Below.refl _ _⟩; rfl))); (try go_simp))
          (refine Rl.textR_run ?_ (fun ρ => ?_) (fun ρ W hS hd => ?_) ?_; rotate_left; (focus go_simp); (focus (obtain ⟨hc, hf⟩ := bcell hS; go_simp; refine (A6.out _ hS).mono ?_; rintro e w1 ⟨rfl, hb⟩; refine ⟨_, rfl, ?_, hb⟩; rfl)); (try go_simp))
          iterate 5 (refine Rl.textR_run ?_ (fun ρ => ?_) (fun ρ W hS hd => ?_) ?_; rotate_left; (focus go_simp); (focus (obtain ⟨hc, hf⟩ := bcell hS; go_simp; first | exact ⟨rfl, Below.refl _ _⟩ | (refine ⟨?_, Below.refl _ _⟩; rfl))); (try go_simp))
          refine Rl.textR_nil ?_
          intro ρ w1 hg hk1
          dsimp only
          go_wp2_with fail
          go_meet
          exact ⟨rfl, hg⟩
      case neg =>
        have hd1 : decide (f > 0) = false := decide_eq_false (by omega)
        by_cases h2 : clampI t < 1099511627776
        case pos =>
          have hd2 : decide (clampI t < 1099511627776) = true := decide_eq_true (by omega)
          obtain ⟨v2, hv2⟩ : ∃ v, v = atU L (clampI t) := ⟨_, rfl⟩
          have A3 := Lib.hid (fun W (hb : Below W4.heap.size W4 W) => (show Calls Try.prog 16 #[.pointer (some ⟨S, 0, none⟩), .int .i64 (clampI t)] W fun e w' => e = .returned (.int .i64 v2) ∧ Below W.heap.size W w' from (show atU B (clampI t) = v2 from hv2 ▸ more_behind HR.out HRB.out HX.out he h2) ▸ at_any (HU4.out.below hb) (clampI t)))
          have A4 := Lib.hid (fun W (hb : Below W4.heap.size W4 W) => (show Calls Try.prog 16 #[.pointer (some ⟨M, 0, none⟩), .int .i64 (clampI t)] W fun e w' => e = .returned (.int .i64 v2) ∧ Below W.heap.size W w' from (hv2 ▸ at_any (HM4.out.below hb) (clampI t))))
          clear hv2
          clear HX HC3 HV3 HRB HSm HV HR
          refine Rl.wp_region_rel (fun a b => Below a.heap.size a b) W4 (fun a b c h h' => below_next h h') (fun a => Below.refl _ _) hmx (by kernel_rfl) (Below.refl _ _).drew ?_
          (refine Rl.textR_run ?_ (fun ρ => ?_) (fun ρ W hS hd => ?_) ?_; rotate_left; (focus go_simp); (focus (obtain ⟨hc, hf⟩ := bcell hS; go_simp; first | exact ⟨rfl, Below.refl _ _⟩ | (refine ⟨?_, Below.refl _ _⟩; rfl))); (try go_simp))
          (refine Rl.textR_run ?_ (fun ρ => ?_) (fun ρ W hS hd => ?_) ?_; rotate_left; (focus go_simp); (focus (obtain ⟨hc, hf⟩ := bcell hS; go_simp; refine (HE.out _).mono ?_; rintro e w1 ⟨rfl, hb⟩; refine ⟨_, rfl, ?_, hb⟩; rfl)); (try go_simp))
          iterate 6 (refine Rl.textR_run ?_ (fun ρ => ?_) (fun ρ W hS hd => ?_) ?_; rotate_left; (focus go_simp); (focus (obtain ⟨hc, hf⟩ := bcell hS; go_simp; first | exact ⟨rfl, Below.refl _ _⟩ | (refine ⟨?_, Below.refl _ _⟩; rfl))); (try go_simp))
          iterate 7 (refine Rl.textR_skip (fun ρ => ?_) ?_; (focus (first | rfl | (go_simp; done) | (go_simp; rfl))); (try go_simp))
          iterate 5 (refine Rl.textR_run ?_ (fun ρ => ?_) (fun ρ W hS hd => ?_) ?_; rotate_left; (focus go_simp); (focus (obtain ⟨hc, hf⟩ := bcell hS; go_simp; first | exact ⟨rfl, Below.refl _ _⟩ | (refine ⟨?_, Below.refl _ _⟩; rfl))); (try go_simp))
          iterate 2 (refine Rl.textR_run ?_ (fun ρ => ?_) (fun ρ W hS hd => ?_) ?_; rotate_left; (focus go_simp); (focus (obtain ⟨hc, hf⟩ := bcell hS; go_simp; first | exact ⟨rfl, Below.refl _ _⟩ | (refine ⟨?_, Below.refl _ _⟩; rfl))); (try go_simp))
          (refine Rl.textR_run ?_ (fun ρ => ?_) (fun ρ W hS hd => ?_) ?_; rotate_left; (focus go_simp); (focus (obtain ⟨hc, hf⟩ := bcell hS; go_simp; refine (A3.out _ hS).mono ?_; rintro e w1 ⟨rfl, hb⟩; refine ⟨_, rfl, ?_, hb⟩; rfl)); (try go_simp))
          iterate 2 (refine Rl.textR_run ?_ (fun ρ => ?_) (fun ρ W hS hd => ?_) ?_; rotate_left; (focus go_simp); (focus (obtain ⟨hc, hf⟩ := bcell hS; go_simp; first | exact ⟨rfl, Below.refl _ _⟩ | (refine ⟨?_, Below.refl _ _⟩; rfl))); (try go_simp))
          (refine Rl.textR_run ?_ (fun ρ => ?_) (fun ρ W hS hd => ?_) ?_; rotate_left; (focus go_simp); (focus (obtain ⟨hc, hf⟩ := bcell hS; go_simp; refine (A4.out _ hS).mono ?_; rintro e w1 ⟨rfl, hb⟩; refine ⟨_, rfl, ?_, hb⟩; rfl)); (try go_simp))
          (refine Rl.textR_run ?_ (fun ρ => ?_) (fun ρ W hS hd => ?_) ?_; rotate_left; (focus go_simp); (focus (obtain ⟨hc, hf⟩ := bcell hS; go_simp; first | exact ⟨rfl, Below.refl _ _⟩ | (refine ⟨?_, Below.refl _ _⟩; rfl))); (try go_simp))
          iterate 6 (refine Rl.textR_run ?_ (fun ρ => ?_) (fun ρ W hS hd => ?_) ?_; rotate_left; (focus go_simp); (focus (obtain ⟨hc, hf⟩ := bcell hS; go_simp; first | exact ⟨rfl, Below.refl _ _⟩ | (refine ⟨?_, Below.refl _ _⟩; rfl))); (try go_simp))
          (refine Rl.textR_run ?_ (fun ρ => ?_) (fun ρ W hS hd => ?_) ?_; rotate_left; (focus go_simp); (focus (obtain ⟨hc, hf⟩ := bcell hS; go_simp; refine (A5.out _ hS).mono ?_; rintro e w1 ⟨rfl, hb⟩; refine ⟨_, rfl, ?_, hb⟩; rfl)); (try go_simp))
          iterate 3 (refine Rl.textR_run ?_ (fun ρ => ?_) (fun ρ W hS hd => ?_) ?_; rotate_left; (focus go_simp); (focus (obtain ⟨hc, hf⟩ := bcell hS; go_simp; first | exact ⟨rfl, Below.refl _ _⟩ | (refine ⟨?_, Below.refl _ _⟩; rfl))); (try go_simp))
          (refine Rl.textR_run ?_ (fun ρ => ?_) (fun ρ W hS hd => ?_) ?_; rotate_left; (focus go_simp); (focus (obtain ⟨hc, hf⟩ := bcell hS; go_simp; refine (A6.out _ hS).mono ?_; rintro e w1 ⟨rfl, hb⟩; refine ⟨_, rfl, ?_, hb⟩; rfl)); (try go_simp))
          iterate 5 (refine Rl.textR_run ?_ (fun ρ => ?_) (fun ρ W hS hd => ?_) ?_; rotate_left; (focus go_simp); (focus (obtain ⟨hc, hf⟩ := bcell hS; go_simp; first | exact ⟨rfl, Below.refl _ _⟩ | (refine ⟨?_, Below.refl _ _⟩; rfl))); (try go_simp))
          refine Rl.textR_nil ?_
          intro ρ w1 hg hk1
          dsimp only
          go_wp2_with fail
          go_meet
          exact ⟨rfl, hg⟩
        case neg =>
          have hd2 : decide (clampI t < 1099511627776) = false := decide_eq_false (by omega)
          clear HX HC3 HV3 HRB HSm HV HR
          refine Rl.wp_region_rel (fun a b => Below a.heap.size a b) W4 (fun a b c h h' => below_next h h') (fun a => Below.refl _ _) hmx (by kernel_rfl) (Below.refl _ _).drew ?_
          (refine Rl.textR_run ?_ (fun ρ => ?_) (fun ρ W hS hd => ?_) ?_; rotate_left; (focus go_simp); (focus (obtain ⟨hc, hf⟩ := bcell hS; go_simp; first | exact ⟨rfl, Below.refl _ _⟩ | (refine ⟨?_, Below.refl _ _⟩; rfl))); (try go_simp))
          (refine Rl.textR_run ?_ (fun ρ => ?_) (fun ρ W hS hd => ?_) ?_; rotate_left; (focus go_simp); (focus (obtain ⟨hc, hf⟩ := bcell hS; go_simp; refine (HE.out _).mono ?_; rintro e w1 ⟨rfl, hb⟩; refine ⟨_, rfl, ?_, hb⟩; rfl)); (try go_simp))
          iterate 6 (refine Rl.textR_run ?_ (fun ρ => ?_) (fun ρ W hS hd => ?_) ?_; rotate_left; (focus go_simp); (focus (obtain ⟨hc, hf⟩ := bcell hS; go_simp; first | exact ⟨rfl, Below.refl _ _⟩ | (refine ⟨?_, Below.refl _ _⟩; rfl))); (try go_simp))
          iterate 7 (refine Rl.textR_skip (fun ρ => ?_) ?_; (focus (first | rfl | (go_simp; done) | (go_simp; rfl))); (try go_simp))
          iterate 5 (refine Rl.textR_run ?_ (fun ρ => ?_) (fun ρ W hS hd => ?_) ?_; rotate_left; (focus go_simp); (focus (obtain ⟨hc, hf⟩ := bcell hS; go_simp; first | exact ⟨rfl, Below.refl _ _⟩ | (refine ⟨?_, Below.refl _ _⟩; rfl))); (try go_simp))
          iterate 7 (refine Rl.textR_skip (fun ρ => ?_) ?_; (focus (first | rfl | (go_simp; done) | (go_simp; rfl))); (try go_simp))
          iterate 6 (refine Rl.textR_run ?_ (fun ρ => ?_) (fun ρ W hS hd => ?_) ?_; rotate_left; (focus go_simp); (focus (obtain ⟨hc, hf⟩ := bcell hS; go_simp; first | exact ⟨rfl, Below.refl _ _⟩ | (refine ⟨?_, Below.refl _ _⟩; rfl))); (try go_simp))
          (refine Rl.textR_run ?_ (fun ρ => ?_) (fun ρ W hS hd => ?_) ?_; rotate_left; (focus go_simp); (focus (obtain ⟨hc, hf⟩ := bcell hS; go_simp; refine (A5.out _ hS).mono ?_; rintro e w1 ⟨rfl, hb⟩; refine ⟨_, rfl, ?_, hb⟩; rfl)); (try go_simp))
          iterate 3 (refine Rl.textR_run ?_ (fun ρ => ?_) (fun ρ W hS hd => ?_) ?_; rotate_left; (focus go_simp); (focus (obtain ⟨hc, hf⟩ := bcell hS; go_simp; first | exact ⟨rfl, Below.refl _ _⟩ | (refine ⟨?_, Below.refl _ _⟩; rfl))); (try go_simp))
          (refine Rl.textR_run ?_ (fun ρ => ?_) (fun ρ W hS hd => ?_) ?_; rotate_left; (focus go_simp); (focus (obtain ⟨hc, hf⟩ := bcell hS; go_simp; refine (A6.out _ hS).mono ?_; rintro e w1 ⟨rfl, hb⟩; refine ⟨_, rfl, ?_, hb⟩; rfl)); (try go_simp))
          iterate 5 (refine Rl.textR_run ?_ (fun ρ => ?_) (fun ρ W hS hd => ?_) ?_; rotate_left; (focus go_simp); (focus (obtain ⟨hc, hf⟩ := bcell hS; go_simp; first | exact ⟨rfl, Below.refl _ _⟩ | (refine ⟨?_, Below.refl _ _⟩; rfl))); (try go_simp))
          refine Rl.textR_nil ?_
          intro ρ w1 hg hk1
          dsimp only
          go_wp2_with fail
          go_meet
          exact ⟨rfl, hg⟩
  case rest =>
  obtain ⟨rfl, hb5⟩ := hcut
  have z0 := (hb5.cell (p := ⟨w.heap.size, 0, none⟩) hw4).trans z0
  have z1 := (hb5.cell (p := ⟨w.heap.size, 1, none⟩) hw4).trans z1
  have HU5 := Lib.hid (HU4.out.below hb5)
  have HM5 := Lib.hid (HM4.out.below hb5)
  have HB5 := Lib.hid (below_next (below_next HB3.out HBq.out) hb5)
  have HS5 := Lib.hid (more_same HR.out HRB.out HX.out)
  have hb15 := more_back HR.out HRB.out HX.out (fun x h0 h1 => by have := HV.out x h0 h1; omega) (by omega)
  have HBK := Lib.hid hb15
  clear hb15 HX HC3 HV3 HSm
  generalize by_.tmod 1000 = n at *
  have KS := same_any HU5.out HM5.out
  obtain ⟨z, hz⟩ : ∃ z, z = decide (B = L) := ⟨_, rfl⟩
  rw [← hz] at KS
  have HZ := Lib.hid (show z = true ↔ (n = 0 ∨ ¬ clampI f < clampI t) by rw [hz, decide_eq_true_eq]; exact HS5.out)
  have HKS := Lib.hid KS
  clear hz KS HS5
  have hw5 : w.heap.size < wc.heap.size := World.block_lt_of_cell? wc _ z0
  go_upto_region 13 with fail
  go_cut [107] (fun s wx => s = .bool false ∧ Below wc.heap.size wc wx)
  case first =>
    by_cases hn0 : n = 0
    case pos =>
      have hzt := HZ.out.2 (.inl hn0)
      subst hzt
      subst hn0
      go_wp2_with fail
      refine HKS.out.mono ?_
      rintro e W6 ⟨rfl, hb6⟩
      go_wp2_with fail
      go_meet
      exact ⟨rfl, hb6⟩
    case neg =>
      have hz1 : z = decide (clampI t ≤ clampI f) := by
        rw [Bool.eq_iff_iff, HZ.out, decide_eq_true_eq]; omega
      have hq1 : (n == 0) = false := beq_false_of_ne hn0
      have HZ1 := Lib.hid hz1
      clear hz1
      go_wp2_with fail
      refine HKS.out.mono ?_
      rintro e W6 ⟨rfl, hb6⟩
      have hc6 : ∀ o v, wc.cell? ⟨w.heap.size, o, none⟩ = some v → W6.cell? ⟨w.heap.size, o, none⟩ = some v := fun o v h => (hb6.cell (p := ⟨w.heap.size, o, none⟩) hw5).trans h
      have y0 := hc6 _ _ z0
      have y1 := hc6 _ _ z1
      have HB6 := Lib.hid hb6
      clear hb6 hc6
      go_wp2_with fail
      refine (empty_any f t _).mono ?_
      rintro e W7 ⟨rfl, hb7⟩
      have HB7 := Lib.hid (below_next HB6.out hb7)
      clear hb7
      have hz2 := HZ1.out
      subst hz2
      cases hcc : decide (clampI t ≤ clampI f)
      all_goals (
        go_wp2_with fail
        go_meet
        exact ⟨rfl, HB7.out⟩)
  case rest =>
  obtain ⟨rfl, hb6⟩ := hcut
  rename_i wd
  have z0 := (hb6.cell (p := ⟨w.heap.size, 0, none⟩) hw5).trans z0
  have z1 := (hb6.cell (p := ⟨w.heap.size, 1, none⟩) hw5).trans z1
  have HU6 := Lib.hid (HU5.out.below hb6)
  have HM6 := Lib.hid (HM5.out.below hb6)
  have HB6 := Lib.hid (below_next HB5.out hb6)
  have hwn : IntKind.i64.wrap (-n) = -n := by rw [IntKind.wrap_i64]; omega
  clear hb6
  go_wp2_with fail
  refine (add_r HU6.out HRB.out (by omega) f t (-n)).mono ?_
  rintro e W8 ⟨rfl, hu8, hf8⟩
  rw [HBK.out] at hu8
  have hs6 := HB6.out.size
  have HM8 := Lib.hid (HU6.out.other HM6.out (fun h => hSM h.symm) hf8)
  have HB8 := Lib.hid (Below.trans HB6.out (hf8.below hs6 (fun j hj => by have hj' : j = S := hj; omega)))
  have HU8 := Lib.hid hu8
  have hLL : decide (L = L) = true := decide_eq_true rfl
  have KS8 := same_any HU8.out HM8.out
  rw [hLL] at KS8
  have HS8 := Lib.hid KS8
  clear hu8 KS8 hLL hf8
  go_wp2_with fail
  refine HS8.out.mono ?_
  rintro e W9 ⟨rfl, hb9⟩
  have HB9 := Lib.hid (below_next HB8.out hb9)
  clear hb9
  go_wp2_with fail
  refine (K1.out _).mono ?_
  rintro e W10 ⟨rfl, hb10⟩
  have HB10 := Lib.hid (below_next HB9.out hb10)
  clear hb10
  go_wp2_with fail
  go_ret
  exact ⟨rfl, HB10.out⟩
end Go.Proofs.Ythdljigcfhjikaa
