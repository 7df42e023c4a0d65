/- Levels (layer 10): UsageSteps walked. Conditions: the acts and steps that came in. -/
import Derived.Deep.CutBlock
import Derived.Test.YthdljigcfhjikaaUrg
namespace Go.Proofs.Ythdljigcfhjikaa
set_option linter.unusedVariables false
open Go.ChangeShapes Go.WideShapes Go.ChangeAt Go.RowKit
attribute [local go_sem ↓] Go.wp_at_zero Go.wp_at_succ comesTo_value_eq comesTo_skip_eq comesTo_enter_eq Rl.comesToR_value_eq Rl.comesToR_skip_eq Rl.comesToR_enter_eq

/-- what the law asks of a step -/
def okG (X : Nat → Int × Int) (j : Nat) : Prop := (X j).1 < 1099511627776 ∧ -1000000 ≤ (X j).2 ∧ (X j).2 ≤ 1000000 ∧ (j = 0 ∨ (X j).1 > (X (j - 1)).1 ∧ (X j).2 ≠ (X (j - 1)).2)
def goodG (X : Nat → Int × Int) (len k : Nat) : Prop := (0 < len ∧ (X 0).1 = 0) ∧ ∀ j, j < k → okG X j
theorem goodG_right (X : Nat → Int × Int) (len : Nat) : goodG X len len ↔ RightX X len := by
  constructor
  · rintro ⟨⟨h0, h1⟩, h2⟩
    refine ⟨h0, h1, (h2 (len - 1) (by omega)).1, fun k hk => ⟨boundU_id ⟨(h2 k hk).2.1, (h2 k hk).2.2.1⟩, ?_⟩⟩
    rcases (h2 k hk).2.2.2 with h | ⟨h, h'⟩
    · exact .inl h
    · exact .inr ⟨by omega, fun e => h' e.symm⟩
  · rintro ⟨h0, h1, h2, h3⟩
    have step : ∀ k, k + 1 < len → (X k).1 < (X (k + 1)).1 := fun k hk => by
      rcases (h3 (k + 1) hk).2 with h | h
      · omega
      · simpa using h.1
    have mono : ∀ d k, k + d + 1 < len → (X k).1 < (X (k + d + 1)).1 := fun d => by
      induction d with
      | zero => intro k hk; exact step k hk
      | succ d ih => intro k hk; exact Int.lt_trans (ih k (by omega)) (step (k + d + 1) (by omega))
    refine ⟨⟨h0, h1⟩, fun j hj => ?_⟩
    have hb := boundU_in (X j).2
    rw [(h3 j hj).1] at hb
    refine ⟨?_, hb.1, hb.2, ?_⟩
    · by_cases e : j = len - 1
      · rw [e]; exact h2
      · have := mono (len - 1 - j - 1) j (by omega)
        rw [show j + (len - 1 - j - 1) + 1 = len - 1 by omega] at this
        exact Int.lt_trans this h2
    · rcases (h3 j hj).2 with h | ⟨h, h'⟩
      · exact .inl h
      · exact .inr ⟨by omega, fun e => h' e.symm⟩
theorem at_step {L : List (Int × Int)} (h : RightU L) {k : Nat} (hk : k < L.length) : atU L (L.getD k (0, 0)).1 = (L.getD k (0, 0)).2 := by
  obtain ⟨b0, b1, b2⟩ := toU_le h hk
  rw [at_spec h, clampI_of b0 (by omega), show min (L.getD k (0, 0)).1 1099511627775 = (L.getD k (0, 0)).1 by omega]
  exact lvl_at h.sorted 0 k _ hk (Int.le_refl _) (fun hk1 => by unfold toU at b1; rw [if_pos hk1] at b1; exact b1)
theorem StepsX.take {w : World} {ad : Option Addr} {len n : Nat} {X : Nat → Int × Int} (h : StepsX w ad len X) (hn : n ≤ len) : StepsX w ad n X := ⟨Nat.le_trans hn h.1, fun h0 => by
  obtain ⟨b, off, e, hb, hc⟩ := h.2 (by omega)
  exact ⟨b, off, e, hb, fun k hk => hc k (by omega)⟩⟩
set_option maxRecDepth 100000 in
set_option maxHeartbeats 16000000 in
theorem steps_any (lad : Option Addr) (ll lcap : Nat) (A : Nat → ActU) (xad : Option Addr) (xl xcap : Nat) (X : Nat → Int × Int) (w : World) (hA : ActsU w lad ll A) (hX : StepsX w xad xl X) (hcap : xl ≤ xcap) :
    Calls Try.prog 5 #[.slice lad ll lcap, .slice xad xl xcap] w fun e w' => e = .returned (.bool true) ∧ Below w.heap.size w w' := by
  have hmx : Try.prog.follows .mixedOrders = true := by kernel_rfl
  have KP := Lib.hid (play_any lad ll lcap A 5 20 (by decide) w hA)
  have K1 := Lib.hid (fun W => usage_one W)
  have HX := Lib.hid (fun W (hb : Below w.heap.size w W) => hX.below hb)
  have hxl := hX.1
  clear hA hX
  go_enter Try.func5, Try.ntmps5
  go_wp2_with fail
  refine KP.out.mono ?_
  rintro e W1 ⟨S, v, L, C, rfl, hS, hu, hr, hl, hrow, hcl, hlk, hb1⟩
  obtain ⟨vad, vn, vcp, rfl⟩ : ∃ a n c, v = .slice a n c := by obtain ⟨a, c, e⟩ := hrow.form; exact ⟨_, _, _, e⟩
  have hb2 := below_alloc (Below.refl _ W1) (.cells #[.int .i64 5, .slice vad vn vcp] 29)
  have HU := Lib.hid (hu.below hb2)
  have HR := Lib.hid hr
  have HB := Lib.hid (below_next hb1 hb2)
  have hpos := hr.pos
  have hlen := hu.len
  clear hu hr hrow hcl hlk hb1 hb2 KP
  go_upto_region 2 with fail
  generalize W1.alloc (.cells #[.int .i64 5, .slice vad vn vcp] 29) = W2 at *
  go_wp2_with fail
  refine (list_any HU.out).mono ?_
  rintro e W3 ⟨g, c, rfl, g1, g2, g3, g4, hb3⟩
  have HU3 := Lib.hid (HU.out.below hb3)
  have HB3 := Lib.hid (below_next HB.out hb3)
  have HG4 := Lib.hid g4
  have KO := Lib.hid (of_x (cap := c) (StepsX.of_row g4 g2 hlen) hlen)
  clear hb3 g4
  go_wp2_with fail
  refine KO.out.mono ?_
  rintro e W4 ⟨u, n, rfl, hcase, hb4⟩
  have hright := list_rightX HR.out
  rcases hcase with ⟨_, rfl, S2, rfl, hS2, hu2⟩ | ⟨hn, _⟩
  case inr => exact absurd hright hn
  rw [listX_of] at hu2
  have HU4 := Lib.hid (HU3.out.below hb4)
  have HU2 := Lib.hid hu2
  have HB4 := Lib.hid (below_next HB3.out hb4)
  have hg0 := (HG4.out.mono (hb4.block g g2)) 0 hpos
  have h0 : (L.getD 0 (0, 0)).1 = 0 := hright.2.1
  rw [h0] at hg0
  have z0 := hg0.1
  rw [Nat.zero_mul] at z0
  have hll : decide (L = L) = true := decide_eq_true rfl
  have KS := same_any HU4.out HU2.out
  rw [hll] at KS
  have HKS := Lib.hid KS
  have hq : ((L.length : Int) == 0) = false := beq_false_of_ne (by omega)
  have hix : (0 : Int) < (L.length : Int) := by omega
  have hg4l : g < W4.heap.size := Nat.lt_of_lt_of_le g2 hb4.size
  clear hu2 KS hll hright hg0 h0 hb4 KO
  go_wp2_with fail
  refine HKS.out.mono ?_
  rintro e W5 ⟨rfl, hb5⟩
  have z0 := (hb5.cell (p := ⟨g, 0, none⟩) hg4l).trans z0
  have HB5 := Lib.hid (below_next HB4.out hb5)
  clear hb5 HU HU3 HU4 HU2 HB HB3 HB4 HKS
  go_upto_region 6 with fail
  clear z0
  go_upto_if 49 with fail
  go_cut [1] (fun s wx => ∃ len : Nat, s = .slice xad len xcap ∧ len ≤ xl ∧ len ≤ 100 ∧ wx = W5)
  case first =>
    by_cases h100 : 100 < xl
    case pos =>
      have hd : decide ((xl : Int) > 100) = true := decide_eq_true (by omega)
      have hc1 : (100 : Int) ≤ (xcap : Int) := by omega
      go_wp2_with fail
      go_meet
      exact ⟨_, rfl, by omega, by omega, rfl⟩
    case neg =>
      have hd : decide ((xl : Int) > 100) = false := decide_eq_false (by omega)
      go_wp2_with fail
      go_meet
      exact ⟨_, rfl, by omega, by omega, rfl⟩
  case rest =>
  obtain ⟨len, rfl, hle1, hle2, hwc⟩ := hcut
  rw [hwc]
  clear hwc
  have HXT := Lib.hid (fun W (hb : Below w.heap.size w W) => (HX.out W hb).take hle1)
  clear HX
  go_upto_region 8 with fail
  go_cut [10] (fun s wx => ∃ gd : Bool, s = .bool gd ∧ (gd = true ↔ goodG X len 0) ∧ wx = W5)
  case first =>
    by_cases hl0 : 0 < len
    case neg =>
      have hd : decide ((len : Int) > 0) = false := decide_eq_false (by omega)
      go_wp2_with fail
      go_meet
      exact ⟨false, rfl, ⟨(fun h => by cases h), fun h => absurd h.1.1 hl0⟩, rfl⟩
    case pos =>
      have hd : decide ((len : Int) > 0) = true := decide_eq_true (by omega)
      have hix : (0 : Int) < (len : Int) := by omega
      obtain ⟨b, off, rfl, hbl, hc⟩ := (HXT.out _ HB5.out).2 hl0
      have q0 := (hc 0 hl0).1
      rw [Nat.zero_mul, Nat.add_zero] at q0
      clear hc
      go_wp2_with fail
      go_meet
      first | exact ⟨_, rfl, ⟨fun h => ⟨⟨hl0, by simpa using h⟩, fun j hj => by omega⟩, fun h => by simpa using h.1.2⟩, rfl⟩ | trace_state
  case rest =>
  obtain ⟨gd, rfl, hgd, hwc⟩ := hcut
  rw [hwc]
  clear hwc
  have HGD := Lib.hid hgd
  clear hgd
  go_wp2_with fail
  go_loopw [10, 11] (fun gv i wr => ∃ (k : Nat) (gd : Bool), k ≤ len ∧ i = .int .i64 k ∧ gv = .bool gd ∧ (gd = true ↔ goodG X len k) ∧ Below w.heap.size w wr) (fun _ i _ => len - (intOf i).toNat)
  case atStart => exact ⟨0, gd, by omega, rfl, rfl, HGD.out, HB5.out⟩
  case round =>
    obtain ⟨k, g0, hk, rfl, rfl, hg0, hb⟩ := hrel
    have HG0 := Lib.hid hg0
    have HBr := Lib.hid hb
    clear hg0 hb HGD
    by_cases hlt : k < len
    case pos =>
      have hd : decide (k < len) = true := decide_eq_true hlt
      have hix : (k : Int) < (len : Int) := by omega
      have hw1 : IntKind.i64.wrap ((k : Int) + 1) = ((k + 1 : Nat) : Int) := by rw [IntKind.wrap_i64]; omega
      obtain ⟨b, off, rfl, hbl, hc⟩ := (HXT.out _ HBr.out).2 (by omega)
      have q0 := (hc k hlt).1
      have q1 := (hc k hlt).2
      have HPV := Lib.hid (show 0 < k → wr.cell? ⟨b, off + (k - 1) * 2, none⟩ = some (.int .i64 (X (k - 1)).1) ∧ wr.cell? ⟨b, off + (k - 1) * 2 + 1, none⟩ = some (.int .i64 (X (k - 1)).2) from fun h => hc (k - 1) (by omega))
      clear hc
      cases g0 with
      | false =>
        go_upto_region 12 with fail
        refine Rl.wp_region_rel (fun a b => Below a.heap.size a b) wr (fun a b c h h' => below_next h h') (fun a => Below.refl _ _) hmx (by kernel_rfl) (Below.refl _ _).drew ?_
        iterate 2 (refine Rl.textR_run ?_ (fun ρ => ?_) (fun ρ W hS hd => ?_) ?_; rotate_left; (focus go_simp); (focus (obtain ⟨hc, hf⟩ := bcell hS; go_simp; first | exact ⟨rfl, Below.refl _ _⟩ | (refine ⟨?_, Below.refl _ _⟩; rfl))); (try go_simp))
        iterate 6 (refine Rl.textR_skip (fun ρ => ?_) ?_; (focus (first | rfl | (go_simp; done) | (go_simp; rfl))); (try go_simp))
        iterate 2 (refine Rl.textR_run ?_ (fun ρ => ?_) (fun ρ W hS hd => ?_) ?_; rotate_left; (focus go_simp); (focus (obtain ⟨hc, hf⟩ := bcell hS; go_simp; first | exact ⟨rfl, Below.refl _ _⟩ | (refine ⟨?_, Below.refl _ _⟩; rfl))); (try go_simp))
        iterate 6 (refine Rl.textR_skip (fun ρ => ?_) ?_; (focus (first | rfl | (go_simp; done) | (go_simp; rfl))); (try go_simp))
        iterate 2 (refine Rl.textR_run ?_ (fun ρ => ?_) (fun ρ W hS hd => ?_) ?_; rotate_left; (focus go_simp); (focus (obtain ⟨hc, hf⟩ := bcell hS; go_simp; first | exact ⟨rfl, Below.refl _ _⟩ | (refine ⟨?_, Below.refl _ _⟩; rfl))); (try go_simp))
        iterate 6 (refine Rl.textR_skip (fun ρ => ?_) ?_; (focus (first | rfl | (go_simp; done) | (go_simp; rfl))); (try go_simp))
        iterate 2 (refine Rl.textR_run ?_ (fun ρ => ?_) (fun ρ W hS hd => ?_) ?_; rotate_left; (focus go_simp); (focus (obtain ⟨hc, hf⟩ := bcell hS; go_simp; first | exact ⟨rfl, Below.refl _ _⟩ | (refine ⟨?_, Below.refl _ _⟩; rfl))); (try go_simp))
        iterate 30 (refine Rl.textR_skip (fun ρ => ?_) ?_; (focus (first | rfl | (go_simp; done) | (go_simp; rfl))); (try go_simp))
        iterate 2 (refine Rl.textR_run ?_ (fun ρ => ?_) (fun ρ W hS hd => ?_) ?_; rotate_left; (focus go_simp); (focus (obtain ⟨hc, hf⟩ := bcell hS; go_simp; first | exact ⟨rfl, Below.refl _ _⟩ | (refine ⟨?_, Below.refl _ _⟩; rfl))); (try go_simp))
        refine Rl.textR_nil ?_
        intro ρ w1 hg hk1
        dsimp only
        have HG := Lib.hid (below_next HBr.out hg)
        clear hg hk1
        go_wp2_with fail
        exact ⟨⟨k + 1, false, by omega, rfl, rfl, ⟨(fun h => by cases h), fun h => absurd (HG0.out.2 ⟨h.1, fun j hj => h.2 j (by omega)⟩) (by simp)⟩, HG.out⟩, by show len - (((k + 1 : Nat) : Int)).toNat < len - ((k : Int)).toNat; omega⟩
      | true =>
        by_cases h1 : (X k).1 < 1099511627776
        case neg =>
          have hbad : ¬ okG X k := fun h => h1 h.1
          have hd1 : decide ((X k).1 < 1099511627776) = false := decide_eq_false h1
          go_upto_region 12 with fail
          refine Rl.wp_region_rel (fun a b => Below a.heap.size a b) wr (fun a b c h h' => below_next h h') (fun a => Below.refl _ _) hmx (by kernel_rfl) (Below.refl _ _).drew ?_
          iterate 10 (refine Rl.textR_run ?_ (fun ρ => ?_) (fun ρ W hS hd => ?_) ?_; rotate_left; (focus go_simp); (focus (obtain ⟨hc, hf⟩ := bcell hS; go_simp; first | exact ⟨rfl, Below.refl _ _⟩ | (refine ⟨?_, Below.refl _ _⟩; rfl))); (try go_simp))
          iterate 6 (refine Rl.textR_skip (fun ρ => ?_) ?_; (focus (first | rfl | (go_simp; done) | (go_simp; rfl))); (try go_simp))
          iterate 2 (refine Rl.textR_run ?_ (fun ρ => ?_) (fun ρ W hS hd => ?_) ?_; rotate_left; (focus go_simp); (focus (obtain ⟨hc, hf⟩ := bcell hS; go_simp; first | exact ⟨rfl, Below.refl _ _⟩ | (refine ⟨?_, Below.refl _ _⟩; rfl))); (try go_simp))
          iterate 6 (refine Rl.textR_skip (fun ρ => ?_) ?_; (focus (first | rfl | (go_simp; done) | (go_simp; rfl))); (try go_simp))
          iterate 2 (refine Rl.textR_run ?_ (fun ρ => ?_) (fun ρ W hS hd => ?_) ?_; rotate_left; (focus go_simp); (focus (obtain ⟨hc, hf⟩ := bcell hS; go_simp; first | exact ⟨rfl, Below.refl _ _⟩ | (refine ⟨?_, Below.refl _ _⟩; rfl))); (try go_simp))
          iterate 30 (refine Rl.textR_skip (fun ρ => ?_) ?_; (focus (first | rfl | (go_simp; done) | (go_simp; rfl))); (try go_simp))
          iterate 2 (refine Rl.textR_run ?_ (fun ρ => ?_) (fun ρ W hS hd => ?_) ?_; rotate_left; (focus go_simp); (focus (obtain ⟨hc, hf⟩ := bcell hS; go_simp; first | exact ⟨rfl, Below.refl _ _⟩ | (refine ⟨?_, Below.refl _ _⟩; rfl))); (try go_simp))
          refine Rl.textR_nil ?_
          intro ρ w1 hg hk1
          dsimp only
          have HG := Lib.hid (below_next HBr.out hg)
          clear hg hk1
          go_wp2_with fail
          exact ⟨⟨k + 1, false, by omega, rfl, rfl, ⟨(fun h => by cases h), fun h => absurd (h.2 k (by omega)) hbad⟩, HG.out⟩, by show len - (((k + 1 : Nat) : Int)).toNat < len - ((k : Int)).toNat; omega⟩
        have hd1 : decide ((X k).1 < 1099511627776) = true := decide_eq_true h1
        by_cases h2 : (X k).2 ≥ -1000000
        case neg =>
          have hbad : ¬ okG X k := fun h => h2 h.2.1
          have hd2 : decide ((X k).2 ≥ -1000000) = false := decide_eq_false h2
          go_upto_region 12 with fail
          refine Rl.wp_region_rel (fun a b => Below a.heap.size a b) wr (fun a b c h h' => below_next h h') (fun a => Below.refl _ _) hmx (by kernel_rfl) (Below.refl _ _).drew ?_
          iterate 18 (refine Rl.textR_run ?_ (fun ρ => ?_) (fun ρ W hS hd => ?_) ?_; rotate_left; (focus go_simp); (focus (obtain ⟨hc, hf⟩ := bcell hS; go_simp; first | exact ⟨rfl, Below.refl _ _⟩ | (refine ⟨?_, Below.refl _ _⟩; rfl))); (try go_simp))
          iterate 6 (refine Rl.textR_skip (fun ρ => ?_) ?_; (focus (first | rfl | (go_simp; done) | (go_simp; rfl))); (try go_simp))
          iterate 2 (refine Rl.textR_run ?_ (fun ρ => ?_) (fun ρ W hS hd => ?_) ?_; rotate_left; (focus go_simp); (focus (obtain ⟨hc, hf⟩ := bcell hS; go_simp; first | exact ⟨rfl, Below.refl _ _⟩ | (refine ⟨?_, Below.refl _ _⟩; rfl))); (try go_simp))
          iterate 30 (refine Rl.textR_skip (fun ρ => ?_) ?_; (focus (first | rfl | (go_simp; done) | (go_simp; rfl))); (try go_simp))
          iterate 2 (refine Rl.textR_run ?_ (fun ρ => ?_) (fun ρ W hS hd => ?_) ?_; rotate_left; (focus go_simp); (focus (obtain ⟨hc, hf⟩ := bcell hS; go_simp; first | exact ⟨rfl, Below.refl _ _⟩ | (refine ⟨?_, Below.refl _ _⟩; rfl))); (try go_simp))
          refine Rl.textR_nil ?_
          intro ρ w1 hg hk1
          dsimp only
          have HG := Lib.hid (below_next HBr.out hg)
          clear hg hk1
          go_wp2_with fail
          exact ⟨⟨k + 1, false, by omega, rfl, rfl, ⟨(fun h => by cases h), fun h => absurd (h.2 k (by omega)) hbad⟩, HG.out⟩, by show len - (((k + 1 : Nat) : Int)).toNat < len - ((k : Int)).toNat; omega⟩
        have hd2 : decide ((X k).2 ≥ -1000000) = true := decide_eq_true h2
        by_cases h3 : (X k).2 ≤ 1000000
        case neg =>
          have hbad : ¬ okG X k := fun h => h3 h.2.2.1
          have hd3 : decide ((X k).2 ≤ 1000000) = false := decide_eq_false h3
          go_upto_region 12 with fail
          refine Rl.wp_region_rel (fun a b => Below a.heap.size a b) wr (fun a b c h h' => below_next h h') (fun a => Below.refl _ _) hmx (by kernel_rfl) (Below.refl _ _).drew ?_
          iterate 26 (refine Rl.textR_run ?_ (fun ρ => ?_) (fun ρ W hS hd => ?_) ?_; rotate_left; (focus go_simp); (focus (obtain ⟨hc, hf⟩ := bcell hS; go_simp; first | exact ⟨rfl, Below.refl _ _⟩ | (refine ⟨?_, Below.refl _ _⟩; rfl))); (try go_simp))
          iterate 30 (refine Rl.textR_skip (fun ρ => ?_) ?_; (focus (first | rfl | (go_simp; done) | (go_simp; rfl))); (try go_simp))
          iterate 2 (refine Rl.textR_run ?_ (fun ρ => ?_) (fun ρ W hS hd => ?_) ?_; rotate_left; (focus go_simp); (focus (obtain ⟨hc, hf⟩ := bcell hS; go_simp; first | exact ⟨rfl, Below.refl _ _⟩ | (refine ⟨?_, Below.refl _ _⟩; rfl))); (try go_simp))
          refine Rl.textR_nil ?_
          intro ρ w1 hg hk1
          dsimp only
          have HG := Lib.hid (below_next HBr.out hg)
          clear hg hk1
          go_wp2_with fail
          exact ⟨⟨k + 1, false, by omega, rfl, rfl, ⟨(fun h => by cases h), fun h => absurd (h.2 k (by omega)) hbad⟩, HG.out⟩, by show len - (((k + 1 : Nat) : Int)).toNat < len - ((k : Int)).toNat; omega⟩
        have hd3 : decide ((X k).2 ≤ 1000000) = true := decide_eq_true h3
        by_cases h4 : k = 0
        case pos =>
          have hok : okG X k := ⟨h1, h2, h3, .inl h4⟩
          have hd4 : ((k : Int) == 0) = true := beq_iff_eq.2 (by omega)
          clear h4
          go_upto_region 12 with fail
          refine Rl.wp_region_rel (fun a b => Below a.heap.size a b) wr (fun a b c h h' => below_next h h') (fun a => Below.refl _ _) hmx (by kernel_rfl) (Below.refl _ _).drew ?_
          iterate 29 (refine Rl.textR_run ?_ (fun ρ => ?_) (fun ρ W hS hd => ?_) ?_; rotate_left; (focus go_simp); (focus (obtain ⟨hc, hf⟩ := bcell hS; go_simp; first | exact ⟨rfl, Below.refl _ _⟩ | (refine ⟨?_, Below.refl _ _⟩; rfl))); (try go_simp))
          iterate 26 (refine Rl.textR_skip (fun ρ => ?_) ?_; (focus (first | rfl | (go_simp; done) | (go_simp; rfl))); (try go_simp))
          iterate 3 (refine Rl.textR_run ?_ (fun ρ => ?_) (fun ρ W hS hd => ?_) ?_; rotate_left; (focus go_simp); (focus (obtain ⟨hc, hf⟩ := bcell hS; go_simp; first | exact ⟨rfl, Below.refl _ _⟩ | (refine ⟨?_, Below.refl _ _⟩; rfl))); (try go_simp))
          refine Rl.textR_nil ?_
          intro ρ w1 hg hk1
          dsimp only
          have HG := Lib.hid (below_next HBr.out hg)
          clear hg hk1
          go_wp2_with fail
          exact ⟨⟨k + 1, true, by omega, rfl, rfl, ⟨fun _ => ⟨(HG0.out.1 rfl).1, fun j hj => by rcases Nat.lt_or_ge j k with h | h; exact (HG0.out.1 rfl).2 j h; rw [show j = k by omega]; exact hok⟩, fun _ => rfl⟩, HG.out⟩, by show len - (((k + 1 : Nat) : Int)).toNat < len - ((k : Int)).toNat; omega⟩
        have hd4 : ((k : Int) == 0) = false := beq_false_of_ne (by omega)
        obtain ⟨p0, p1⟩ := HPV.out (by omega)
        have hw2 : IntKind.i64.wrap ((k : Int) - 1) = ((k - 1 : Nat) : Int) := by rw [IntKind.wrap_i64]; omega
        have hix2 : ((k - 1 : Nat) : Int) < (len : Int) := by omega
        by_cases h5 : (X k).1 > (X (k - 1)).1
        case neg =>
          have hbad : ¬ okG X k := fun h => by rcases h.2.2.2 with h | h; omega; exact h5 h.1
          have hd5 : decide ((X k).1 > (X (k - 1)).1) = false := decide_eq_false h5
          go_upto_region 12 with fail
          refine Rl.wp_region_rel (fun a b => Below a.heap.size a b) wr (fun a b c h h' => below_next h h') (fun a => Below.refl _ _) hmx (by kernel_rfl) (Below.refl _ _).drew ?_
          iterate 42 (refine Rl.textR_run ?_ (fun ρ => ?_) (fun ρ W hS hd => ?_) ?_; rotate_left; (focus go_simp); (focus (obtain ⟨hc, hf⟩ := bcell hS; go_simp; first | exact ⟨rfl, Below.refl _ _⟩ | (refine ⟨?_, Below.refl _ _⟩; rfl))); (try go_simp))
          iterate 12 (refine Rl.textR_skip (fun ρ => ?_) ?_; (focus (first | rfl | (go_simp; done) | (go_simp; rfl))); (try go_simp))
          iterate 4 (refine Rl.textR_run ?_ (fun ρ => ?_) (fun ρ W hS hd => ?_) ?_; rotate_left; (focus go_simp); (focus (obtain ⟨hc, hf⟩ := bcell hS; go_simp; first | exact ⟨rfl, Below.refl _ _⟩ | (refine ⟨?_, Below.refl _ _⟩; rfl))); (try go_simp))
          refine Rl.textR_nil ?_
          intro ρ w1 hg hk1
          dsimp only
          have HG := Lib.hid (below_next HBr.out hg)
          clear hg hk1
          go_wp2_with fail
          exact ⟨⟨k + 1, false, by omega, rfl, rfl, ⟨(fun h => by cases h), fun h => absurd (h.2 k (by omega)) hbad⟩, HG.out⟩, by show len - (((k + 1 : Nat) : Int)).toNat < len - ((k : Int)).toNat; omega⟩
        have hd5 : decide ((X k).1 > (X (k - 1)).1) = true := decide_eq_true h5
        by_cases h6 : (X k).2 = (X (k - 1)).2
        case pos =>
          have hbad : ¬ okG X k := fun h => by rcases h.2.2.2 with h | h; omega; exact h.2 h6
          have hd6 : (!(X k).2 == (X (k - 1)).2) = false := by rw [h6, beq_self_eq_true]; rfl
          have hd7 : ((X k).2 != (X (k - 1)).2) = false := by simp [h6]
          clear h6
          go_upto_region 12 with fail
          refine Rl.wp_region_rel (fun a b => Below a.heap.size a b) wr (fun a b c h h' => below_next h h') (fun a => Below.refl _ _) hmx (by kernel_rfl) (Below.refl _ _).drew ?_
          iterate 58 (refine Rl.textR_run ?_ (fun ρ => ?_) (fun ρ W hS hd => ?_) ?_; rotate_left; (focus go_simp); (focus (obtain ⟨hc, hf⟩ := bcell hS; go_simp; first | exact ⟨rfl, Below.refl _ _⟩ | (refine ⟨?_, Below.refl _ _⟩; rfl))); (try go_simp))
          refine Rl.textR_nil ?_
          intro ρ w1 hg hk1
          dsimp only
          have HG := Lib.hid (below_next HBr.out hg)
          clear hg hk1
          go_wp2_with fail
          exact ⟨⟨k + 1, false, by omega, rfl, rfl, ⟨(fun h => by cases h), fun h => absurd (h.2 k (by omega)) hbad⟩, HG.out⟩, by show len - (((k + 1 : Nat) : Int)).toNat < len - ((k : Int)).toNat; omega⟩
        have hok : okG X k := ⟨h1, h2, h3, .inr ⟨h5, h6⟩⟩
        have hd6 : (!(X k).2 == (X (k - 1)).2) = true := by rw [beq_false_of_ne h6]; rfl
        have hd7 : ((X k).2 != (X (k - 1)).2) = true := by simp [h6]
        go_upto_region 12 with fail
        refine Rl.wp_region_rel (fun a b => Below a.heap.size a b) wr (fun a b c h h' => below_next h h') (fun a => Below.refl _ _) hmx (by kernel_rfl) (Below.refl _ _).drew ?_
        iterate 58 (refine Rl.textR_run ?_ (fun ρ => ?_) (fun ρ W hS hd => ?_) ?_; rotate_left; (focus go_simp); (focus (obtain ⟨hc, hf⟩ := bcell hS; go_simp; first | exact ⟨rfl, Below.refl _ _⟩ | (refine ⟨?_, Below.refl _ _⟩; rfl))); (try go_simp))
        refine Rl.textR_nil ?_
        intro ρ w1 hg hk1
        dsimp only
        have HG := Lib.hid (below_next HBr.out hg)
        clear hg hk1
        go_wp2_with fail
        exact ⟨⟨k + 1, true, by omega, rfl, rfl, ⟨fun _ => ⟨(HG0.out.1 rfl).1, fun j hj => by rcases Nat.lt_or_ge j k with h | h; exact (HG0.out.1 rfl).2 j h; rw [show j = k by omega]; exact hok⟩, fun _ => rfl⟩, HG.out⟩, by show len - (((k + 1 : Nat) : Int)).toNat < len - ((k : Int)).toNat; omega⟩
    case neg =>
      have hd : decide (k < len) = false := decide_eq_false hlt
      obtain rfl : k = len := by omega
      have HGR := Lib.hid (show g0 = true ↔ RightX X k from HG0.out.trans (goodG_right X k))
      have KO := Lib.hid (of_x (cap := xcap) (HXT.out _ HBr.out) (by omega))
      clear HG0
      go_wp2_with fail
      refine KO.out.mono ?_
      rintro e W6 ⟨u, n, rfl, hcase, hb6⟩
      have HB6 := Lib.hid (below_next HBr.out hb6)
      clear hb6 KO
      rcases hcase with ⟨hrx, rfl, S3, rfl, hS3, hu3⟩ | ⟨hnx, rfl, rfl⟩
      · obtain rfl : g0 = true := HGR.out.2 hrx
        have HU3 := Lib.hid hu3
        have HRL := Lib.hid (listX_right.1 hrx)
        clear hrx hu3 HGR
        go_wp2_with fail
        go_loopw [14] (fun i wr => ∃ j : Nat, j ≤ k ∧ i = .int .i64 j ∧ Below w.heap.size w wr ∧ USt wr S3 (listX X k)) (fun i _ => k - (intOf i).toNat)
        case atStart => exact ⟨0, by omega, rfl, HB6.out, HU3.out⟩
        case round =>
          obtain ⟨j, hj, rfl, hb, hu⟩ := hrel
          have HBr := Lib.hid hb
          have HUr := Lib.hid hu
          clear hb hu HB6 HU3
          by_cases hjl : j < k
          case neg =>
            have hd : decide (j < k) = false := decide_eq_false hjl
            go_wp2_with fail
            refine (K1.out _).mono ?_
            rintro e W7 ⟨rfl, hb7⟩
            have HB7 := Lib.hid (below_next HBr.out hb7)
            clear hb7
            go_wp2_with fail
            go_ret
            exact ⟨rfl, HB7.out⟩
          case pos =>
            have hd : decide (j < k) = true := decide_eq_true hjl
            have hix : (j : Int) < (k : Int) := by omega
            have hw1 : IntKind.i64.wrap ((j : Int) + 1) = ((j + 1 : Nat) : Int) := by rw [IntKind.wrap_i64]; omega
            obtain ⟨b, off, rfl, hbl, hc⟩ := (HXT.out _ HBr.out).2 (by omega)
            have q0 := (hc j hjl).1
            have q1 := (hc j hjl).2
            clear hc
            have hat := at_step HRL.out (k := j) (by rw [listX_len]; exact hjl)
            rw [listX_get X hjl] at hat
            have KAT := Lib.hid (fun W (hb : Below wr.heap.size wr W) => (show Calls Try.prog 16 #[.pointer (some ⟨S3, 0, none⟩), .int .i64 (X j).1] W fun e w' => e = .returned (.int .i64 (X j).2) ∧ Below W.heap.size W w' from hat ▸ at_any (HUr.out.below hb) (X j).1))
            clear hat
            go_upto_region 19 with fail
            refine Rl.wp_region_rel (fun a b => Below a.heap.size a b) wr (fun a b c h h' => below_next h h') (fun a => Below.refl _ _) hmx (by kernel_rfl) (Below.refl _ _).drew ?_
            iterate 6 (refine Rl.textR_run ?_ (fun ρ => ?_) (fun ρ W hS hd => ?_) ?_; rotate_left; (focus go_simp); (focus (obtain ⟨hc, hf⟩ := bcell hS; go_simp; first | exact ⟨rfl, Below.refl _ _⟩ | (refine ⟨?_, Below.refl _ _⟩; rfl))); (try go_simp))
            (refine Rl.textR_run ?_ (fun ρ => ?_) (fun ρ W hS hd => ?_) ?_; rotate_left; (focus go_simp); (focus (obtain ⟨hc, hf⟩ := bcell hS; go_simp; refine (KAT.out _ hS).mono ?_; rintro e w1 ⟨rfl, hb⟩; refine ⟨_, rfl, ?_, hb⟩; rfl)); (try go_simp))
            iterate 6 (refine Rl.textR_run ?_ (fun ρ => ?_) (fun ρ W hS hd => ?_) ?_; rotate_left; (focus go_simp); (focus (obtain ⟨hc, hf⟩ := bcell hS; go_simp; first | exact ⟨rfl, Below.refl _ _⟩ | (refine ⟨?_, Below.refl _ _⟩; rfl))); (try go_simp))
            refine Rl.textR_nil ?_
            intro ρ w1 hg hk1
            dsimp only
            have HG := Lib.hid (below_next HBr.out hg)
            have HU := Lib.hid (HUr.out.below hg)
            clear hg hk1 q0 q1
            go_wp2_with fail
            exact ⟨⟨j + 1, by omega, rfl, HG.out, HU.out⟩, by show k - (((j + 1 : Nat) : Int)).toNat < k - ((j : Int)).toNat; omega⟩
      · obtain rfl : g0 = false := by
          cases g0 with
          | false => rfl
          | true => exact absurd (HGR.out.1 rfl) hnx
        clear hnx HGR
        go_wp2_with fail
        go_loopw [14] (fun i wr => i = .int .i64 0 ∧ wr = W6) (fun _ _ => 0)
        case atStart => exact ⟨rfl, rfl⟩
        case round =>
          obtain ⟨rfl, hwr⟩ := hrel
          rw [hwr]
          go_wp2_with fail
          refine (K1.out _).mono ?_
          rintro e W7 ⟨rfl, hb7⟩
          have HB7 := Lib.hid (below_next HB6.out hb7)
          clear hb7
          go_wp2_with fail
          go_ret
          exact ⟨rfl, HB7.out⟩
end Go.Proofs.Ythdljigcfhjikaa
