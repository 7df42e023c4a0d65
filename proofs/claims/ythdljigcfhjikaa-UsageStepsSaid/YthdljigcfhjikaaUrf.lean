/- Levels (layer 10): right, Of over steps that come in. Condition: the lengths' bounds. -/
import Derived.Test.YthdljigcfhjikaaUre
namespace Go.Proofs.Ythdljigcfhjikaa
set_option linter.unusedVariables false
open Go.ChangeShapes Go.WideShapes Go.ChangeAt Go.RowKit
attribute [local go_sem ↓] Go.wp_at_zero Go.wp_at_succ comesTo_value_eq comesTo_skip_eq comesTo_enter_eq Rl.comesToR_value_eq Rl.comesToR_skip_eq Rl.comesToR_enter_eq

set_option maxRecDepth 100000 in
set_option maxHeartbeats 8000000 in
theorem right_steps {w : World} {ad : Option Addr} {len cap : Nat} {X : Nat → Int × Int} (h : StepsX w ad len X) :
    Calls Try.prog 70 #[.slice ad len cap] w fun e w' => ∃ r : Bool, e = .returned (.bool r) ∧ (r = true ↔ RightX X len) ∧ Below w.heap.size w w' := by
  have hmx : Try.prog.follows .mixedOrders = true := by kernel_rfl
  have HX := Lib.hid (fun W (hb : Below w.heap.size w W) => h.below hb)
  have hlen := h.1
  by_cases h0 : len = 0
  · subst h0
    go_enter Try.func70, Try.ntmps70
    go_wp2_with fail
    go_ret
    exact ⟨false, rfl, by simp only [Bool.false_eq_true, false_iff]; exact fun hh => absurd hh.1 (by omega), Below.refl _ _⟩
  have hp : 0 < len := by omega
  obtain ⟨b, off, rfl, hbw, hrow⟩ := h.2 hp
  have hq0 : ((len : Int) == 0) = false := beq_false_of_ne (by omega)
  have r0 := (hrow 0 hp).1
  rw [Nat.zero_mul, Nat.add_zero] at r0
  have rl := (hrow (len - 1) (by omega)).1
  have hix0 : (0 : Int) < (len : Int) := by omega
  have hixl : ((len : Int) - 1) < (len : Int) := by omega
  have hwl : IntKind.i64.wrap ((len : Int) - 1) = ((len - 1 : Nat) : Int) := by rw [IntKind.wrap_i64]; omega
  have hix1 : ((len - 1 : Nat) : Int) < (len : Int) := by omega
  clear h hrow
  by_cases hx0 : (X 0).1 = 0
  case neg =>
    have hd : ((X 0).1 == 0) = false := beq_false_of_ne hx0
    go_enter Try.func70, Try.ntmps70
    go_wp2_with fail
    go_ret
    exact ⟨false, rfl, by simp only [Bool.false_eq_true, false_iff]; exact fun hh => hx0 hh.2.1, Below.refl _ _⟩
  have hd : ((X 0).1 == 0) = true := beq_iff_eq.2 hx0
  by_cases hxl : (X (len - 1)).1 ≥ 1099511627776
  case pos =>
    have hd2 : decide ((X (len - 1)).1 ≥ 1099511627776) = true := decide_eq_true hxl
    go_enter Try.func70, Try.ntmps70
    go_wp2_with fail
    go_ret
    exact ⟨false, rfl, by simp only [Bool.false_eq_true, false_iff]; exact fun hh => absurd hh.2.2.1 (by omega), Below.refl _ _⟩
  have hd2 : decide ((X (len - 1)).1 ≥ 1099511627776) = false := decide_eq_false hxl
  go_enter Try.func70, Try.ntmps70
  go_wp2_with fail
  clear r0 rl hix0 hixl hwl hix1 hd hd2
  go_loopw [27] (fun i wr => ∃ k : Nat, k ≤ len ∧ i = .int .i64 k ∧ (∀ j, j < k → StepOk X j) ∧ Below w.heap.size w wr) (fun i _ => len - (intOf i).toNat)
  case atStart => exact ⟨0, by omega, rfl, fun j hj => by omega, Below.refl _ _⟩
  case round =>
    obtain ⟨k, hk, rfl, hkk, hb⟩ := hrel
    have HK := Lib.hid hkk
    have HB := Lib.hid hb
    clear hkk hb
    by_cases hlt : k < len
    case neg =>
      have hd : decide (k < len) = false := decide_eq_false hlt
      go_wp2_with fail
      go_ret
      exact ⟨true, rfl, by simp only [true_iff]; exact ⟨hp, hx0, by omega, fun j hj => HK.out j (by omega)⟩, HB.out⟩
    case pos =>
      have hd : decide (k < len) = true := decide_eq_true hlt
      have hix : (k : Int) < (len : Int) := by omega
      have hw1 : IntKind.i64.wrap ((k : Int) + 1) = ((k + 1 : Nat) : Int) := by rw [IntKind.wrap_i64]; omega
      obtain ⟨b', off', e, hbl, hc⟩ := (HX.out wr HB.out).2 hp
      cases e
      have q0 := (hc k hlt).1
      have q1 := (hc k hlt).2
      have hpv : 0 < k → wr.cell? ⟨b, off + (k - 1) * 2, none⟩ = some (.int .i64 (X (k - 1)).1) ∧ wr.cell? ⟨b, off + (k - 1) * 2 + 1, none⟩ = some (.int .i64 (X (k - 1)).2) := fun h => hc (k - 1) (by omega)
      have HPV := Lib.hid hpv
      have hbA := below_alloc (Below.refl _ wr) (.cells #[.int .i64 (X k).1, .int .i64 (X k).2] 60)
      have nA := World.alloc_heap_new wr (.cells #[.int .i64 (X k).1, .int .i64 (X k).2] 60)
      have HBV := Lib.hid (below_next HB.out hbA)
      have hnA := (Array.getElem?_eq_some_iff.1 nA).1
      clear hc hpv
      go_upto_region 6 with fail
      have a0 := cell_of_block (o := 0) nA rfl
      have a1 := cell_of_block (o := 1) nA rfl
      have HPW := Lib.hid (show 0 < k → (wr.alloc (.cells #[.int .i64 (X k).1, .int .i64 (X k).2] 60)).cell? ⟨b, off + (k - 1) * 2, none⟩ = some (.int .i64 (X (k - 1)).1) ∧ (wr.alloc (.cells #[.int .i64 (X k).1, .int .i64 (X k).2] 60)).cell? ⟨b, off + (k - 1) * 2 + 1, none⟩ = some (.int .i64 (X (k - 1)).2) from fun h => ⟨(hbA.cell (p := ⟨b, off + (k - 1) * 2, none⟩) hbl).trans (HPV.out h).1, (hbA.cell (p := ⟨b, off + (k - 1) * 2 + 1, none⟩) hbl).trans (HPV.out h).2⟩)
      have hbV : b < (wr.alloc (.cells #[.int .i64 (X k).1, .int .i64 (X k).2] 60)).heap.size := Nat.lt_of_lt_of_le hbl hbA.size
      clear nA hbA q0 q1 HPV
      generalize wr.alloc (.cells #[.int .i64 (X k).1, .int .i64 (X k).2] 60) = V at *
      by_cases hbd : boundU (X k).2 = (X k).2
      case neg =>
        have hbad : ¬ StepOk X k := fun hh => hbd hh.1
        have hne2 : ¬ (X k).2 = boundU (X k).2 := fun e => hbd e.symm
        have hne : (!(X k).2 == boundU (X k).2) = true := by rw [beq_false_of_ne (fun e => hbd e.symm)]; rfl
        refine Rl.wp_region_rel (fun a b => Below a.heap.size a b) V (fun a b c h h' => below_next h h') (fun a => Below.refl _ _) hmx (by kernel_rfl) (Below.refl _ _).drew ?_
        iterate 4 (refine Rl.textR_run ?_ (fun ρ => ?_) (fun ρ W hS hd => ?_) ?_; rotate_left; (focus go_simp); (focus (obtain ⟨hc, hf⟩ := bcell hS; go_simp; first | exact ⟨rfl, Below.refl _ _⟩ | (refine ⟨?_, Below.refl _ _⟩; rfl))); (try go_simp))
        (refine Rl.textR_run ?_ (fun ρ => ?_) (fun ρ W hS hd => ?_) ?_; rotate_left; (focus go_simp); (focus (obtain ⟨hc, hf⟩ := bcell hS; go_simp; refine (bound_any (X k).2 _).mono ?_; rintro e w1 ⟨rfl, rfl⟩; refine ⟨_, rfl, ?_, Below.refl _ _⟩; rfl)); (try go_simp))
        iterate 2 (refine Rl.textR_run ?_ (fun ρ => ?_) (fun ρ W hS hd => ?_) ?_; rotate_left; (focus go_simp); (focus (obtain ⟨hc, hf⟩ := bcell hS; go_simp; first | exact ⟨rfl, Below.refl _ _⟩ | (refine ⟨?_, Below.refl _ _⟩; rfl))); (try go_simp))
        iterate 24 (refine Rl.textR_skip (fun ρ => ?_) ?_; (focus (first | rfl | (go_simp; done) | (go_simp; rfl))); (try go_simp))
        (refine Rl.textR_run ?_ (fun ρ => ?_) (fun ρ W hS hd => ?_) ?_; rotate_left; (focus go_simp); (focus (obtain ⟨hc, hf⟩ := bcell hS; go_simp; first | exact ⟨rfl, Below.refl _ _⟩ | (refine ⟨?_, Below.refl _ _⟩; rfl))); (try go_simp))
        refine Rl.textR_nil ?_
        intro ρ w1 hg hk1
        dsimp only
        go_wp2_with fail
        go_ret
        first | exact ⟨false, rfl, by simp only [Bool.false_eq_true, false_iff]; exact fun hh => hbad (hh.2.2.2 k hlt), below_next HBV.out hg⟩ | exact .inl ⟨rfl, fun hh => hbad (hh.2.2.2 k hlt), below_next HBV.out hg⟩
      have hne : (!(X k).2 == boundU (X k).2) = false := by rw [hbd, beq_self_eq_true]; rfl
      by_cases hk0 : 0 < k
      case neg =>
        have hgood : StepOk X k := ⟨hbd, .inl (by omega)⟩
        have hdk : decide ((k : Int) > 0) = false := decide_eq_false (by omega)
        refine Rl.wp_region_rel (fun a b => Below a.heap.size a b) V (fun a b c h h' => below_next h h') (fun a => Below.refl _ _) hmx (by kernel_rfl) (Below.refl _ _).drew ?_
        iterate 4 (refine Rl.textR_run ?_ (fun ρ => ?_) (fun ρ W hS hd => ?_) ?_; rotate_left; (focus go_simp); (focus (obtain ⟨hc, hf⟩ := bcell hS; go_simp; first | exact ⟨rfl, Below.refl _ _⟩ | (refine ⟨?_, Below.refl _ _⟩; rfl))); (try go_simp))
        (refine Rl.textR_run ?_ (fun ρ => ?_) (fun ρ W hS hd => ?_) ?_; rotate_left; (focus go_simp); (focus (obtain ⟨hc, hf⟩ := bcell hS; go_simp; refine (bound_any (X k).2 _).mono ?_; rintro e w1 ⟨rfl, rfl⟩; refine ⟨_, rfl, ?_, Below.refl _ _⟩; rfl)); (try go_simp))
        iterate 5 (refine Rl.textR_run ?_ (fun ρ => ?_) (fun ρ W hS hd => ?_) ?_; rotate_left; (focus go_simp); (focus (obtain ⟨hc, hf⟩ := bcell hS; go_simp; first | exact ⟨rfl, Below.refl _ _⟩ | (refine ⟨?_, Below.refl _ _⟩; rfl))); (try go_simp))
        iterate 20 (refine Rl.textR_skip (fun ρ => ?_) ?_; (focus (first | rfl | (go_simp; done) | (go_simp; rfl))); (try go_simp))
        iterate 2 (refine Rl.textR_run ?_ (fun ρ => ?_) (fun ρ W hS hd => ?_) ?_; rotate_left; (focus go_simp); (focus (obtain ⟨hc, hf⟩ := bcell hS; go_simp; first | exact ⟨rfl, Below.refl _ _⟩ | (refine ⟨?_, Below.refl _ _⟩; rfl))); (try go_simp))
        refine Rl.textR_nil ?_
        intro ρ w1 hg hk1
        dsimp only
        have HG := Lib.hid hg
        clear hg hk1
        go_wp2_with fail
        exact ⟨⟨k + 1, by omega, rfl, fun j hj => by rcases Nat.lt_or_ge j k with h | h; exact HK.out j h; rw [show j = k by omega]; exact hgood, below_next HBV.out HG.out⟩, by show len - (((k + 1 : Nat) : Int)).toNat < len - ((k : Int)).toNat; omega⟩
      have hdk : decide ((k : Int) > 0) = true := decide_eq_true (by omega)
      obtain ⟨p0, p1⟩ := HPW.out hk0
      have hw2 : IntKind.i64.wrap ((k : Int) - 1) = ((k - 1 : Nat) : Int) := by rw [IntKind.wrap_i64]; omega
      have hix2 : ((k - 1 : Nat) : Int) < (len : Int) := by omega
      by_cases hle : (X k).1 ≤ (X (k - 1)).1
      case pos =>
        have hbad : ¬ StepOk X k := fun hh => by rcases hh.2 with h | h <;> omega
        have hdl : decide ((X k).1 ≤ (X (k - 1)).1) = true := decide_eq_true hle
        refine Rl.wp_region_rel (fun a b => Below a.heap.size a b) V (fun a b c h h' => below_next h h') (fun a => Below.refl _ _) hmx (by kernel_rfl) (Below.refl _ _).drew ?_
        iterate 4 (refine Rl.textR_run ?_ (fun ρ => ?_) (fun ρ W hS hd => ?_) ?_; rotate_left; (focus go_simp); (focus (obtain ⟨hc, hf⟩ := bcell hS; go_simp; first | exact ⟨rfl, Below.refl _ _⟩ | (refine ⟨?_, Below.refl _ _⟩; rfl))); (try go_simp))
        (refine Rl.textR_run ?_ (fun ρ => ?_) (fun ρ W hS hd => ?_) ?_; rotate_left; (focus go_simp); (focus (obtain ⟨hc, hf⟩ := bcell hS; go_simp; refine (bound_any (X k).2 _).mono ?_; rintro e w1 ⟨rfl, rfl⟩; refine ⟨_, rfl, ?_, Below.refl _ _⟩; rfl)); (try go_simp))
        iterate 15 (refine Rl.textR_run ?_ (fun ρ => ?_) (fun ρ W hS hd => ?_) ?_; rotate_left; (focus go_simp); (focus (obtain ⟨hc, hf⟩ := bcell hS; go_simp; first | exact ⟨rfl, Below.refl _ _⟩ | (refine ⟨?_, Below.refl _ _⟩; rfl))); (try go_simp))
        iterate 9 (refine Rl.textR_skip (fun ρ => ?_) ?_; (focus (first | rfl | (go_simp; done) | (go_simp; rfl))); (try go_simp))
        iterate 3 (refine Rl.textR_run ?_ (fun ρ => ?_) (fun ρ W hS hd => ?_) ?_; rotate_left; (focus go_simp); (focus (obtain ⟨hc, hf⟩ := bcell hS; go_simp; first | exact ⟨rfl, Below.refl _ _⟩ | (refine ⟨?_, Below.refl _ _⟩; rfl))); (try go_simp))
        refine Rl.textR_nil ?_
        intro ρ w1 hg hk1
        dsimp only
        go_wp2_with fail
        go_ret
        first | exact ⟨false, rfl, by simp only [Bool.false_eq_true, false_iff]; exact fun hh => hbad (hh.2.2.2 k hlt), below_next HBV.out hg⟩ | exact .inl ⟨rfl, fun hh => hbad (hh.2.2.2 k hlt), below_next HBV.out hg⟩
      have hdl : decide ((X k).1 ≤ (X (k - 1)).1) = false := decide_eq_false hle
      by_cases heq : (X k).2 = (X (k - 1)).2
      case pos =>
        have hbad : ¬ StepOk X k := fun hh => by rcases hh.2 with h | h; omega; exact h.2 heq.symm
        have hde : ((X k).2 == (X (k - 1)).2) = true := beq_iff_eq.2 heq
        clear heq
        refine Rl.wp_region_rel (fun a b => Below a.heap.size a b) V (fun a b c h h' => below_next h h') (fun a => Below.refl _ _) hmx (by kernel_rfl) (Below.refl _ _).drew ?_
        iterate 4 (refine Rl.textR_run ?_ (fun ρ => ?_) (fun ρ W hS hd => ?_) ?_; rotate_left; (focus go_simp); (focus (obtain ⟨hc, hf⟩ := bcell hS; go_simp; first | exact ⟨rfl, Below.refl _ _⟩ | (refine ⟨?_, Below.refl _ _⟩; rfl))); (try go_simp))
        (refine Rl.textR_run ?_ (fun ρ => ?_) (fun ρ W hS hd => ?_) ?_; rotate_left; (focus go_simp); (focus (obtain ⟨hc, hf⟩ := bcell hS; go_simp; refine (bound_any (X k).2 _).mono ?_; rintro e w1 ⟨rfl, rfl⟩; refine ⟨_, rfl, ?_, Below.refl _ _⟩; rfl)); (try go_simp))
        iterate 27 (refine Rl.textR_run ?_ (fun ρ => ?_) (fun ρ W hS hd => ?_) ?_; rotate_left; (focus go_simp); (focus (obtain ⟨hc, hf⟩ := bcell hS; go_simp; first | exact ⟨rfl, Below.refl _ _⟩ | (refine ⟨?_, Below.refl _ _⟩; rfl))); (try go_simp))
        refine Rl.textR_nil ?_
        intro ρ w1 hg hk1
        dsimp only
        go_wp2_with fail
        go_ret
        first | exact ⟨false, rfl, by simp only [Bool.false_eq_true, false_iff]; exact fun hh => hbad (hh.2.2.2 k hlt), below_next HBV.out hg⟩ | exact .inl ⟨rfl, fun hh => hbad (hh.2.2.2 k hlt), below_next HBV.out hg⟩
      have hgood : StepOk X k := ⟨hbd, .inr ⟨by omega, fun e => heq e.symm⟩⟩
      have hde : ((X k).2 == (X (k - 1)).2) = false := beq_false_of_ne heq
      clear heq
      refine Rl.wp_region_rel (fun a b => Below a.heap.size a b) V (fun a b c h h' => below_next h h') (fun a => Below.refl _ _) hmx (by kernel_rfl) (Below.refl _ _).drew ?_
      iterate 4 (refine Rl.textR_run ?_ (fun ρ => ?_) (fun ρ W hS hd => ?_) ?_; rotate_left; (focus go_simp); (focus (obtain ⟨hc, hf⟩ := bcell hS; go_simp; first | exact ⟨rfl, Below.refl _ _⟩ | (refine ⟨?_, Below.refl _ _⟩; rfl))); (try go_simp))
      (refine Rl.textR_run ?_ (fun ρ => ?_) (fun ρ W hS hd => ?_) ?_; rotate_left; (focus go_simp); (focus (obtain ⟨hc, hf⟩ := bcell hS; go_simp; refine (bound_any (X k).2 _).mono ?_; rintro e w1 ⟨rfl, rfl⟩; refine ⟨_, rfl, ?_, Below.refl _ _⟩; rfl)); (try go_simp))
      iterate 27 (refine Rl.textR_run ?_ (fun ρ => ?_) (fun ρ W hS hd => ?_) ?_; rotate_left; (focus go_simp); (focus (obtain ⟨hc, hf⟩ := bcell hS; go_simp; first | exact ⟨rfl, Below.refl _ _⟩ | (refine ⟨?_, Below.refl _ _⟩; rfl))); (try go_simp))
      refine Rl.textR_nil ?_
      intro ρ w1 hg hk1
      dsimp only
      have HG := Lib.hid hg
      clear hg hk1
      go_wp2_with fail
      exact ⟨⟨k + 1, by omega, rfl, fun j hj => by rcases Nat.lt_or_ge j k with h | h; exact HK.out j h; rw [show j = k by omega]; exact hgood, below_next HBV.out HG.out⟩, by show len - (((k + 1 : Nat) : Int)).toNat < len - ((k : Int)).toNat; omega⟩
end Go.Proofs.Ythdljigcfhjikaa
