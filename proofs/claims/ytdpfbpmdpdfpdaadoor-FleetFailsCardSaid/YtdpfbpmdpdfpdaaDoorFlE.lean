/- What is told of a node of a fleet. Condition: math/bits' table of trailing zeros lies as its text lays it. -/
import Derived.Test.YtdpfbpmdpdfpdaaDoorFlD
namespace Go.Proofs.YtdpfbpmdpdfpdaaDoor
set_option linter.unusedVariables false
open Go.ChangeShapes Go.WideShapes Go.ChangeAt Go.RowKit
attribute [local go_sem ↓] Go.wp_at_zero Go.wp_at_succ comesTo_value_eq comesTo_skip_eq comesTo_enter_eq

def nextF (f : FV) (x : N3) (k : Int) : N3 := nextI x.1 x.2.1 x.2.2 f.S f.D f.P k
/-- behind what is told: the fleet, and the error -/
def tellF (f : FV) (n k : Int) : FV × Int :=
  if ¬ (0 ≤ n ∧ n < f.ns.length) then (f, 13) else if k < 0 ∨ 4 < k then (f, 2) else (swapF { f with ns := f.ns.set n.toNat (nextF f (f.ns.getD n.toNat (0, 0, 0)) k) }, 0)
set_option maxRecDepth 100000 in
set_option maxHeartbeats 8000000 in
theorem tell_fl {w : World} {F G : Nat} {f : FV} (h : Fl w F G f) (hT : TabZ w) (hF : 1 < F) (hG : 1 < G) (hs0 : 0 ≤ f.sw ∧ f.sw ≤ 9223372036854775807) (n k : Int) :
    Calls Tryd.prog 21 #[.pointer (some ⟨F, 0, none⟩), .int .i64 n, .int .i64 k] w fun e w' => e = .returned (.int .i64 (tellF f n k).2) ∧ Fl w' F G (tellF f n k).1 ∧ Fr (fun j => j = F ∨ j = G) w w' := by
  have hmx : Tryd.prog.follows .mixedOrders = true := by kernel_rfl
  have K0 := Lib.hid (there_fl h)
  have K1 := Lib.hid (has_fl h n)
  have H := Lib.hid h
  by_cases hn : 0 ≤ n ∧ n < f.ns.length
  case neg =>
    have E : tellF f n k = (f, 13) := by unfold tellF; rw [if_pos hn]
    rw [E]
    rw [decide_eq_false hn] at K1
    clear hn h hT E
    go_enter Tryd.func21, Tryd.ntmps21
    go_wp2_with fail
    refine K0.out.mono ?_
    rintro e w' ⟨rfl, rfl⟩
    go_wp2_with fail
    refine K1.out.mono ?_
    rintro e w' ⟨rfl, rfl⟩
    go_wp2_with fail
    go_ret
    exact ⟨rfl, H.out, Fr.refl _ _⟩
  case pos =>
  rw [decide_eq_true hn] at K1
  by_cases hk : k < 0 ∨ 4 < k
  · have E : tellF f n k = (f, 2) := by unfold tellF; rw [if_neg (by simpa using hn), if_pos hk]
    rw [E]
    clear hn h hT E
    by_cases h1 : k < 0
    · have d1 : decide (k < 0) = true := decide_eq_true h1
      clear h1 hk
      go_enter Tryd.func21, Tryd.ntmps21
      go_wp2_with fail
      refine K0.out.mono ?_
      rintro e w' ⟨rfl, rfl⟩
      go_wp2_with fail
      refine K1.out.mono ?_
      rintro e w' ⟨rfl, rfl⟩
      go_wp2_with fail
      go_ret
      exact ⟨rfl, H.out, Fr.refl _ _⟩
    · have d1 : decide (k < 0) = false := decide_eq_false h1
      have d2 : decide (k > 4) = true := decide_eq_true (by omega)
      have d3 : decide (4 < k) = true := decide_eq_true (by omega)
      clear h1 hk
      go_enter Tryd.func21, Tryd.ntmps21
      go_wp2_with fail
      refine K0.out.mono ?_
      rintro e w' ⟨rfl, rfl⟩
      go_wp2_with fail
      refine K1.out.mono ?_
      rintro e w' ⟨rfl, rfl⟩
      go_wp2_with fail
      go_ret
      exact ⟨rfl, H.out, Fr.refl _ _⟩
  · obtain ⟨i, rfl⟩ : ∃ i : Nat, n = (i : Int) := ⟨n.toNat, by omega⟩
    have hi : i < f.ns.length := by omega
    have hin : (i : Int) < (f.ns.length : Int) := by omega
    have E : tellF f i k = (swapF { f with ns := f.ns.set i (nextF f (f.ns.getD i (0, 0, 0)) k) }, 0) := by unfold tellF; rw [if_neg (by simpa using hn), if_neg hk]; rfl
    rw [E]
    have d1 : decide (k < 0) = false := decide_eq_false (by omega)
    have d2 : decide (k > 4) = false := decide_eq_false (by omega)
    have d3 : decide (4 < k) = false := decide_eq_false (by omega)
    have KN := Lib.hid (fun W => show Calls Tryd.prog 62 #[nodeA (f.ns.getD i (0, 0, 0)), .agg #[.int .i64 f.S, .int .i64 f.D, .int .i64 f.P], .int .i64 k] W fun e w' => e = .returned (nodeA (nextF f (f.ns.getD i (0, 0, 0)) k)) ∧ Below W.heap.size W w' from next_any _ _ _ f.S f.D f.P k W)
    obtain ⟨n0, n1, n2⟩ := h.node hi
    have c0 := h.c0
    have c1 := h.c1
    have c2 := h.c2
    have c3 := h.c3
    have HT := Lib.hid (fun X (hX : Fr (fun j => j = F ∨ j = G) w X) => show TabZ X from ⟨Nat.lt_of_lt_of_le hT.1 hX.size, fun j hj => (World.cell?_of_block (hX.block _ hT.1 (fun e => e.elim (Nat.ne_of_lt hF) (Nat.ne_of_lt hG)))).trans (hT.2 j hj)⟩)
    have HSW := Lib.hid (fun X f' (hf : Fl X F G f') (hT : TabZ X) (hs : 0 ≤ f'.sw ∧ f'.sw ≤ 9223372036854775807) => swap_fl hf hT hF hs)
    have HSET := Lib.hid (fun X (hX : Fl X F G f) x => hX.setNode hi x)
    have HS0 := Lib.hid hs0
    clear hn hk h hT E
    generalize nextF f (f.ns.getD i (0, 0, 0)) k = y at *
    generalize f.ns.getD i (0, 0, 0) = x at *
    obtain ⟨xt, xm, xb⟩ := x
    obtain ⟨yt, ym, yb⟩ := y
    unfold nodeA at KN
    dsimp only at KN n0 n1 n2
    obtain ⟨len, hlen⟩ : ∃ l, l = f.ns.length := ⟨_, rfl⟩
    have HLEN := Lib.hid hlen
    rw [← hlen] at c3 hi hin
    clear hlen
    go_enter Tryd.func21, Tryd.ntmps21
    go_wp2_with fail
    refine K0.out.mono ?_
    rintro e w' ⟨rfl, rfl⟩
    go_wp2_with fail
    refine K1.out.mono ?_
    rintro e w' ⟨rfl, rfl⟩
    go_upto_region 7 with fail
    have hltF := H.out.lt.1
    have hltG := H.out.lt.2
    refine wp_region_grow_tail 19 (fun w' => Below w.heap.size w w') hmx (by kernel_rfl) (Below.refl _ _).drew ?_
    simp only [List.take]
    iterate 17 (refine textS_run ?_ ?_ (fun W hS => ?_) ?_; rotate_left; (focus go_simp); (focus (obtain ⟨hc, hf⟩ := bcell hS; go_simp; first | rfl | exact ⟨rfl, hS⟩ | exact hS)); (try go_simp))
    (refine textS_run ?_ ?_ (fun W hS => ?_) ?_; rotate_left; (focus go_simp); (focus (obtain ⟨hc, hf⟩ := bcell hS; go_simp; refine (KN.out W).mono ?_; rintro e w1 ⟨rfl, hb⟩; refine ⟨?_, hS.trans (hb.mono hS.size)⟩; rfl)); (try go_simp))
    (refine textS_run ?_ ?_ (fun W hS => ?_) ?_; rotate_left; (focus go_simp); (focus (obtain ⟨hc, hf⟩ := bcell hS; go_simp; first | rfl | exact ⟨rfl, hS⟩ | exact hS)); (try go_simp))
    refine textS_nil ?_
    intro w3 hb3
    have HF3 := Lib.hid (H.out.below hb3)
    have HFR3 := Lib.hid (Fr.of_below (F := fun j => j = F ∨ j = G) hb3)
    have HF4 := Lib.hid (HSET.out w3 HF3.out (yt, ym, yb))
    have HFR4 := Lib.hid (((HFR3.out.set (.inr rfl) (i * 3) (.int .i64 yt)).set (.inr rfl) (i * 3 + 1) (.int .i64 ym)).set (.inr rfl) (i * 3 + 2) (.int .i64 yb))
    obtain ⟨q0, q1, q2⟩ := HF3.out.node (k := i) (by rw [← HLEN.out]; exact hi)
    have g0 := free_of_block (i * 3) HF3.out.row
    have g1 := free_of_block (i * 3 + 1) HF3.out.row
    have g2 := free_of_block (i * 3 + 2) HF3.out.row
    clear c0 c1 c2 c3 n0 n1 n2 hb3 KN hltF hltG K0 K1 H HF3 HFR3 HSET
    dsimp only at HF4
    have KS := Lib.hid (HSW.out _ _ HF4.out (HT.out _ HFR4.out) HS0.out)
    go_wp2_with fail
    refine KS.out.mono ?_
    rintro e w5 ⟨⟨v, rfl⟩, hf, hfr⟩
    have HF5 := Lib.hid hf
    have HFR5 := Lib.hid (HFR4.out.trans hfr (fun j hj => .inl (.inl hj)))
    clear hf hfr
    go_wp2_with fail
    go_ret
    exact ⟨rfl, HF5.out, HFR5.out⟩
/-- nothing but what is told and swapped turns: nodes, rules -/
theorem tellF_keeps (f : FV) (n k : Int) : (tellF f n k).1.ns.length = f.ns.length ∧ (tellF f n k).1.S = f.S ∧ (tellF f n k).1.D = f.D ∧ (tellF f n k).1.P = f.P ∧ card (tellF f n k).1.sp = card f.sp := by
  unfold tellF
  split
  · exact ⟨rfl, rfl, rfl, rfl, rfl⟩
  · split
    · exact ⟨rfl, rfl, rfl, rfl, rfl⟩
    · have := swapN_ns 64 { f with ns := f.ns.set n.toNat (nextF f (f.ns.getD n.toNat (0, 0, 0)) k) }
      refine ⟨(congrArg List.length this.1).trans List.length_set, this.2.1, this.2.2.1, this.2.2.2.1, this.2.2.2.2⟩
theorem swapN_sw : ∀ (k : Nat) (f : FV), 0 ≤ f.sw ∧ f.sw ≤ 9223372036854775807 → 0 ≤ (swapN k f).sw ∧ (swapN k f).sw ≤ 9223372036854775807
  | 0, f, h => h
  | k + 1, f, h => by
    unfold swapN
    split
    · exact h
    · refine swapN_sw k _ ?_
      show 0 ≤ (if f.sw < 9223372036854775807 then f.sw + 1 else f.sw) ∧ (if f.sw < 9223372036854775807 then f.sw + 1 else f.sw) ≤ 9223372036854775807
      split <;> omega
theorem tellF_sw (f : FV) (n k : Int) (h : 0 ≤ f.sw ∧ f.sw ≤ 9223372036854775807) : 0 ≤ (tellF f n k).1.sw ∧ (tellF f n k).1.sw ≤ 9223372036854775807 := by
  unfold tellF
  split
  · exact h
  · split
    · exact h
    · exact swapN_sw 64 _ h
end Go.Proofs.YtdpfbpmdpdfpdaaDoor
