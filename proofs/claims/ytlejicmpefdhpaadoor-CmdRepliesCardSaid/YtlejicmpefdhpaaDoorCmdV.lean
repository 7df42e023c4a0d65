/- Replies: their bytes, laid and read (layer 22). Its condition: errors.errorType reads as the program's text lays it. -/
import Derived.Test.YtlejicmpefdhpaaDoorCmdQ
namespace Go.Proofs.YtlejicmpefdhpaaDoor
set_option linter.unusedVariables false
open Go.ChangeShapes Go.WideShapes Go.ChangeAt Go.RowKit
attribute [local go_sem ↓] Go.wp_at_zero Go.wp_at_succ comesTo_value_eq comesTo_skip_eq comesTo_enter_eq Rl.comesToR_value_eq Rl.comesToR_skip_eq Rl.comesToR_enter_eq

def putR (a b c : Int) : List Int := putI a ++ putI b ++ putI c
/-- what is read of bytes: the three numbers, and what is left -/
def r1R (bs : List Int) : CS × Int := smallF ⟨bs, 0⟩ 99
def r2R (bs : List Int) : CS × Int := smallF (r1R bs).1 1073741824
def r3R (bs : List Int) : CS × Int := smallF (r2R bs).1 1099511627776
def okR (bs : List Int) : Bool := endF (r3R bs).1 == 0
def gR (bs : List Int) : Int × Int × Int := if okR bs = true then ((r1R bs).2, (r2R bs).2, (r3R bs).2) else (0, 0, 0)
def codeR (bs : List Int) : Int := if okR bs = true then 0 else 11
def goodR (a b c : Int) : Bool := decide (0 ≤ a ∧ a ≤ 99 ∧ 0 ≤ b ∧ b ≤ 1073741824 ∧ 0 ≤ c ∧ c ≤ 1099511627776)
theorem smallF_off {st : CS} (h : st.bad ≠ 0) {most : Int} (hm : 0 ≤ most) : smallF st most = (st, 0) := by
  unfold smallF
  rw [intF_off h]
  rw [if_neg (by simp only; omega)]
theorem smallF_out {n most : Int} (hn : -9223372036854775808 ≤ n ∧ n ≤ 9223372036854775807) (h : ¬ (0 ≤ n ∧ n ≤ most)) (ys : List Int) : smallF ⟨putI n ++ ys, 0⟩ most = (⟨[], 2⟩, 0) := by
  unfold smallF
  rw [intF_put hn]
  rw [if_pos (by simp only; omega)]
  rfl
theorem okR_put {a b c : Int} (ha : -9223372036854775808 ≤ a ∧ a ≤ 9223372036854775807) (hb : -9223372036854775808 ≤ b ∧ b ≤ 9223372036854775807) (hc : -9223372036854775808 ≤ c ∧ c ≤ 9223372036854775807) :
    okR (putR a b c) = goodR a b c ∧ (goodR a b c = true → gR (putR a b c) = (a, b, c)) := by
  have e0 : putR a b c = putI a ++ (putI b ++ (putI c ++ [])) := by unfold putR; simp
  by_cases h1 : 0 ≤ a ∧ a ≤ 99
  · have e1 : r1R (putR a b c) = (⟨putI b ++ (putI c ++ []), 0⟩, a) := by unfold r1R; rw [e0, smallF_put h1.1 h1.2 ha.2]
    by_cases h2 : 0 ≤ b ∧ b ≤ 1073741824
    · have e2 : r2R (putR a b c) = (⟨putI c ++ [], 0⟩, b) := by unfold r2R; rw [e1, smallF_put h2.1 h2.2 hb.2]
      by_cases h3 : 0 ≤ c ∧ c ≤ 1099511627776
      · have e3 : r3R (putR a b c) = (⟨[], 0⟩, c) := by unfold r3R; rw [e2, smallF_put h3.1 h3.2 hc.2]
        have hg : goodR a b c = true := decide_eq_true ⟨h1.1, h1.2, h2.1, h2.2, h3.1, h3.2⟩
        have ho : okR (putR a b c) = true := by unfold okR; rw [e3]; rfl
        exact ⟨by rw [hg, ho], fun _ => by unfold gR; rw [ho, if_pos rfl, e1, e2, e3]⟩
      · have e3 : r3R (putR a b c) = (⟨[], 2⟩, 0) := by unfold r3R; rw [e2, smallF_out hc h3]
        have hg : goodR a b c = false := decide_eq_false (fun h => h3 h.2.2.2.2)
        exact ⟨by rw [hg]; unfold okR; rw [e3]; rfl, fun h => by rw [hg] at h; cases h⟩
    · have e2 : r2R (putR a b c) = (⟨[], 2⟩, 0) := by unfold r2R; rw [e1, smallF_out hb h2]
      have e3 : r3R (putR a b c) = (⟨[], 2⟩, 0) := by unfold r3R; rw [e2]; exact smallF_off (by decide) (by decide)
      have hg : goodR a b c = false := decide_eq_false (fun h => h2 ⟨h.2.2.1, h.2.2.2.1⟩)
      exact ⟨by rw [hg]; unfold okR; rw [e3]; rfl, fun h => by rw [hg] at h; cases h⟩
  · have e1 : r1R (putR a b c) = (⟨[], 2⟩, 0) := by unfold r1R; rw [e0, smallF_out ha h1]
    have e2 : r2R (putR a b c) = (⟨[], 2⟩, 0) := by unfold r2R; rw [e1]; exact smallF_off (by decide) (by decide)
    have e3 : r3R (putR a b c) = (⟨[], 2⟩, 0) := by unfold r3R; rw [e2]; exact smallF_off (by decide) (by decide)
    have hg : goodR a b c = false := decide_eq_false (fun h => h1 ⟨h.1, h.2.1⟩)
    exact ⟨by rw [hg]; unfold okR; rw [e3]; rfl, fun h => by rw [hg] at h; cases h⟩
theorem smallF_back {xs : List Int} {st : CS} {v most : Int} (hb : ∀ x ∈ xs, 0 ≤ x ∧ x ≤ 255) (h : smallF ⟨xs, 0⟩ most = (st, v)) (h0 : st.bad = 0) : xs = putI v ++ st.xs ∧ (∀ x ∈ st.xs, 0 ≤ x ∧ x ≤ 255) := by
  unfold smallF at h
  have hr := intF_rest hb
  rcases hi : intF ⟨xs, 0⟩ with ⟨s1, n⟩
  rw [hi] at h hr
  simp only at h hr
  split at h
  · injection h with e1 e2
    rw [← e1] at h0
    unfold failF at h0
    split at h0
    · simp at h0
    · rename_i hn; exact absurd h0 hn
  · injection h with e1 e2
    subst e1 e2
    obtain ⟨ys, bd⟩ := s1
    simp only at h0
    subst h0
    exact ⟨intF_back hb hi, hr⟩
theorem smallF_bad0 {st : CS} {most : Int} (hm : 0 ≤ most) (h : (smallF st most).1.bad = 0) : st.bad = 0 := by
  refine Classical.byContradiction fun hn => ?_
  rw [smallF_off hn hm] at h
  exact hn h
theorem okR_back {bs : List Int} (hb : ∀ x ∈ bs, 0 ≤ x ∧ x ≤ 255) (h : okR bs = true) : putR (r1R bs).2 (r2R bs).2 (r3R bs).2 = bs := by
  unfold okR at h
  rw [beq_iff_eq] at h
  have h3 := endF_ok h
  have b3 : (r3R bs).1.bad = 0 := by rw [h3]
  have b2 : (r2R bs).1.bad = 0 := smallF_bad0 (by decide) b3
  have b1 : (r1R bs).1.bad = 0 := smallF_bad0 (by decide) b2
  obtain ⟨e1, m1⟩ := smallF_back (st := (r1R bs).1) (v := (r1R bs).2) hb rfl b1
  have k1 : (r1R bs).1 = ⟨(r1R bs).1.xs, 0⟩ := by rw [← b1]
  obtain ⟨e2, m2⟩ := smallF_back (xs := (r1R bs).1.xs) (st := (r2R bs).1) (v := (r2R bs).2) (most := 1073741824) m1 (by rw [← k1]; rfl) b2
  have k2 : (r2R bs).1 = ⟨(r2R bs).1.xs, 0⟩ := by rw [← b2]
  obtain ⟨e3, _⟩ := smallF_back (xs := (r2R bs).1.xs) (st := (r3R bs).1) (v := (r3R bs).2) (most := 1099511627776) m2 (by rw [← k2]; rfl) b3
  have k3 : (r3R bs).1.xs = [] := by rw [h3]
  unfold putR
  rw [List.append_assoc]
  rw [k3, List.append_nil] at e3
  rw [← e3, ← e2, ← e1]

def repC (a b c : Int) : Array Value := #[.int .i64 a, .int .i64 b, .int .i64 c]
set_option maxRecDepth 100000 in
theorem putreply_any {a b c : Int} (ha : -9223372036854775808 ≤ a ∧ a ≤ 9223372036854775807) (hb : -9223372036854775808 ≤ b ∧ b ≤ 9223372036854775807) (hc : -9223372036854775808 ≤ c ∧ c ≤ 9223372036854775807) (w : World) :
    Calls Tryd.prog 20 #[.agg #[.int .i64 a, .int .i64 b, .int .i64 c]] w fun e w' => ∃ u, e = .returned u ∧ TxtAt w' u (putR a b c) ∧ Below w.heap.size w w' := by
  have hmx : Tryd.prog.follows .mixedOrders = true := by kernel_rfl
  have hla := putI_len ha
  have hlb := putI_len hb
  have HLA := Lib.hid hla
  have HLB := Lib.hid hlb
  have KP := Lib.hid (fun (W : World) (v : Value) (xs : List Int) (h : TxtAt W v xs) (hl : xs.length ≤ 1099511627776) (n : Int) (hn : -9223372036854775808 ≤ n ∧ n ≤ 9223372036854775807) => putint_any h hl hn)
  have HA := Lib.hid ha
  have HB := Lib.hid hb
  have HC := Lib.hid hc
  clear hla hlb ha hb hc
  go_enter Tryd.func20, Tryd.ntmps20
  go_upto_region 1 with fail
  have hA1 := below_alloc (Below.refl _ w) (.cells #[.int .i64 a, .int .i64 b, .int .i64 c] 44)
  have hN1 := World.alloc_heap_new w (.cells #[.int .i64 a, .int .i64 b, .int .i64 c] 44)
  generalize w.alloc (.cells #[.int .i64 a, .int .i64 b, .int .i64 c] 44) = U at *
  have HU := Lib.hid hA1
  have HX := Lib.hid (fun (W : World) (h : Below U.heap.size U W) => (h.block _ (Array.getElem?_eq_some_iff.1 hN1).1).trans hN1)
  have H0 := Lib.hid (fun (W : World) (h : Below U.heap.size U W) => cell_of_block (o := 0) (HX.out W h) rfl)
  have H1 := Lib.hid (fun (W : World) (h : Below U.heap.size U W) => cell_of_block (o := 1) (HX.out W h) rfl)
  have H2 := Lib.hid (fun (W : World) (h : Below U.heap.size U W) => cell_of_block (o := 2) (HX.out W h) rfl)
  clear hA1 hN1
  refine Rl.wp_region_rel (fun a b => Below a.heap.size a b) U (fun a b c h h' => below_next h h') (fun a => Below.refl _ _) hmx (by kernel_rfl) (Below.refl _ _).drew ?_
  (refine Rl.textR_run ?_ (fun ρ => ?_) (fun ρ W hS hd => ?_) ?_; rotate_left; (focus go_simp); (focus (obtain ⟨hc, hf⟩ := bcell hS; go_simp; first | exact ⟨rfl, Below.refl _ _⟩ | (refine ⟨?_, Below.refl _ _⟩; rfl))); (try go_simp))
  (refine Rl.textR_run ?_ (fun ρ => ?_) (fun ρ W hS hd => ?_) ?_; rotate_left; (focus go_simp); (focus (have hfact := H0.out W hS; go_simp; first | exact ⟨rfl, Below.refl _ _⟩ | (refine ⟨?_, Below.refl _ _⟩; rfl))); (try go_simp))
  refine Rl.textR_rel 5 (fun v w => TxtAt w v (putI a)) rfl (fun v w w' hg h => h.below hg) (fun ρ => ?_) (fun ρ W hS hd => ?_) ?_
  · go_simp
  · go_simp
    refine (KP.out W _ [] (.inr ⟨rfl, none, 0, rfl, fun _ => rfl⟩) (by decide) a HA.out).mono ?_
    rintro e w1 ⟨u, rfl, ho, hb⟩
    exact ⟨u, rfl, ho.at, hb⟩
  (try go_simp)
  (refine Rl.textR_run ?_ (fun ρ => ?_) (fun ρ W hS hd => ?_) ?_; rotate_left; (focus go_simp); (focus (obtain ⟨hc, hf⟩ := bcell hS; go_simp; first | exact ⟨rfl, Below.refl _ _⟩ | (refine ⟨?_, Below.refl _ _⟩; rfl))); (try go_simp))
  (refine Rl.textR_run ?_ (fun ρ => ?_) (fun ρ W hS hd => ?_) ?_; rotate_left; (focus go_simp); (focus (have hfact := H1.out W hS; go_simp; first | exact ⟨rfl, Below.refl _ _⟩ | (refine ⟨?_, Below.refl _ _⟩; rfl))); (try go_simp))
  refine Rl.textR_rel 8 (fun v w => TxtAt w v (putI a ++ putI b)) rfl (fun v w w' hg h => h.below hg) (fun ρ => ?_) (fun ρ W hS hd => ?_) ?_
  · go_simp
  · have ht := hd (5, fun v w => TxtAt w v (putI a)) (by simp) (show (5 : Nat) ∈ _ by decide)
    simp only at ht
    go_simp
    refine (KP.out W _ _ ht (by have := HLA.out; omega) b HB.out).mono ?_
    rintro e w1 ⟨u, rfl, ho, hb⟩
    exact ⟨u, rfl, ho.at, hb⟩
  (try go_simp)
  (refine Rl.textR_run ?_ (fun ρ => ?_) (fun ρ W hS hd => ?_) ?_; rotate_left; (focus go_simp); (focus (obtain ⟨hc, hf⟩ := bcell hS; go_simp; first | exact ⟨rfl, Below.refl _ _⟩ | (refine ⟨?_, Below.refl _ _⟩; rfl))); (try go_simp))
  (refine Rl.textR_run ?_ (fun ρ => ?_) (fun ρ W hS hd => ?_) ?_; rotate_left; (focus go_simp); (focus (have hfact := H2.out W hS; go_simp; first | exact ⟨rfl, Below.refl _ _⟩ | (refine ⟨?_, Below.refl _ _⟩; rfl))); (try go_simp))
  refine Rl.textR_rel 11 (fun v w => TxtAt w v (putR a b c)) rfl (fun v w w' hg h => h.below hg) (fun ρ => ?_) (fun ρ W hS hd => ?_) ?_
  · go_simp
  · have ht := hd (8, fun v w => TxtAt w v (putI a ++ putI b)) (by simp) (show (8 : Nat) ∈ _ by decide)
    simp only at ht
    go_simp
    refine (KP.out W _ _ ht (by have := HLA.out; have := HLB.out; simp; omega) c HC.out).mono ?_
    rintro e w1 ⟨u, rfl, ho, hb⟩
    exact ⟨u, rfl, ho.at, hb⟩
  (try go_simp)
  refine Rl.textR_rel 2 (fun v w => TxtAt w v (putR a b c)) rfl (fun v w w' hg h => h.below hg) (fun ρ => ?_) (fun ρ W hS hd => ?_) ?_
  · go_simp
  · have ht := hd (11, fun v w => TxtAt w v (putR a b c)) (by simp) (show (11 : Nat) ∈ _ by decide)
    simp only at ht
    have HT := Lib.hid ht
    clear ht
    go_simp
    exact ⟨HT.out, Below.refl _ _⟩
  (try go_simp)
  refine Rl.textR_nil ?_
  intro ρ w1 hg hk
  have HT := Lib.hid (hk (2, fun v w => TxtAt w v (putR a b c)) (by simp))
  have HG := Lib.hid (below_next HU.out hg)
  clear hg hk
  dsimp only at *
  generalize ρ 2 = z at *
  generalize ρ 5 = z1 at *
  generalize ρ 8 = z2 at *
  generalize ρ 11 = z3 at *
  clear ρ
  go_wp2_with fail
  go_ret
  exact ⟨z, rfl, HT.out, HG.out⟩
end Go.Proofs.YtlejicmpefdhpaaDoor
