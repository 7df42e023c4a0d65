/- The law CodingLays walked. Its condition: errors.errorType reads as the program's text lays it. -/
import Derived.Test.YtnlfighfkmlmaaaDoorCodRef
import Derived.Test.YtnlfighfkmlmaaaDoorRelT
import Derived.Test.YtnlfighfkmlmaaaDoorAppendTwo
namespace Go.Proofs.YtnlfighfkmlmaaaDoor
set_option linter.unusedVariables false
open Go.ChangeShapes Go.WideShapes Go.ChangeAt Go.RowKit Go.Lib
attribute [local go_sem ↓] Go.wp_at_zero Go.wp_at_succ comesTo_value_eq comesTo_skip_eq comesTo_enter_eq Rl.comesToR_value_eq Rl.comesToR_skip_eq Rl.comesToR_enter_eq

set_option maxRecDepth 100000 in
set_option maxHeartbeats 16000000 in
theorem lays_walk (ad : Option Addr) (n c : Nat) (xs : List Int) (v0 : Int) (hv : -9223372036854775808 ≤ v0 ∧ v0 ≤ 9223372036854775807) (la : Option Addr) (ll lc : Nat) (l : List Int) (W : World) (hT : TxtAt W (.slice ad n c) xs) (hn : n = xs.length) (h2000 : n ≤ 2000)
    (hL : ReadsL W (.slice la ll lc) l) (hln : l.length = ll) (hll : ll ≤ 500) (hin : ∀ x ∈ l, -9223372036854775808 ≤ x ∧ x ≤ 9223372036854775807) (hE : ErrAt W) :
    Calls Tryd.prog 3 #[.slice ad n c, .int .i64 v0, .slice la ll lc] W fun e w' => e = .returned (.bool true) ∧ Below W.heap.size W w' := by
  have hmx : Tryd.prog.follows .mixedOrders = true := by kernel_rfl
  have hd1 : decide ((n : Int) > 2000) = false := decide_eq_false (by omega)
  have hd2 : decide ((ll : Int) > 500) = false := decide_eq_false (by omega)
  have hcv := txt_conv hT W (Below.refl _ _)
  have hbt : (strOfNums xs).size ≤ 1099511627776 := by rw [size_str]; omega
  have hbs : bytesOf (strOfNums xs) = xs := bytesOf_str xs hT.bytes.1 hT.bytes.2
  have KP := Lib.hid (fun (w : World) (hb : Below W.heap.size W w) => putint_any (hT.below hb) (by omega) hv)
  have KQ := Lib.hid (fun (w : World) => rputint_any xs (by omega) hv w)
  have kt := fun (w : World) (hb : Below W.heap.size W w) => puttext_any (hT.below hb) (by omega) (strOfNums xs) hbt
  rw [hbs] at kt
  have KT := Lib.hid kt
  have KU := Lib.hid (fun (w : World) => rputtext_any xs xs (by omega) (by omega) w)
  have KL := Lib.hid (fun (w : World) (hb : Below W.heap.size W w) => putints_any (hT.below hb) (by omega) (hL.below hb) hln (by omega) hin)
  have KM := Lib.hid (fun (w : World) (hb : Below W.heap.size W w) => rputints_any xs (by omega) (hL.below hb) hln (by omega) hin)
  have KO := Lib.hid (fun (w : World) (hb : Below W.heap.size W w) => cod_one w (hE.below hb))
  clear hT hn h2000 hL hln hin hE kt hbs hbt
  generalize hS : strOfNums xs = S at *
  clear hS
  generalize hS1 : strOfNums (xs ++ putI v0) = S1 at *
  generalize hS2 : strOfNums (xs ++ putT xs) = S2 at *
  generalize hS3 : strOfNums (xs ++ putL l) = S3 at *
  have HS1 := Lib.hid hS1
  have HS2 := Lib.hid hS2
  have HS3 := Lib.hid hS3
  clear hS1 hS2 hS3
  go_enter Tryd.func3, Tryd.ntmps3
  go_wp2_with fail
  refine Rl.wp_region_rel (fun a b => Below a.heap.size a b) W (fun a b c h h' => below_next h h') (fun a => Below.refl _ _) hmx (by kernel_rfl) (Below.refl _ _).drew ?_
  iterate 2 (refine Rl.textR_run ?_ (fun ρ => ?_) (fun ρ W hS hd => ?_) ?_; rotate_left; (focus go_simp); (focus (obtain ⟨hc, hf⟩ := bcell hS; go_simp; first | exact ⟨rfl, Below.refl _ _⟩ | (refine ⟨?_, Below.refl _ _⟩; rfl))); (try go_simp))
  refine Rl.textR_rel 20 (fun v w => TxtAt w v (xs ++ putI v0)) rfl (fun v w w' hg h => h.below hg) (fun ρ => ?_) (fun ρ W hS hd => ?_) ?_
  · go_simp
  · go_simp
    refine (KP.out W hS).mono ?_
    rintro e w1 ⟨u, rfl, ho, hb⟩
    exact ⟨u, rfl, ho.at, hb⟩
  (try go_simp)
  refine Rl.textR_run (.string S1) (fun ρ => ?_) (fun ρ W hS hd => ?_) ?_
  · go_simp
  · have hcv := txt_conv (hd (20, fun v w => TxtAt w v (xs ++ putI v0)) List.mem_cons_self (show (20 : Nat) ∈ _ by decide)) W (Below.refl _ _)
    simp only at hcv
    rw [HS1.out] at hcv
    go_simp
    first | exact ⟨rfl, Below.refl _ _⟩ | exact Below.refl _ _
  (try go_simp)
  iterate 2 (refine Rl.textR_run ?_ (fun ρ => ?_) (fun ρ W hS hd => ?_) ?_; rotate_left; (focus go_simp); (focus (obtain ⟨hc, hf⟩ := bcell hS; go_simp; first | exact ⟨rfl, Below.refl _ _⟩ | (refine ⟨?_, Below.refl _ _⟩; rfl))); (try go_simp))
  (refine Rl.textR_run ?_ (fun ρ => ?_) (fun ρ W hS hd => ?_) ?_; rotate_left; (focus go_simp); (focus (obtain ⟨hc, hf⟩ := bcell hS; go_simp; refine (KQ.out W).mono ?_; rintro e w1 ⟨rfl, hb⟩; refine ⟨_, rfl, ?_, hb⟩; rfl)); (try go_simp))
  iterate 4 (refine Rl.textR_run ?_ (fun ρ => ?_) (fun ρ W hS hd => ?_) ?_; rotate_left; (focus go_simp); (focus (obtain ⟨hc, hf⟩ := bcell hS; go_simp; first | exact ⟨rfl, Below.refl _ _⟩ | (refine ⟨?_, Below.refl _ _⟩; rfl))); (try go_simp))
  refine Rl.textR_rel 29 (fun v w => TxtAt w v (xs ++ putT xs)) rfl (fun v w w' hg h => h.below hg) (fun ρ => ?_) (fun ρ W hS hd => ?_) ?_
  · go_simp
  · go_simp
    refine (KT.out W hS).mono ?_
    rintro e w1 ⟨u, rfl, ho, hb⟩
    exact ⟨u, rfl, ho.at, hb⟩
  (try go_simp)
  refine Rl.textR_run (.string S2) (fun ρ => ?_) (fun ρ W hS hd => ?_) ?_
  · go_simp
  · have hcv := txt_conv (hd (29, fun v w => TxtAt w v (xs ++ putT xs)) List.mem_cons_self (show (29 : Nat) ∈ _ by decide)) W (Below.refl _ _)
    simp only at hcv
    rw [HS2.out] at hcv
    go_simp
    first | exact ⟨rfl, Below.refl _ _⟩ | exact Below.refl _ _
  (try go_simp)
  iterate 2 (refine Rl.textR_run ?_ (fun ρ => ?_) (fun ρ W hS hd => ?_) ?_; rotate_left; (focus go_simp); (focus (obtain ⟨hc, hf⟩ := bcell hS; go_simp; first | exact ⟨rfl, Below.refl _ _⟩ | (refine ⟨?_, Below.refl _ _⟩; rfl))); (try go_simp))
  (refine Rl.textR_run ?_ (fun ρ => ?_) (fun ρ W hS hd => ?_) ?_; rotate_left; (focus go_simp); (focus (obtain ⟨hc, hf⟩ := bcell hS; go_simp; refine (KU.out W).mono ?_; rintro e w1 ⟨rfl, hb⟩; refine ⟨_, rfl, ?_, hb⟩; rfl)); (try go_simp))
  iterate 5 (refine Rl.textR_run ?_ (fun ρ => ?_) (fun ρ W hS hd => ?_) ?_; rotate_left; (focus go_simp); (focus (obtain ⟨hc, hf⟩ := bcell hS; go_simp; first | exact ⟨rfl, Below.refl _ _⟩ | (refine ⟨?_, Below.refl _ _⟩; rfl))); (try go_simp))
  refine Rl.textR_rel 39 (fun v w => TxtAt w v (xs ++ putL l)) rfl (fun v w w' hg h => h.below hg) (fun ρ => ?_) (fun ρ W hS hd => ?_) ?_
  · go_simp
  · go_simp
    refine (KL.out W hS).mono ?_
    rintro e w1 ⟨u, rfl, ho, hb⟩
    exact ⟨u, rfl, ho.at, hb⟩
  (try go_simp)
  refine Rl.textR_run (.string S3) (fun ρ => ?_) (fun ρ W hS hd => ?_) ?_
  · go_simp
  · have hcv := txt_conv (hd (39, fun v w => TxtAt w v (xs ++ putL l)) List.mem_cons_self (show (39 : Nat) ∈ _ by decide)) W (Below.refl _ _)
    simp only at hcv
    rw [HS3.out] at hcv
    go_simp
    first | exact ⟨rfl, Below.refl _ _⟩ | exact Below.refl _ _
  (try go_simp)
  iterate 2 (refine Rl.textR_run ?_ (fun ρ => ?_) (fun ρ W hS hd => ?_) ?_; rotate_left; (focus go_simp); (focus (obtain ⟨hc, hf⟩ := bcell hS; go_simp; first | exact ⟨rfl, Below.refl _ _⟩ | (refine ⟨?_, Below.refl _ _⟩; rfl))); (try go_simp))
  (refine Rl.textR_run ?_ (fun ρ => ?_) (fun ρ W hS hd => ?_) ?_; rotate_left; (focus go_simp); (focus (obtain ⟨hc, hf⟩ := bcell hS; go_simp; refine (KM.out W hS).mono ?_; rintro e w1 ⟨rfl, hb⟩; refine ⟨_, rfl, ?_, hb⟩; rfl)); (try go_simp))
  iterate 3 (refine Rl.textR_run ?_ (fun ρ => ?_) (fun ρ W hS hd => ?_) ?_; rotate_left; (focus go_simp); (focus (obtain ⟨hc, hf⟩ := bcell hS; go_simp; first | exact ⟨rfl, Below.refl _ _⟩ | (refine ⟨?_, Below.refl _ _⟩; rfl))); (try go_simp))
  (refine Rl.textR_run ?_ (fun ρ => ?_) (fun ρ W hS hd => ?_) ?_; rotate_left; (focus go_simp); (focus (obtain ⟨hc, hf⟩ := bcell hS; go_simp; refine (KO.out W hS).mono ?_; rintro e w1 ⟨rfl, hb⟩; refine ⟨_, rfl, ?_, hb⟩; rfl)); (try go_simp))
  iterate 2 (refine Rl.textR_run ?_ (fun ρ => ?_) (fun ρ W hS hd => ?_) ?_; rotate_left; (focus go_simp); (focus (obtain ⟨hc, hf⟩ := bcell hS; go_simp; first | exact ⟨rfl, Below.refl _ _⟩ | (refine ⟨?_, Below.refl _ _⟩; rfl))); (try go_simp))
  refine Rl.textR_nil ?_
  intro ρ w1 hg hk1
  have HG := Lib.hid hg
  clear hg hk1
  dsimp only
  generalize ρ 20 = z1
  generalize ρ 29 = z2
  generalize ρ 39 = z3
  go_wp2_with fail
  go_ret
  exact ⟨rfl, HG.out⟩
/-- too long: nothing is asked -/
theorem lays_long (ad : Option Addr) (n c : Nat) (v0 : Int) (la : Option Addr) (ll lc : Nat) (W : World) (h : ¬ (n ≤ 2000 ∧ ll ≤ 500)) :
    Calls Tryd.prog 3 #[.slice ad n c, .int .i64 v0, .slice la ll lc] W fun e w' => e = .returned (.bool true) ∧ Below W.heap.size W w' := by
  by_cases h1 : n ≤ 2000
  · have hd1 : decide ((n : Int) > 2000) = false := decide_eq_false (by omega)
    have hd2 : decide ((ll : Int) > 500) = true := decide_eq_true (by omega)
    go_enter Tryd.func3, Tryd.ntmps3
    go_wp2
    go_ret
    exact ⟨rfl, Below.refl _ _⟩
  · have hd1 : decide ((n : Int) > 2000) = true := decide_eq_true (by omega)
    go_enter Tryd.func3, Tryd.ntmps3
    go_wp2
    go_ret
    exact ⟨rfl, Below.refl _ _⟩
theorem lays_any (ad : Option Addr) (n c : Nat) (xs : List Int) (W : World) (hT : TxtAt W (.slice ad n c) xs) (v0 : Int) (hv : -9223372036854775808 ≤ v0 ∧ v0 ≤ 9223372036854775807) (la : Option Addr) (ll lc : Nat) (l : List Int)
    (hL : ReadsL W (.slice la ll lc) l ∧ l.length = ll ∧ ll ≤ lc ∧ ∀ x ∈ l, -9223372036854775808 ≤ x ∧ x ≤ 9223372036854775807) (hE : ErrAt W) :
    Calls Tryd.prog 3 #[.slice ad n c, .int .i64 v0, .slice la ll lc] W fun e w' => e = .returned (.bool true) ∧ Below W.heap.size W w' := by
  by_cases h : n ≤ 2000 ∧ ll ≤ 500
  · exact lays_walk ad n c xs v0 hv la ll lc l W hT hT.form.1 h.1 hL.1 hL.2.1 h.2 hL.2.2.2 hE
  · exact lays_long ad n c v0 la ll lc W h
end Go.Proofs.YtnlfighfkmlmaaaDoor
