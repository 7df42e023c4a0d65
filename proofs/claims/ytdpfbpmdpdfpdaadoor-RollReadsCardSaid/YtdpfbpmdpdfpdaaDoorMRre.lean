/- The document's bytes of a drain. No condition. -/
import Derived.Test.YtdpfbpmdpdfpdaaDoorMad
import Derived.Test.YtdpfbpmdpdfpdaaDoorMah
import Derived.Test.YtdpfbpmdpdfpdaaDoorMab
import Derived.BigQuiet
namespace Go.Proofs.YtdpfbpmdpdfpdaaDoor
set_option linter.unusedVariables false
open Go.ChangeShapes Go.WideShapes Go.ChangeAt Go.RowKit
attribute [local go_sem ↓] Go.wp_at_zero Go.wp_at_succ comesTo_value_eq comesTo_skip_eq comesTo_enter_eq Rl.comesToR_value_eq Rl.comesToR_skip_eq Rl.comesToR_enter_eq

set_option maxRecDepth 100000 in
set_option maxHeartbeats 4000000 in
theorem rrollput_any (xs : List Int) (hxl : xs.length ≤ 1000) {W F : Int} (D H : NSet) {vD vH : Value} (hW : -9223372036854775808 ≤ W ∧ W ≤ 9223372036854775807) (hF : -9223372036854775808 ≤ F ∧ F ≤ 9223372036854775807) (w : World)
    (hD : ∀ U, Below w.heap.size w U → Calls Tryd.prog 50 #[vD] U fun e w' => e = .returned (.int .u64 (nv D)) ∧ U = w') (hH : ∀ U, Below w.heap.size w U → Calls Tryd.prog 50 #[vH] U fun e w' => e = .returned (.int .u64 (nv H)) ∧ U = w') (hc : ∀ v, v = vD ∨ v = vH → ∃ a n c, v = .slice a n c) :
    Calls Tryd.prog 12 #[.string (strOfNums xs), .agg #[.int .i64 W, .int .i64 F, vD, vH]] w fun e w' => e = .returned (.string (strOfNums (xs ++ putsN (numsR W F (nv D) (nv H))))) ∧ Below w.heap.size w w' := by
  have hmx : Tryd.prog.follows .mixedOrders = true := by kernel_rfl
  obtain ⟨aD, nD, cD, rfl⟩ := hc vD (.inl rfl)
  obtain ⟨aH, nH, cH, rfl⟩ := hc vH (.inr rfl)
  obtain ⟨d, hd⟩ : ∃ d, d = IntKind.i64.wrap (nv D) := ⟨_, rfl⟩
  obtain ⟨h, hh⟩ : ∃ d, d = IntKind.i64.wrap (nv H) := ⟨_, rfl⟩
  have hdi := i64_wrap_in (nv D)
  have hhi := i64_wrap_in (nv H)
  rw [← hd] at hdi
  rw [← hh] at hhi
  have hnum : xs ++ putsN (numsR W F (nv D) (nv H)) = xs ++ putI W ++ putI F ++ putI d ++ putI h := by
    unfold numsR putsN
    rw [← hd, ← hh]
    simp [List.append_assoc]
  have l1 := putI_len hW
  have l2 := putI_len hF
  have l3 := putI_len hdi
  have K1 := Lib.hid (fun U => rputint_any xs (by omega) hW U)
  have K2 := Lib.hid (fun U => rputint_any (xs ++ putI W) (by rw [List.length_append]; omega) hF U)
  have K3 := Lib.hid (fun U => rputint_any (xs ++ putI W ++ putI F) (by rw [List.length_append, List.length_append]; omega) hdi U)
  have K4 := Lib.hid (fun U => rputint_any (xs ++ putI W ++ putI F ++ putI d) (by rw [List.length_append, List.length_append, List.length_append]; omega) hhi U)
  rw [hnum]
  generalize strOfNums (xs ++ putI W ++ putI F ++ putI d ++ putI h) = S4 at *
  generalize strOfNums (xs ++ putI W ++ putI F ++ putI d) = S3 at *
  generalize strOfNums (xs ++ putI W ++ putI F) = S2 at *
  generalize strOfNums (xs ++ putI W) = S1 at *
  generalize strOfNums xs = S0 at *
  have HD := Lib.hid hD
  have HH := Lib.hid hH
  have hA := below_alloc (Below.refl _ w) (.cells #[.int .i64 W, .int .i64 F, .slice aD nD cD, .slice aH nH cH] 34)
  have n1 := World.alloc_heap_new w (.cells #[.int .i64 W, .int .i64 F, .slice aD nD cD, .slice aH nH cH] 34)
  have HA := Lib.hid hA
  have HX := Lib.hid (fun X (hX : Below (w.alloc (.cells #[.int .i64 W, .int .i64 F, .slice aD nD cD, .slice aH nH cH] 34)).heap.size (w.alloc (.cells #[.int .i64 W, .int .i64 F, .slice aD nD cD, .slice aH nH cH] 34)) X) => (hX.block _ (Array.getElem?_eq_some_iff.1 n1).1).trans n1)
  have hd' := hd.symm
  have hh' := hh.symm
  clear hA n1 hD hH hc hW hF hdi hhi hnum l1 l2 l3 hd hh hxl
  go_enter Tryd.func12, Tryd.ntmps12
  go_upto_region 1 with fail
  generalize w.alloc (.cells #[.int .i64 W, .int .i64 F, .slice aD nD cD, .slice aH nH cH] 34) = W1 at *
  have H0 := Lib.hid (fun X (hX : Below W1.heap.size W1 X) => cell_of_block (o := 0) (HX.out X hX) rfl)
  have H1 := Lib.hid (fun X (hX : Below W1.heap.size W1 X) => cell_of_block (o := 1) (HX.out X hX) rfl)
  have H2 := Lib.hid (fun X (hX : Below W1.heap.size W1 X) => cell_of_block (o := 2) (HX.out X hX) rfl)
  have H3 := Lib.hid (fun X (hX : Below W1.heap.size W1 X) => cell_of_block (o := 3) (HX.out X hX) rfl)
  refine Rl.wp_region_rel (fun a b => Below a.heap.size a b) W1 (fun a b c h h' => below_next h h') (fun a => Below.refl _ _) hmx (by kernel_rfl) (Below.refl _ _).drew ?_
  iterate 2 (refine Rl.textR_run ?_ (fun ρ => ?_) (fun ρ W hS hd => ?_) ?_; rotate_left; (focus go_simp); (focus (obtain ⟨hc, hf⟩ := bcell hS; go_simp; first | exact ⟨rfl, Below.refl _ _⟩ | (refine ⟨?_, Below.refl _ _⟩; rfl))); (try go_simp))
  (refine Rl.textR_run ?_ (fun ρ => ?_) (fun ρ W hS hd => ?_) ?_; rotate_left; (focus go_simp); (focus (have hfact := H0.out W hS; go_simp; first | exact ⟨rfl, Below.refl _ _⟩ | (refine ⟨?_, Below.refl _ _⟩; rfl))); (try go_simp))
  (refine Rl.textR_run ?_ (fun ρ => ?_) (fun ρ W hS hd => ?_) ?_; rotate_left; (focus go_simp); (focus (obtain ⟨hc, hf⟩ := bcell hS; go_simp; refine (K1.out W).mono ?_; rintro e w1 ⟨rfl, hb⟩; refine ⟨_, rfl, ?_, hb⟩; rfl)); (try go_simp))
  (refine Rl.textR_run ?_ (fun ρ => ?_) (fun ρ W hS hd => ?_) ?_; rotate_left; (focus go_simp); (focus (obtain ⟨hc, hf⟩ := bcell hS; go_simp; first | exact ⟨rfl, Below.refl _ _⟩ | (refine ⟨?_, Below.refl _ _⟩; rfl))); (try go_simp))
  (refine Rl.textR_run ?_ (fun ρ => ?_) (fun ρ W hS hd => ?_) ?_; rotate_left; (focus go_simp); (focus (have hfact := H1.out W hS; go_simp; first | exact ⟨rfl, Below.refl _ _⟩ | (refine ⟨?_, Below.refl _ _⟩; rfl))); (try go_simp))
  (refine Rl.textR_run ?_ (fun ρ => ?_) (fun ρ W hS hd => ?_) ?_; rotate_left; (focus go_simp); (focus (obtain ⟨hc, hf⟩ := bcell hS; go_simp; refine (K2.out W).mono ?_; rintro e w1 ⟨rfl, hb⟩; refine ⟨_, rfl, ?_, hb⟩; rfl)); (try go_simp))
  (refine Rl.textR_run ?_ (fun ρ => ?_) (fun ρ W hS hd => ?_) ?_; rotate_left; (focus go_simp); (focus (obtain ⟨hc, hf⟩ := bcell hS; go_simp; first | exact ⟨rfl, Below.refl _ _⟩ | (refine ⟨?_, Below.refl _ _⟩; rfl))); (try go_simp))
  refine Rl.textR_nil ?_
  intro ρ wA hgA hkA
  dsimp only
  have HGA := Lib.hid hgA
  clear hgA hkA
  go_simp
  go_upto_region 2 with fail
  refine Rl.wp_region_rel (fun a b => Below a.heap.size a b) wA (fun a b c h h' => below_next h h') (fun a => Below.refl _ _) hmx (by kernel_rfl) (Below.refl _ _).drew ?_
  iterate 2 (refine Rl.textR_run ?_ (fun ρ => ?_) (fun ρ W hS hd => ?_) ?_; rotate_left; (focus go_simp); (focus (obtain ⟨hc, hf⟩ := bcell hS; go_simp; first | exact ⟨rfl, Below.refl _ _⟩ | (refine ⟨?_, Below.refl _ _⟩; rfl))); (try go_simp))
  (refine Rl.textR_run ?_ (fun ρ => ?_) (fun ρ W hS hd => ?_) ?_; rotate_left; (focus go_simp); (focus (have hfact := H2.out W (below_next HGA.out hS); go_simp; first | exact ⟨rfl, Below.refl _ _⟩ | (refine ⟨?_, Below.refl _ _⟩; rfl))); (try go_simp))
  (refine Rl.textR_run ?_ (fun ρ => ?_) (fun ρ W hS hd => ?_) ?_; rotate_left; (focus go_simp); (focus (obtain ⟨hc, hf⟩ := bcell hS; go_simp; refine (HD.out W (below_next HA.out (below_next HGA.out hS))).mono ?_; rintro e w1 ⟨rfl, rfl⟩; refine ⟨_, rfl, ?_, Below.refl _ _⟩; rfl)); (try go_simp))
  (refine Rl.textR_run ?_ (fun ρ => ?_) (fun ρ W hS hd => ?_) ?_; rotate_left; (focus go_simp); (focus (obtain ⟨hc, hf⟩ := bcell hS; go_simp; first | exact ⟨rfl, Below.refl _ _⟩ | (refine ⟨?_, Below.refl _ _⟩; rfl))); (try go_simp))
  (refine Rl.textR_run ?_ (fun ρ => ?_) (fun ρ W hS hd => ?_) ?_; rotate_left; (focus go_simp); (focus (obtain ⟨hc, hf⟩ := bcell hS; go_simp; refine (K3.out W).mono ?_; rintro e w1 ⟨rfl, hb⟩; refine ⟨_, rfl, ?_, hb⟩; rfl)); (try go_simp))
  (refine Rl.textR_run ?_ (fun ρ => ?_) (fun ρ W hS hd => ?_) ?_; rotate_left; (focus go_simp); (focus (obtain ⟨hc, hf⟩ := bcell hS; go_simp; first | exact ⟨rfl, Below.refl _ _⟩ | (refine ⟨?_, Below.refl _ _⟩; rfl))); (try go_simp))
  (refine Rl.textR_run ?_ (fun ρ => ?_) (fun ρ W hS hd => ?_) ?_; rotate_left; (focus go_simp); (focus (have hfact := H3.out W (below_next HGA.out hS); go_simp; first | exact ⟨rfl, Below.refl _ _⟩ | (refine ⟨?_, Below.refl _ _⟩; rfl))); (try go_simp))
  (refine Rl.textR_run ?_ (fun ρ => ?_) (fun ρ W hS hd => ?_) ?_; rotate_left; (focus go_simp); (focus (obtain ⟨hc, hf⟩ := bcell hS; go_simp; refine (HH.out W (below_next HA.out (below_next HGA.out hS))).mono ?_; rintro e w1 ⟨rfl, rfl⟩; refine ⟨_, rfl, ?_, Below.refl _ _⟩; rfl)); (try go_simp))
  (refine Rl.textR_run ?_ (fun ρ => ?_) (fun ρ W hS hd => ?_) ?_; rotate_left; (focus go_simp); (focus (obtain ⟨hc, hf⟩ := bcell hS; go_simp; first | exact ⟨rfl, Below.refl _ _⟩ | (refine ⟨?_, Below.refl _ _⟩; rfl))); (try go_simp))
  (refine Rl.textR_run ?_ (fun ρ => ?_) (fun ρ W hS hd => ?_) ?_; rotate_left; (focus go_simp); (focus (obtain ⟨hc, hf⟩ := bcell hS; go_simp; refine (K4.out W).mono ?_; rintro e w1 ⟨rfl, hb⟩; refine ⟨_, rfl, ?_, hb⟩; rfl)); (try go_simp))
  (refine Rl.textR_run ?_ (fun ρ => ?_) (fun ρ W hS hd => ?_) ?_; rotate_left; (focus go_simp); (focus (obtain ⟨hc, hf⟩ := bcell hS; go_simp; first | exact ⟨rfl, Below.refl _ _⟩ | (refine ⟨?_, Below.refl _ _⟩; rfl))); (try go_simp))
  refine Rl.textR_nil ?_
  intro ρ wB hgB hkB
  dsimp only
  have HGB := Lib.hid hgB
  clear hgB hkB
  go_simp
  go_wp2_with fail
  go_ret
  exact ⟨rfl, below_next (below_next HA.out HGA.out) HGB.out⟩
end Go.Proofs.YtdpfbpmdpdfpdaaDoor
