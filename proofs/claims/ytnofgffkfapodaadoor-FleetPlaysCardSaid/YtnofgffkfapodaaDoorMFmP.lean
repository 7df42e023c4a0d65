/- FleetPlays walked. Condition: math/bits' table of trailing zeros lies as its text lays it. -/
import Derived.Test.YtnofgffkfapodaaDoorMao
import Derived.Test.YtnofgffkfapodaaDoorMFlO
import Derived.Test.YtnofgffkfapodaaDoorMFlT
import Derived.Test.YtnofgffkfapodaaDoorMaf
namespace Go.Proofs.YtnofgffkfapodaaDoor
set_option linter.unusedVariables false
open Go.ChangeShapes Go.WideShapes Go.ChangeAt Go.RowKit
attribute [local go_sem ↓] Go.wp_at_zero Go.wp_at_succ comesTo_value_eq comesTo_skip_eq comesTo_enter_eq Rl.comesToR_value_eq Rl.comesToR_skip_eq Rl.comesToR_enter_eq

theorem new9_yes {N M : Nat} {S D P : Int} (hok : newOk N M S D P = true) (w : World) : Calls Tryd.prog 9 #[.int .i64 N, .int .i64 M, .agg #[.int .i64 S, .int .i64 D, .int .i64 P]] w fun e w' => ∃ L cL Pb cP, e = .returned (.tuple #[.agg #[.slice (some ⟨L, 0, none⟩) N cL, .slice (some ⟨Pb, 0, none⟩) N cP, .int .i64 S, .int .i64 D, .int .i64 P, .int .i64 0], .int .i64 0]) ∧ RF9 w' L 0 Pb 0 (newF N M S D P) ∧ N ≤ cL ∧ N ≤ cP ∧ w.heap.size ≤ L ∧ w.heap.size ≤ Pb ∧ Below w.heap.size w w' := by
  refine (new9_any N M S D P w).mono fun e w' hx => ?_
  have hln : (newF N M S D P).ns.length = N := by unfold newF; simp
  rcases hx with ⟨h1, _⟩ | ⟨_, L, cL, Pb, cP, he, h1, h2, h3, h4, h5, h6⟩
  · rw [hok] at h1; cases h1
  · rw [hln] at he h2 h3
    exact ⟨L, cL, Pb, cP, he, h1, h2, h3, h4, h5, h6⟩
theorem new9_nope {n s S D P : Int} (hok : newOk n s S D P = false) (w : World) : Calls Tryd.prog 9 #[.int .i64 n, .int .i64 s, .agg #[.int .i64 S, .int .i64 D, .int .i64 P]] w fun e w' => e = .returned (.tuple #[.agg #[.slice none 0 0, .slice none 0 0, .int .i64 0, .int .i64 0, .int .i64 0, .int .i64 0], .int .i64 2]) ∧ Below w.heap.size w w' := by
  refine (new9_any n s S D P w).mono fun e w' hx => ?_
  rcases hx with ⟨_, h1, h2⟩ | ⟨h1, _⟩
  · exact ⟨h1, h2⟩
  · rw [hok] at h1; cases h1
set_option maxRecDepth 100000 in
set_option maxHeartbeats 8000000 in
theorem fplays_walk (n s S D P : Int) (ad : Option Addr) (ll lcap : Nat) (A : Nat → Int × Int) (w : World) (hT : TabZ w) (hA : ToldsAt w ad ll A) :
    Calls Tryd.prog 3 #[.agg #[.int .i64 n, .int .i64 s], .agg #[.int .i64 S, .int .i64 D, .int .i64 P], .slice ad ll lcap] w fun e w' => e = .returned (.bool true) ∧ Below w.heap.size w w' := by
  have hmx : Tryd.prog.follows .mixedOrders = true := by kernel_rfl
  have b1 := below_alloc (Below.refl _ w) (.cells #[.int .i64 n, .int .i64 s] 22)
  have b2 := below_alloc (Below.refl _ (w.alloc (.cells #[.int .i64 n, .int .i64 s] 22))) (.cells #[.int .i64 S, .int .i64 D, .int .i64 P] 24)
  have n1 := World.alloc_heap_new w (.cells #[.int .i64 n, .int .i64 s] 22)
  have n2 := World.alloc_heap_new (w.alloc (.cells #[.int .i64 n, .int .i64 s] 22)) (.cells #[.int .i64 S, .int .i64 D, .int .i64 P] 24)
  rw [World.size_alloc] at n2
  have N1 := Lib.hid ((b2.block _ (by simp)).trans n1)
  have N2 := Lib.hid n2
  have HA := Lib.hid (below_next b1 b2)
  have HT := Lib.hid hT
  have HAT := Lib.hid hA
  clear b1 b2 n1 n2 hT hA
  go_enter Tryd.func3, Tryd.ntmps3
  go_upto_region 1 with fail
  generalize (w.alloc (.cells #[.int .i64 n, .int .i64 s] 22)).alloc (.cells #[.int .i64 S, .int .i64 D, .int .i64 P] 24) = U at *
  have a0 := cell_of_block (o := 0) N1.out rfl
  have a1 := cell_of_block (o := 1) N1.out rfl
  have r0 := cell_of_block (o := 0) N2.out rfl
  have r1 := cell_of_block (o := 1) N2.out rfl
  have r2 := cell_of_block (o := 2) N2.out rfl
  have KN := Lib.hid (fnew_any n s S D P U)
  have K18 := Lib.hid (fun X => rules18_any S D P X)
  go_wp2_with fail
  refine KN.out.mono ?_
  rintro e w1 hx
  have hbelow : Below U.heap.size U w1 := by rcases hx with ⟨_, _, h⟩ | ⟨_, _, _, _, _, _, _, h⟩ <;> exact h
  have HB := Lib.hid (below_next HA.out hbelow)
  have HC := Lib.hid (fun X (hX : Below w1.heap.size w1 X) => show X.cell? ⟨w.heap.size, 0, none⟩ = some (.int .i64 n) ∧ X.cell? ⟨w.heap.size, 1, none⟩ = some (.int .i64 s) ∧ X.cell? ⟨w.heap.size + 1, 0, none⟩ = some (.int .i64 S) ∧ X.cell? ⟨w.heap.size + 1, 1, none⟩ = some (.int .i64 D) ∧ X.cell? ⟨w.heap.size + 1, 2, none⟩ = some (.int .i64 P) from by
    have q1 := (hX.block _ (Array.getElem?_eq_some_iff.1 ((hbelow.block _ (Array.getElem?_eq_some_iff.1 N1.out).1).trans N1.out)).1).trans ((hbelow.block _ (Array.getElem?_eq_some_iff.1 N1.out).1).trans N1.out)
    have q2 := (hX.block _ (Array.getElem?_eq_some_iff.1 ((hbelow.block _ (Array.getElem?_eq_some_iff.1 N2.out).1).trans N2.out)).1).trans ((hbelow.block _ (Array.getElem?_eq_some_iff.1 N2.out).1).trans N2.out)
    exact ⟨cell_of_block (o := 0) q1 rfl, cell_of_block (o := 1) q1 rfl, cell_of_block (o := 0) q2 rfl, cell_of_block (o := 1) q2 rfl, cell_of_block (o := 2) q2 rfl⟩)
  have HUZ := Lib.hid (show w.heap.size + 1 < U.heap.size from (Array.getElem?_eq_some_iff.1 N2.out).1)
  have HU1 := Lib.hid hbelow
  clear hbelow a0 a1 r0 r1 r2 KN
  rcases hx with ⟨hno, rfl, hb⟩ | ⟨hyes, F, G, rfl, hfl, hF, hG, hb⟩
  · have K17 := Lib.hid (fun X => new9_nope hno X)
    clear hno hb
    go_upto_region 2 with fail
    go_cut [9, 10] (fun p c wx => ∃ q, p = .pointer (some ⟨q, 0, none⟩) ∧ c = .int .i64 2 ∧ Below w1.heap.size w1 wx)
    case first =>
      refine wp_region_held (S := fun X => X.cell? ⟨w.heap.size, 0, none⟩ = some (.int .i64 n) ∧ X.cell? ⟨w.heap.size, 1, none⟩ = some (.int .i64 s) ∧ X.cell? ⟨w.heap.size + 1, 0, none⟩ = some (.int .i64 S) ∧ X.cell? ⟨w.heap.size + 1, 1, none⟩ = some (.int .i64 D) ∧ X.cell? ⟨w.heap.size + 1, 2, none⟩ = some (.int .i64 P)) hmx ?_
      have HW0 := Lib.hid (show Below w1.heap.size w1 w1.drew from (Below.refl _ _).drew)
      change wpAnyH _ _ _ _ _ 13 _ _ w1.drew
      generalize w1.drew = W0 at *
      have hS := HC.out _ HW0.out
      (refine wpAnyH_take (i := 0) (v := .pointer (some ⟨w.heap.size, 0, none⟩)) rfl (by decide +kernel) (by decide +kernel) (by decide +kernel) (fun _ _ _ h => h) (.inl ⟨by first | rfl | (go_simp; done), fun X hX => by obtain ⟨hx0, hx1, hx2, hx3, hx4⟩ := hX; first | (go_simp; done) | (go_simp; rfl)⟩) hS ?_)
      (refine wpAnyH_take (i := 1) (v := .int .i64 n) rfl (by decide +kernel) (by decide +kernel) (by decide +kernel) (fun _ _ _ h => h) (.inl ⟨by first | rfl | (go_simp; done), fun X hX => by obtain ⟨hx0, hx1, hx2, hx3, hx4⟩ := hX; first | (go_simp; done) | (go_simp; rfl)⟩) hS ?_)
      (refine wpAnyH_take (i := 2) (v := .pointer (some ⟨w.heap.size, 1, none⟩)) rfl (by decide +kernel) (by decide +kernel) (by decide +kernel) (fun _ _ _ h => h) (.inl ⟨by first | rfl | (go_simp; done), fun X hX => by obtain ⟨hx0, hx1, hx2, hx3, hx4⟩ := hX; first | (go_simp; done) | (go_simp; rfl)⟩) hS ?_)
      (refine wpAnyH_take (i := 3) (v := .int .i64 s) rfl (by decide +kernel) (by decide +kernel) (by decide +kernel) (fun _ _ _ h => h) (.inl ⟨by first | rfl | (go_simp; done), fun X hX => by obtain ⟨hx0, hx1, hx2, hx3, hx4⟩ := hX; first | (go_simp; done) | (go_simp; rfl)⟩) hS ?_)
      (refine wpAnyH_take (i := 4) (v := .agg #[.int .i64 S, .int .i64 D, .int .i64 P]) rfl (by decide +kernel) (by decide +kernel) (by decide +kernel) (fun _ _ _ h => h) (.inl ⟨by first | rfl | (go_simp; done), fun X hX => by obtain ⟨hx0, hx1, hx2, hx3, hx4⟩ := hX; first | (go_simp; done) | (go_simp; rfl)⟩) hS ?_)
      clear hS
      refine anyH_two (i := 5) (j := 10) (by decide +kernel) ?fa ?fb
      case fa =>
        refine opH_call (i := 5) rfl (by first | rfl | (go_simp; done)) (by go_simp) (K18.out W0) ?_
        rintro e W1 ⟨rfl, hb⟩
        have HW1 := Lib.hid (below_next HW0.out hb)
        clear hb
        refine ⟨_, rfl, HC.out _ HW1.out, ?_⟩
        refine anyH_two (i := 6) (j := 10) (by decide +kernel) ?fa1 ?fa2
        case fa1 =>
          refine opH_call (i := 6) rfl (by first | rfl | (go_simp; done)) (by go_simp) (K17.out W1) ?_
          rintro e W2 ⟨rfl, hb⟩
          have HW2 := Lib.hid (below_next HW1.out hb)
          have HZZ := Lib.hid HW1.out.size
          clear hb
          refine ⟨_, rfl, HC.out _ HW2.out, ?_⟩
          have hS := HC.out _ HW2.out
          (refine wpAnyH_take (i := 7) (v := .tuple #[.agg #[.slice none 0 0, .slice none 0 0, .int .i64 0, .int .i64 0, .int .i64 0, .int .i64 0], .int .i64 2]) rfl (by decide +kernel) (by decide +kernel) (by decide +kernel) (fun _ _ _ h => h) (.inl ⟨by first | rfl | (go_simp; done), fun X hX => by obtain ⟨hx0, hx1, hx2, hx3, hx4⟩ := hX; first | (go_simp; done) | (go_simp; rfl)⟩) hS ?_)
          (refine wpAnyH_take (i := 8) (v := .agg #[.slice none 0 0, .slice none 0 0, .int .i64 0, .int .i64 0, .int .i64 0, .int .i64 0]) rfl (by decide +kernel) (by decide +kernel) (by decide +kernel) (fun _ _ _ h => h) (.inl ⟨by first | rfl | (go_simp; done), fun X hX => by obtain ⟨hx0, hx1, hx2, hx3, hx4⟩ := hX; first | (go_simp; done) | (go_simp; rfl)⟩) hS ?_)
          (refine wpAnyH_take (i := 9) (v := .int .i64 2) rfl (by decide +kernel) (by decide +kernel) (by decide +kernel) (fun _ _ _ h => h) (.inl ⟨by first | rfl | (go_simp; done), fun X hX => by obtain ⟨hx0, hx1, hx2, hx3, hx4⟩ := hX; first | (go_simp; done) | (go_simp; rfl)⟩) hS ?_)
          clear hS
          refine anyH_one (i := 10) (by decide +kernel) ?_
          refine opH_val (i := 10) (v := .pointer (some ⟨W2.heap.size, 0, none⟩)) (w' := W2.alloc (.cells #[.slice none 0 0, .slice none 0 0, .int .i64 0, .int .i64 0, .int .i64 0, .int .i64 0] 34)) rfl (by first | rfl | (go_simp; done)) (by first | (go_simp; done) | (go_simp; rfl)) ?_
          have hb := below_alloc (Below.refl _ W2) (.cells #[.slice none 0 0, .slice none 0 0, .int .i64 0, .int .i64 0, .int .i64 0, .int .i64 0] 34)
          have HQ3 := Lib.hid (World.alloc_heap_new W2 (.cells #[.slice none 0 0, .slice none 0 0, .int .i64 0, .int .i64 0, .int .i64 0, .int .i64 0] 34))
          have HW3 := Lib.hid (below_next HW2.out hb)
          have HQZ := Lib.hid HW2.out.size
          clear hb
          generalize W2.alloc (.cells #[.slice none 0 0, .slice none 0 0, .int .i64 0, .int .i64 0, .int .i64 0, .int .i64 0] 34) = W3 at *
          refine ⟨HC.out _ HW3.out, ?_⟩
          have hw := wrote_all (l := [.slice none 0 0, .slice none 0 0, .int .i64 0, .int .i64 0, .int .i64 0, .int .i64 0]) HQ3.out rfl
          have HBE := Lib.hid (hw.below HW3.out HQZ.out)
          clear hw
          refine anyH_store (i := 11) (by decide +kernel) rfl (by first | rfl | (go_simp; done)) (exec_store_allH 34 _ _ rfl (W2.heap.size) [.slice none 0 0, .slice none 0 0, .int .i64 0, .int .i64 0, .int .i64 0, .int .i64 0] (by go_simp) (by go_simp) HQ3.out rfl (by kernel_rfl) rfl) (HC.out _ HBE.out) ?_
          generalize W3.setCells (W2.heap.size) 0 [.slice none 0 0, .slice none 0 0, .int .i64 0, .int .i64 0, .int .i64 0, .int .i64 0] = W99 at *
          have hS := HC.out _ HBE.out
          (refine wpAnyH_take (i := 12) (v := .int .i64 2) rfl (by decide +kernel) (by decide +kernel) (by decide +kernel) (fun _ _ _ h => h) (.inl ⟨by first | rfl | (go_simp; done), fun X hX => by obtain ⟨hx0, hx1, hx2, hx3, hx4⟩ := hX; first | (go_simp; done) | (go_simp; rfl)⟩) hS ?_)
          clear hS
          refine wpAnyH_done (by decide +kernel) ?_ _
          go_simp
          go_wp2_with fail
          go_meet
          exact ⟨_, rfl, rfl, HBE.out⟩
        case fa2 =>
          refine opH_val (i := 10) (v := .pointer (some ⟨W1.heap.size, 0, none⟩)) (w' := W1.alloc (.cells #[.slice none 0 0, .slice none 0 0, .int .i64 0, .int .i64 0, .int .i64 0, .int .i64 0] 34)) rfl (by first | rfl | (go_simp; done)) (by first | (go_simp; done) | (go_simp; rfl)) ?_
          have hb := below_alloc (Below.refl _ W1) (.cells #[.slice none 0 0, .slice none 0 0, .int .i64 0, .int .i64 0, .int .i64 0, .int .i64 0] 34)
          have HQ2 := Lib.hid (World.alloc_heap_new W1 (.cells #[.slice none 0 0, .slice none 0 0, .int .i64 0, .int .i64 0, .int .i64 0, .int .i64 0] 34))
          have HW2 := Lib.hid (below_next HW1.out hb)
          have HQZ := Lib.hid HW1.out.size
          clear hb
          generalize W1.alloc (.cells #[.slice none 0 0, .slice none 0 0, .int .i64 0, .int .i64 0, .int .i64 0, .int .i64 0] 34) = W2 at *
          refine ⟨HC.out _ HW2.out, ?_⟩
          refine anyH_one (i := 6) (by decide +kernel) ?_
          refine opH_call (i := 6) rfl (by first | rfl | (go_simp; done)) (by go_simp) (K17.out W2) ?_
          rintro e W3 ⟨rfl, hb⟩
          have HW3 := Lib.hid (below_next HW2.out hb)
          have HZZ := Lib.hid HW2.out.size
          have HQ3 := Lib.hid ((hb.block _ (Array.getElem?_eq_some_iff.1 HQ2.out).1).trans HQ2.out)
          have HQL := Lib.hid (Array.getElem?_eq_some_iff.1 HQ2.out).1
          clear hb
          refine ⟨_, rfl, HC.out _ HW3.out, ?_⟩
          have hS := HC.out _ HW3.out
          (refine wpAnyH_take (i := 7) (v := .tuple #[.agg #[.slice none 0 0, .slice none 0 0, .int .i64 0, .int .i64 0, .int .i64 0, .int .i64 0], .int .i64 2]) rfl (by decide +kernel) (by decide +kernel) (by decide +kernel) (fun _ _ _ h => h) (.inl ⟨by first | rfl | (go_simp; done), fun X hX => by obtain ⟨hx0, hx1, hx2, hx3, hx4⟩ := hX; first | (go_simp; done) | (go_simp; rfl)⟩) hS ?_)
          (refine wpAnyH_take (i := 8) (v := .agg #[.slice none 0 0, .slice none 0 0, .int .i64 0, .int .i64 0, .int .i64 0, .int .i64 0]) rfl (by decide +kernel) (by decide +kernel) (by decide +kernel) (fun _ _ _ h => h) (.inl ⟨by first | rfl | (go_simp; done), fun X hX => by obtain ⟨hx0, hx1, hx2, hx3, hx4⟩ := hX; first | (go_simp; done) | (go_simp; rfl)⟩) hS ?_)
          (refine wpAnyH_take (i := 9) (v := .int .i64 2) rfl (by decide +kernel) (by decide +kernel) (by decide +kernel) (fun _ _ _ h => h) (.inl ⟨by first | rfl | (go_simp; done), fun X hX => by obtain ⟨hx0, hx1, hx2, hx3, hx4⟩ := hX; first | (go_simp; done) | (go_simp; rfl)⟩) hS ?_)
          clear hS
          have hw := wrote_all (l := [.slice none 0 0, .slice none 0 0, .int .i64 0, .int .i64 0, .int .i64 0, .int .i64 0]) HQ3.out rfl
          have HBE := Lib.hid (hw.below HW3.out HQZ.out)
          clear hw
          refine anyH_store (i := 11) (by decide +kernel) rfl (by first | rfl | (go_simp; done)) (exec_store_allH 34 _ _ rfl (W1.heap.size) [.slice none 0 0, .slice none 0 0, .int .i64 0, .int .i64 0, .int .i64 0, .int .i64 0] (by go_simp) (by go_simp) HQ3.out rfl (by kernel_rfl) rfl) (HC.out _ HBE.out) ?_
          generalize W3.setCells (W1.heap.size) 0 [.slice none 0 0, .slice none 0 0, .int .i64 0, .int .i64 0, .int .i64 0, .int .i64 0] = W99 at *
          have hS := HC.out _ HBE.out
          (refine wpAnyH_take (i := 12) (v := .int .i64 2) rfl (by decide +kernel) (by decide +kernel) (by decide +kernel) (fun _ _ _ h => h) (.inl ⟨by first | rfl | (go_simp; done), fun X hX => by obtain ⟨hx0, hx1, hx2, hx3, hx4⟩ := hX; first | (go_simp; done) | (go_simp; rfl)⟩) hS ?_)
          clear hS
          refine wpAnyH_done (by decide +kernel) ?_ _
          go_simp
          go_wp2_with fail
          go_meet
          exact ⟨_, rfl, rfl, HBE.out⟩
      case fb =>
        refine opH_val (i := 10) (v := .pointer (some ⟨W0.heap.size, 0, none⟩)) (w' := W0.alloc (.cells #[.slice none 0 0, .slice none 0 0, .int .i64 0, .int .i64 0, .int .i64 0, .int .i64 0] 34)) rfl (by first | rfl | (go_simp; done)) (by first | (go_simp; done) | (go_simp; rfl)) ?_
        have hb := below_alloc (Below.refl _ W0) (.cells #[.slice none 0 0, .slice none 0 0, .int .i64 0, .int .i64 0, .int .i64 0, .int .i64 0] 34)
        have HQ1 := Lib.hid (World.alloc_heap_new W0 (.cells #[.slice none 0 0, .slice none 0 0, .int .i64 0, .int .i64 0, .int .i64 0, .int .i64 0] 34))
        have HW1 := Lib.hid (below_next HW0.out hb)
        have HQZ := Lib.hid HW0.out.size
        clear hb
        generalize W0.alloc (.cells #[.slice none 0 0, .slice none 0 0, .int .i64 0, .int .i64 0, .int .i64 0, .int .i64 0] 34) = W1 at *
        refine ⟨HC.out _ HW1.out, ?_⟩
        refine anyH_one (i := 5) (by decide +kernel) ?_
        refine opH_call (i := 5) rfl (by first | rfl | (go_simp; done)) (by go_simp) (K18.out W1) ?_
        rintro e W2 ⟨rfl, hb⟩
        have HW2 := Lib.hid (below_next HW1.out hb)
        have HQ2 := Lib.hid ((hb.block _ (Array.getElem?_eq_some_iff.1 HQ1.out).1).trans HQ1.out)
        clear hb
        refine ⟨_, rfl, HC.out _ HW2.out, ?_⟩
        refine anyH_one (i := 6) (by decide +kernel) ?_
        refine opH_call (i := 6) rfl (by first | rfl | (go_simp; done)) (by go_simp) (K17.out W2) ?_
        rintro e W3 ⟨rfl, hb⟩
        have HW3 := Lib.hid (below_next HW2.out hb)
        have HZZ := Lib.hid HW2.out.size
        have HQ3 := Lib.hid ((hb.block _ (Array.getElem?_eq_some_iff.1 HQ2.out).1).trans HQ2.out)
        have HQL := Lib.hid (Array.getElem?_eq_some_iff.1 HQ2.out).1
        clear hb
        refine ⟨_, rfl, HC.out _ HW3.out, ?_⟩
        have hS := HC.out _ HW3.out
        (refine wpAnyH_take (i := 7) (v := .tuple #[.agg #[.slice none 0 0, .slice none 0 0, .int .i64 0, .int .i64 0, .int .i64 0, .int .i64 0], .int .i64 2]) rfl (by decide +kernel) (by decide +kernel) (by decide +kernel) (fun _ _ _ h => h) (.inl ⟨by first | rfl | (go_simp; done), fun X hX => by obtain ⟨hx0, hx1, hx2, hx3, hx4⟩ := hX; first | (go_simp; done) | (go_simp; rfl)⟩) hS ?_)
        (refine wpAnyH_take (i := 8) (v := .agg #[.slice none 0 0, .slice none 0 0, .int .i64 0, .int .i64 0, .int .i64 0, .int .i64 0]) rfl (by decide +kernel) (by decide +kernel) (by decide +kernel) (fun _ _ _ h => h) (.inl ⟨by first | rfl | (go_simp; done), fun X hX => by obtain ⟨hx0, hx1, hx2, hx3, hx4⟩ := hX; first | (go_simp; done) | (go_simp; rfl)⟩) hS ?_)
        (refine wpAnyH_take (i := 9) (v := .int .i64 2) rfl (by decide +kernel) (by decide +kernel) (by decide +kernel) (fun _ _ _ h => h) (.inl ⟨by first | rfl | (go_simp; done), fun X hX => by obtain ⟨hx0, hx1, hx2, hx3, hx4⟩ := hX; first | (go_simp; done) | (go_simp; rfl)⟩) hS ?_)
        clear hS
        have hw := wrote_all (l := [.slice none 0 0, .slice none 0 0, .int .i64 0, .int .i64 0, .int .i64 0, .int .i64 0]) HQ3.out rfl
        have HBE := Lib.hid (hw.below HW3.out HQZ.out)
        clear hw
        refine anyH_store (i := 11) (by decide +kernel) rfl (by first | rfl | (go_simp; done)) (exec_store_allH 34 _ _ rfl (W0.heap.size) [.slice none 0 0, .slice none 0 0, .int .i64 0, .int .i64 0, .int .i64 0, .int .i64 0] (by go_simp) (by go_simp) HQ3.out rfl (by kernel_rfl) rfl) (HC.out _ HBE.out) ?_
        generalize W3.setCells (W0.heap.size) 0 [.slice none 0 0, .slice none 0 0, .int .i64 0, .int .i64 0, .int .i64 0, .int .i64 0] = W99 at *
        have hS := HC.out _ HBE.out
        (refine wpAnyH_take (i := 12) (v := .int .i64 2) rfl (by decide +kernel) (by decide +kernel) (by decide +kernel) (fun _ _ _ h => h) (.inl ⟨by first | rfl | (go_simp; done), fun X hX => by obtain ⟨hx0, hx1, hx2, hx3, hx4⟩ := hX; first | (go_simp; done) | (go_simp; rfl)⟩) hS ?_)
        clear hS
        refine wpAnyH_done (by decide +kernel) ?_ _
        go_simp
        go_wp2_with fail
        go_meet
        exact ⟨_, rfl, rfl, HBE.out⟩
    case rest =>
    obtain ⟨q, rfl, rfl, hbx⟩ := hcut
    rename_i wc
    have HBX := Lib.hid (below_next HB.out hbx)
    have K1 := Lib.hid (fone wc (HT.out.below HBX.out))
    clear hbx
    go_wp2_with fail
    refine K1.out.mono ?_
    rintro e w2 ⟨rfl, hb2⟩
    have HB2 := Lib.hid (below_next HBX.out hb2)
    clear hb2
    go_wp2_with fail
    go_ret
    exact ⟨rfl, HB2.out⟩
  have hok : (1 ≤ n ∧ n ≤ 64 ∧ 0 ≤ s ∧ s < n) ∧ rightR S D P = true := by unfold newOk at hyes; rw [Bool.and_eq_true, decide_eq_true_eq] at hyes; exact hyes
  obtain ⟨hok, hrr⟩ := hok
  obtain ⟨N, rfl⟩ : ∃ N : Nat, n = (N : Int) := ⟨n.toNat, by omega⟩
  obtain ⟨M, rfl⟩ : ∃ M : Nat, s = (M : Int) := ⟨s.toNat, by omega⟩
  have HGD := Lib.hid (newF_good N M S D P (by omega) (by omega) (by omega) hrr)
  have K17 := Lib.hid (fun X => new9_yes hyes X)
  have HLNN := Lib.hid (show (newF N M S D P).ns.length = N by unfold newF; simp)
  have HFL := Lib.hid hfl
  have HFG := Lib.hid (show w.heap.size ≤ F ∧ w.heap.size ≤ G from ⟨Nat.le_trans HA.out.size hF, Nat.le_trans HA.out.size hG⟩)
  have HUF := Lib.hid (show w.heap.size + 1 < F ∧ w.heap.size + 1 < G by have := HUZ.out; omega)
  have HLT := Lib.hid hfl.lt
  clear hyes hfl hF hG hb hok hrr
  go_upto_region 2 with fail
  go_cut [9, 10] (fun p c wx => ∃ q L cL Pb cP, p = .pointer (some ⟨q, 0, none⟩) ∧ c = .int .i64 0 ∧ DocAt w1 wx q L 0 cL Pb 0 cP (newF N M S D P))
  case first =>
    refine wp_region_held (S := fun X => X.cell? ⟨w.heap.size, 0, none⟩ = some (.int .i64 (N : Int)) ∧ X.cell? ⟨w.heap.size, 1, none⟩ = some (.int .i64 (M : Int)) ∧ X.cell? ⟨w.heap.size + 1, 0, none⟩ = some (.int .i64 S) ∧ X.cell? ⟨w.heap.size + 1, 1, none⟩ = some (.int .i64 D) ∧ X.cell? ⟨w.heap.size + 1, 2, none⟩ = some (.int .i64 P)) hmx ?_
    have HW0 := Lib.hid (show Below w1.heap.size w1 w1.drew from (Below.refl _ _).drew)
    change wpAnyH _ _ _ _ _ 13 _ _ w1.drew
    generalize w1.drew = W0 at *
    have hS := HC.out _ HW0.out
    (refine wpAnyH_take (i := 0) (v := .pointer (some ⟨w.heap.size, 0, none⟩)) rfl (by decide +kernel) (by decide +kernel) (by decide +kernel) (fun _ _ _ h => h) (.inl ⟨by first | rfl | (go_simp; done), fun X hX => by obtain ⟨hx0, hx1, hx2, hx3, hx4⟩ := hX; first | (go_simp; done) | (go_simp; rfl)⟩) hS ?_)
    (refine wpAnyH_take (i := 1) (v := .int .i64 (N : Int)) rfl (by decide +kernel) (by decide +kernel) (by decide +kernel) (fun _ _ _ h => h) (.inl ⟨by first | rfl | (go_simp; done), fun X hX => by obtain ⟨hx0, hx1, hx2, hx3, hx4⟩ := hX; first | (go_simp; done) | (go_simp; rfl)⟩) hS ?_)
    (refine wpAnyH_take (i := 2) (v := .pointer (some ⟨w.heap.size, 1, none⟩)) rfl (by decide +kernel) (by decide +kernel) (by decide +kernel) (fun _ _ _ h => h) (.inl ⟨by first | rfl | (go_simp; done), fun X hX => by obtain ⟨hx0, hx1, hx2, hx3, hx4⟩ := hX; first | (go_simp; done) | (go_simp; rfl)⟩) hS ?_)
    (refine wpAnyH_take (i := 3) (v := .int .i64 (M : Int)) rfl (by decide +kernel) (by decide +kernel) (by decide +kernel) (fun _ _ _ h => h) (.inl ⟨by first | rfl | (go_simp; done), fun X hX => by obtain ⟨hx0, hx1, hx2, hx3, hx4⟩ := hX; first | (go_simp; done) | (go_simp; rfl)⟩) hS ?_)
    (refine wpAnyH_take (i := 4) (v := .agg #[.int .i64 S, .int .i64 D, .int .i64 P]) rfl (by decide +kernel) (by decide +kernel) (by decide +kernel) (fun _ _ _ h => h) (.inl ⟨by first | rfl | (go_simp; done), fun X hX => by obtain ⟨hx0, hx1, hx2, hx3, hx4⟩ := hX; first | (go_simp; done) | (go_simp; rfl)⟩) hS ?_)
    clear hS
    refine anyH_two (i := 5) (j := 10) (by decide +kernel) ?fa ?fb
    case fa =>
      refine opH_call (i := 5) rfl (by first | rfl | (go_simp; done)) (by go_simp) (K18.out W0) ?_
      rintro e W1 ⟨rfl, hb⟩
      have HW1 := Lib.hid (below_next HW0.out hb)
      clear hb
      refine ⟨_, rfl, HC.out _ HW1.out, ?_⟩
      refine anyH_two (i := 6) (j := 10) (by decide +kernel) ?fa1 ?fa2
      case fa1 =>
        refine opH_call (i := 6) rfl (by first | rfl | (go_simp; done)) (by go_simp) (K17.out W1) ?_
        rintro e W2 ⟨L, cL, Pb, cP, rfl, hrf, hc1, hc2, hl1, hl2, hb⟩
        have HW2 := Lib.hid (below_next HW1.out hb)
        have HZZ := Lib.hid HW1.out.size
        have HRF2 := Lib.hid hrf
        have HCP := Lib.hid (And.intro hc1 hc2)
        have HLO := Lib.hid (And.intro hl1 hl2)
        clear hrf hc1 hc2 hl1 hl2
        clear hb
        refine ⟨_, rfl, HC.out _ HW2.out, ?_⟩
        have hS := HC.out _ HW2.out
        (refine wpAnyH_take (i := 7) (v := .tuple #[.agg #[.slice (some ⟨L, 0, none⟩) N cL, .slice (some ⟨Pb, 0, none⟩) N cP, .int .i64 S, .int .i64 D, .int .i64 P, .int .i64 0], .int .i64 0]) rfl (by decide +kernel) (by decide +kernel) (by decide +kernel) (fun _ _ _ h => h) (.inl ⟨by first | rfl | (go_simp; done), fun X hX => by obtain ⟨hx0, hx1, hx2, hx3, hx4⟩ := hX; first | (go_simp; done) | (go_simp; rfl)⟩) hS ?_)
        (refine wpAnyH_take (i := 8) (v := .agg #[.slice (some ⟨L, 0, none⟩) N cL, .slice (some ⟨Pb, 0, none⟩) N cP, .int .i64 S, .int .i64 D, .int .i64 P, .int .i64 0]) rfl (by decide +kernel) (by decide +kernel) (by decide +kernel) (fun _ _ _ h => h) (.inl ⟨by first | rfl | (go_simp; done), fun X hX => by obtain ⟨hx0, hx1, hx2, hx3, hx4⟩ := hX; first | (go_simp; done) | (go_simp; rfl)⟩) hS ?_)
        (refine wpAnyH_take (i := 9) (v := .int .i64 0) rfl (by decide +kernel) (by decide +kernel) (by decide +kernel) (fun _ _ _ h => h) (.inl ⟨by first | rfl | (go_simp; done), fun X hX => by obtain ⟨hx0, hx1, hx2, hx3, hx4⟩ := hX; first | (go_simp; done) | (go_simp; rfl)⟩) hS ?_)
        clear hS
        refine anyH_one (i := 10) (by decide +kernel) ?_
        refine opH_val (i := 10) (v := .pointer (some ⟨W2.heap.size, 0, none⟩)) (w' := W2.alloc (.cells #[.slice none 0 0, .slice none 0 0, .int .i64 0, .int .i64 0, .int .i64 0, .int .i64 0] 34)) rfl (by first | rfl | (go_simp; done)) (by first | (go_simp; done) | (go_simp; rfl)) ?_
        have hb := below_alloc (Below.refl _ W2) (.cells #[.slice none 0 0, .slice none 0 0, .int .i64 0, .int .i64 0, .int .i64 0, .int .i64 0] 34)
        have HQ3 := Lib.hid (World.alloc_heap_new W2 (.cells #[.slice none 0 0, .slice none 0 0, .int .i64 0, .int .i64 0, .int .i64 0, .int .i64 0] 34))
        have HW3 := Lib.hid (below_next HW2.out hb)
        have HQZ := Lib.hid HW2.out.size
        have HNE := Lib.hid (show L ≠ W2.heap.size ∧ Pb ≠ W2.heap.size from by
          have h1 := World.block_lt_of_cell? _ _ (HRF2.out.nd 0 HRF2.out.len.1).1
          have h2 := World.block_lt_of_cell? _ _ (HRF2.out.sp 0 HRF2.out.len.1)
          dsimp only at h1 h2
          omega)
        have HRF3 := Lib.hid (HRF2.out.below hb)
        clear hb
        generalize W2.alloc (.cells #[.slice none 0 0, .slice none 0 0, .int .i64 0, .int .i64 0, .int .i64 0, .int .i64 0] 34) = W3 at *
        refine ⟨HC.out _ HW3.out, ?_⟩
        have hw := wrote_all (l := [.slice (some ⟨L, 0, none⟩) N cL, .slice (some ⟨Pb, 0, none⟩) N cP, .int .i64 S, .int .i64 D, .int .i64 P, .int .i64 0]) HQ3.out rfl
        have HDOC := Lib.hid (show DocAt w1 (W3.setCells (W2.heap.size) 0 [.slice (some ⟨L, 0, none⟩) N cL, .slice (some ⟨Pb, 0, none⟩) N cP, .int .i64 S, .int .i64 D, .int .i64 P, .int .i64 0]) (W2.heap.size) L 0 cL Pb 0 cP (newF N M S D P) from
          ⟨by rw [HLNN.out]; exact hw.there, HRF3.out.wrote hw HNE.out.1 HNE.out.2, by rw [HLNN.out]; exact HCP.out, HNE.out, hw.below HW3.out HQZ.out, HQZ.out, Nat.le_trans HZZ.out HLO.out.1, Nat.le_trans HZZ.out HLO.out.2⟩)
        have HBE := Lib.hid (hw.below HW3.out HQZ.out)
        clear hw
        refine anyH_store (i := 11) (by decide +kernel) rfl (by first | rfl | (go_simp; done)) (exec_store_allH 34 _ _ rfl (W2.heap.size) [.slice (some ⟨L, 0, none⟩) N cL, .slice (some ⟨Pb, 0, none⟩) N cP, .int .i64 S, .int .i64 D, .int .i64 P, .int .i64 0] (by go_simp) (by go_simp) HQ3.out rfl (by kernel_rfl) rfl) (HC.out _ HBE.out) ?_
        generalize W3.setCells (W2.heap.size) 0 [.slice (some ⟨L, 0, none⟩) N cL, .slice (some ⟨Pb, 0, none⟩) N cP, .int .i64 S, .int .i64 D, .int .i64 P, .int .i64 0] = W99 at *
        have hS := HC.out _ HBE.out
        (refine wpAnyH_take (i := 12) (v := .int .i64 0) rfl (by decide +kernel) (by decide +kernel) (by decide +kernel) (fun _ _ _ h => h) (.inl ⟨by first | rfl | (go_simp; done), fun X hX => by obtain ⟨hx0, hx1, hx2, hx3, hx4⟩ := hX; first | (go_simp; done) | (go_simp; rfl)⟩) hS ?_)
        clear hS
        refine wpAnyH_done (by decide +kernel) ?_ _
        go_simp
        go_wp2_with fail
        go_meet
        exact ⟨_, _, _, _, _, rfl, rfl, HDOC.out⟩
      case fa2 =>
        refine opH_val (i := 10) (v := .pointer (some ⟨W1.heap.size, 0, none⟩)) (w' := W1.alloc (.cells #[.slice none 0 0, .slice none 0 0, .int .i64 0, .int .i64 0, .int .i64 0, .int .i64 0] 34)) rfl (by first | rfl | (go_simp; done)) (by first | (go_simp; done) | (go_simp; rfl)) ?_
        have hb := below_alloc (Below.refl _ W1) (.cells #[.slice none 0 0, .slice none 0 0, .int .i64 0, .int .i64 0, .int .i64 0, .int .i64 0] 34)
        have HQ2 := Lib.hid (World.alloc_heap_new W1 (.cells #[.slice none 0 0, .slice none 0 0, .int .i64 0, .int .i64 0, .int .i64 0, .int .i64 0] 34))
        have HW2 := Lib.hid (below_next HW1.out hb)
        have HQZ := Lib.hid HW1.out.size
        clear hb
        generalize W1.alloc (.cells #[.slice none 0 0, .slice none 0 0, .int .i64 0, .int .i64 0, .int .i64 0, .int .i64 0] 34) = W2 at *
        refine ⟨HC.out _ HW2.out, ?_⟩
        refine anyH_one (i := 6) (by decide +kernel) ?_
        refine opH_call (i := 6) rfl (by first | rfl | (go_simp; done)) (by go_simp) (K17.out W2) ?_
        rintro e W3 ⟨L, cL, Pb, cP, rfl, hrf, hc1, hc2, hl1, hl2, hb⟩
        have HW3 := Lib.hid (below_next HW2.out hb)
        have HZZ := Lib.hid HW2.out.size
        have HQ3 := Lib.hid ((hb.block _ (Array.getElem?_eq_some_iff.1 HQ2.out).1).trans HQ2.out)
        have HQL := Lib.hid (Array.getElem?_eq_some_iff.1 HQ2.out).1
        have HRF3 := Lib.hid hrf
        have HCP := Lib.hid (And.intro hc1 hc2)
        have HLO := Lib.hid (And.intro hl1 hl2)
        clear hrf hc1 hc2 hl1 hl2
        clear hb
        refine ⟨_, rfl, HC.out _ HW3.out, ?_⟩
        have hS := HC.out _ HW3.out
        (refine wpAnyH_take (i := 7) (v := .tuple #[.agg #[.slice (some ⟨L, 0, none⟩) N cL, .slice (some ⟨Pb, 0, none⟩) N cP, .int .i64 S, .int .i64 D, .int .i64 P, .int .i64 0], .int .i64 0]) rfl (by decide +kernel) (by decide +kernel) (by decide +kernel) (fun _ _ _ h => h) (.inl ⟨by first | rfl | (go_simp; done), fun X hX => by obtain ⟨hx0, hx1, hx2, hx3, hx4⟩ := hX; first | (go_simp; done) | (go_simp; rfl)⟩) hS ?_)
        (refine wpAnyH_take (i := 8) (v := .agg #[.slice (some ⟨L, 0, none⟩) N cL, .slice (some ⟨Pb, 0, none⟩) N cP, .int .i64 S, .int .i64 D, .int .i64 P, .int .i64 0]) rfl (by decide +kernel) (by decide +kernel) (by decide +kernel) (fun _ _ _ h => h) (.inl ⟨by first | rfl | (go_simp; done), fun X hX => by obtain ⟨hx0, hx1, hx2, hx3, hx4⟩ := hX; first | (go_simp; done) | (go_simp; rfl)⟩) hS ?_)
        (refine wpAnyH_take (i := 9) (v := .int .i64 0) rfl (by decide +kernel) (by decide +kernel) (by decide +kernel) (fun _ _ _ h => h) (.inl ⟨by first | rfl | (go_simp; done), fun X hX => by obtain ⟨hx0, hx1, hx2, hx3, hx4⟩ := hX; first | (go_simp; done) | (go_simp; rfl)⟩) hS ?_)
        clear hS
        have HNE := Lib.hid (show L ≠ W1.heap.size ∧ Pb ≠ W1.heap.size from by have := HLO.out; have := HQL.out; omega)
        have hw := wrote_all (l := [.slice (some ⟨L, 0, none⟩) N cL, .slice (some ⟨Pb, 0, none⟩) N cP, .int .i64 S, .int .i64 D, .int .i64 P, .int .i64 0]) HQ3.out rfl
        have HDOC := Lib.hid (show DocAt w1 (W3.setCells (W1.heap.size) 0 [.slice (some ⟨L, 0, none⟩) N cL, .slice (some ⟨Pb, 0, none⟩) N cP, .int .i64 S, .int .i64 D, .int .i64 P, .int .i64 0]) (W1.heap.size) L 0 cL Pb 0 cP (newF N M S D P) from
          ⟨by rw [HLNN.out]; exact hw.there, HRF3.out.wrote hw HNE.out.1 HNE.out.2, by rw [HLNN.out]; exact HCP.out, HNE.out, hw.below HW3.out HQZ.out, HQZ.out, Nat.le_trans HZZ.out HLO.out.1, Nat.le_trans HZZ.out HLO.out.2⟩)
        have HBE := Lib.hid (hw.below HW3.out HQZ.out)
        clear hw
        refine anyH_store (i := 11) (by decide +kernel) rfl (by first | rfl | (go_simp; done)) (exec_store_allH 34 _ _ rfl (W1.heap.size) [.slice (some ⟨L, 0, none⟩) N cL, .slice (some ⟨Pb, 0, none⟩) N cP, .int .i64 S, .int .i64 D, .int .i64 P, .int .i64 0] (by go_simp) (by go_simp) HQ3.out rfl (by kernel_rfl) rfl) (HC.out _ HBE.out) ?_
        generalize W3.setCells (W1.heap.size) 0 [.slice (some ⟨L, 0, none⟩) N cL, .slice (some ⟨Pb, 0, none⟩) N cP, .int .i64 S, .int .i64 D, .int .i64 P, .int .i64 0] = W99 at *
        have hS := HC.out _ HBE.out
        (refine wpAnyH_take (i := 12) (v := .int .i64 0) rfl (by decide +kernel) (by decide +kernel) (by decide +kernel) (fun _ _ _ h => h) (.inl ⟨by first | rfl | (go_simp; done), fun X hX => by obtain ⟨hx0, hx1, hx2, hx3, hx4⟩ := hX; first | (go_simp; done) | (go_simp; rfl)⟩) hS ?_)
        clear hS
        refine wpAnyH_done (by decide +kernel) ?_ _
        go_simp
        go_wp2_with fail
        go_meet
        exact ⟨_, _, _, _, _, rfl, rfl, HDOC.out⟩
    case fb =>
      refine opH_val (i := 10) (v := .pointer (some ⟨W0.heap.size, 0, none⟩)) (w' := W0.alloc (.cells #[.slice none 0 0, .slice none 0 0, .int .i64 0, .int .i64 0, .int .i64 0, .int .i64 0] 34)) rfl (by first | rfl | (go_simp; done)) (by first | (go_simp; done) | (go_simp; rfl)) ?_
      have hb := below_alloc (Below.refl _ W0) (.cells #[.slice none 0 0, .slice none 0 0, .int .i64 0, .int .i64 0, .int .i64 0, .int .i64 0] 34)
      have HQ1 := Lib.hid (World.alloc_heap_new W0 (.cells #[.slice none 0 0, .slice none 0 0, .int .i64 0, .int .i64 0, .int .i64 0, .int .i64 0] 34))
      have HW1 := Lib.hid (below_next HW0.out hb)
      have HQZ := Lib.hid HW0.out.size
      clear hb
      generalize W0.alloc (.cells #[.slice none 0 0, .slice none 0 0, .int .i64 0, .int .i64 0, .int .i64 0, .int .i64 0] 34) = W1 at *
      refine ⟨HC.out _ HW1.out, ?_⟩
      refine anyH_one (i := 5) (by decide +kernel) ?_
      refine opH_call (i := 5) rfl (by first | rfl | (go_simp; done)) (by go_simp) (K18.out W1) ?_
      rintro e W2 ⟨rfl, hb⟩
      have HW2 := Lib.hid (below_next HW1.out hb)
      have HQ2 := Lib.hid ((hb.block _ (Array.getElem?_eq_some_iff.1 HQ1.out).1).trans HQ1.out)
      clear hb
      refine ⟨_, rfl, HC.out _ HW2.out, ?_⟩
      refine anyH_one (i := 6) (by decide +kernel) ?_
      refine opH_call (i := 6) rfl (by first | rfl | (go_simp; done)) (by go_simp) (K17.out W2) ?_
      rintro e W3 ⟨L, cL, Pb, cP, rfl, hrf, hc1, hc2, hl1, hl2, hb⟩
      have HW3 := Lib.hid (below_next HW2.out hb)
      have HZZ := Lib.hid HW2.out.size
      have HQ3 := Lib.hid ((hb.block _ (Array.getElem?_eq_some_iff.1 HQ2.out).1).trans HQ2.out)
      have HQL := Lib.hid (Array.getElem?_eq_some_iff.1 HQ2.out).1
      have HRF3 := Lib.hid hrf
      have HCP := Lib.hid (And.intro hc1 hc2)
      have HLO := Lib.hid (And.intro hl1 hl2)
      clear hrf hc1 hc2 hl1 hl2
      clear hb
      refine ⟨_, rfl, HC.out _ HW3.out, ?_⟩
      have hS := HC.out _ HW3.out
      (refine wpAnyH_take (i := 7) (v := .tuple #[.agg #[.slice (some ⟨L, 0, none⟩) N cL, .slice (some ⟨Pb, 0, none⟩) N cP, .int .i64 S, .int .i64 D, .int .i64 P, .int .i64 0], .int .i64 0]) rfl (by decide +kernel) (by decide +kernel) (by decide +kernel) (fun _ _ _ h => h) (.inl ⟨by first | rfl | (go_simp; done), fun X hX => by obtain ⟨hx0, hx1, hx2, hx3, hx4⟩ := hX; first | (go_simp; done) | (go_simp; rfl)⟩) hS ?_)
      (refine wpAnyH_take (i := 8) (v := .agg #[.slice (some ⟨L, 0, none⟩) N cL, .slice (some ⟨Pb, 0, none⟩) N cP, .int .i64 S, .int .i64 D, .int .i64 P, .int .i64 0]) rfl (by decide +kernel) (by decide +kernel) (by decide +kernel) (fun _ _ _ h => h) (.inl ⟨by first | rfl | (go_simp; done), fun X hX => by obtain ⟨hx0, hx1, hx2, hx3, hx4⟩ := hX; first | (go_simp; done) | (go_simp; rfl)⟩) hS ?_)
      (refine wpAnyH_take (i := 9) (v := .int .i64 0) rfl (by decide +kernel) (by decide +kernel) (by decide +kernel) (fun _ _ _ h => h) (.inl ⟨by first | rfl | (go_simp; done), fun X hX => by obtain ⟨hx0, hx1, hx2, hx3, hx4⟩ := hX; first | (go_simp; done) | (go_simp; rfl)⟩) hS ?_)
      clear hS
      have HNE := Lib.hid (show L ≠ W0.heap.size ∧ Pb ≠ W0.heap.size from by have := HLO.out; have := HQL.out; omega)
      have hw := wrote_all (l := [.slice (some ⟨L, 0, none⟩) N cL, .slice (some ⟨Pb, 0, none⟩) N cP, .int .i64 S, .int .i64 D, .int .i64 P, .int .i64 0]) HQ3.out rfl
      have HDOC := Lib.hid (show DocAt w1 (W3.setCells (W0.heap.size) 0 [.slice (some ⟨L, 0, none⟩) N cL, .slice (some ⟨Pb, 0, none⟩) N cP, .int .i64 S, .int .i64 D, .int .i64 P, .int .i64 0]) (W0.heap.size) L 0 cL Pb 0 cP (newF N M S D P) from
        ⟨by rw [HLNN.out]; exact hw.there, HRF3.out.wrote hw HNE.out.1 HNE.out.2, by rw [HLNN.out]; exact HCP.out, HNE.out, hw.below HW3.out HQZ.out, HQZ.out, Nat.le_trans HZZ.out HLO.out.1, Nat.le_trans HZZ.out HLO.out.2⟩)
      have HBE := Lib.hid (hw.below HW3.out HQZ.out)
      clear hw
      refine anyH_store (i := 11) (by decide +kernel) rfl (by first | rfl | (go_simp; done)) (exec_store_allH 34 _ _ rfl (W0.heap.size) [.slice (some ⟨L, 0, none⟩) N cL, .slice (some ⟨Pb, 0, none⟩) N cP, .int .i64 S, .int .i64 D, .int .i64 P, .int .i64 0] (by go_simp) (by go_simp) HQ3.out rfl (by kernel_rfl) rfl) (HC.out _ HBE.out) ?_
      generalize W3.setCells (W0.heap.size) 0 [.slice (some ⟨L, 0, none⟩) N cL, .slice (some ⟨Pb, 0, none⟩) N cP, .int .i64 S, .int .i64 D, .int .i64 P, .int .i64 0] = W99 at *
      have hS := HC.out _ HBE.out
      (refine wpAnyH_take (i := 12) (v := .int .i64 0) rfl (by decide +kernel) (by decide +kernel) (by decide +kernel) (fun _ _ _ h => h) (.inl ⟨by first | rfl | (go_simp; done), fun X hX => by obtain ⟨hx0, hx1, hx2, hx3, hx4⟩ := hX; first | (go_simp; done) | (go_simp; rfl)⟩) hS ?_)
      clear hS
      refine wpAnyH_done (by decide +kernel) ?_ _
      go_simp
      go_wp2_with fail
      go_meet
      exact ⟨_, _, _, _, _, rfl, rfl, HDOC.out⟩
  case rest =>
  obtain ⟨q, L, cL, Pb, cP, rfl, rfl, hdoc⟩ := hcut
  rename_i wc
  have HD0 := Lib.hid (hdoc.two HB.out)
  have HFc := Lib.hid (HFL.out.below hdoc.bel)
  have HBC := Lib.hid (show F < w1.heap.size ∧ G < w1.heap.size from HLT.out)
  have HKEEP := Lib.hid (show (newF N M S D P).S = S ∧ (newF N M S D P).D = D ∧ (newF N M S D P).P = P from ⟨rfl, rfl, rfl⟩)
  generalize newF N M S D P = f0 at *
  have HN2 := Lib.hid (fun X (hX : Below w.heap.size w X) (hq : X.heap[w.heap.size + 1]? = U.heap[w.heap.size + 1]?) => hq)
  have HR1 := Lib.hid (show w1.heap[w.heap.size + 1]? = _ from (HU1.out.block _ (Array.getElem?_eq_some_iff.1 N2.out).1).trans N2.out)
  have HRC := Lib.hid ((hdoc.bel.block _ (Array.getElem?_eq_some_iff.1 HR1.out).1).trans HR1.out)
  clear hdoc HN2
  go_wp2_with fail
  go_loopw [11] (fun i wr => ∃ (j : Nat) (f : FV) (L oL cL Pb oP cP : Nat), j ≤ 80 ∧ i = .int .i64 j ∧ Fl wr F G f ∧ FGood f N M j ∧ (f.S = S ∧ f.D = D ∧ f.P = P) ∧ Doc2 w w1.heap.size wr q L oL cL Pb oP cP f ∧ wr.heap[w.heap.size + 1]? = some (.cells #[.int .i64 S, .int .i64 D, .int .i64 P] 24 (0, 0))) (fun i _ => 80 - (intOf i).toNat)
  case atStart => exact ⟨0, f0, L, 0, cL, Pb, 0, cP, by decide, rfl, HFc.out, HGD.out, HKEEP.out, HD0.out, HRC.out⟩
  case round =>
    obtain ⟨j, f, L, oL, cL, Pb, oP, cP, hj, rfl, hfl, hgd, hkeep, hdoc, hrl⟩ := hrel
    have HF := Lib.hid hfl
    have HI := Lib.hid hgd
    have HJ := Lib.hid hj
    have HDC := Lib.hid hdoc
    have HKP := Lib.hid hkeep
    have HRL := Lib.hid hrl
    have HBW := Lib.hid hdoc.bel
    have HTR := Lib.hid (HT.out.below hdoc.bel)
    have HTL := Lib.hid (HAT.out.below hdoc.bel)
    clear hfl hgd hdoc hkeep hrl HFc HGD HKEEP HD0
    by_cases hj2 : j < ll ∧ j < 80
    case neg =>
      have KRU0 := fun X (hX : Below wr.heap.size wr X) => rules_fl (HF.out.below hX)
      rw [HKP.out.1, HKP.out.2.1, HKP.out.2.2] at KRU0
      have KRU := Lib.hid KRU0
      have K1 := Lib.hid (fun X (hX : Below wr.heap.size wr X) => fone X (HTR.out.below hX))
      have R0 := Lib.hid (fun X (hX : Below wr.heap.size wr X) => (hX.block _ (Array.getElem?_eq_some_iff.1 HRL.out).1).trans HRL.out)
      clear KRU0
      by_cases hjl : j < ll
      · have d1 : decide (j < ll) = true := decide_eq_true hjl
        have d2 : decide ((j : Int) < (ll : Int)) = true := decide_eq_true (by omega)
        have d3 : decide ((j : Int) < 80) = false := decide_eq_false (by omega)
        clear hj2 hjl hj
        go_upto_region 16 with fail
        refine Rl.wp_region_rel (fun a b => Below a.heap.size a b) wr (fun a b c h h' => below_next h h') (fun a => Below.refl _ _) hmx (by kernel_rfl) (Below.refl _ _).drew ?_
        (refine Rl.textR_run ?_ (fun ρ => ?_) (fun ρ W hS hd => ?_) ?_; rotate_left; (focus go_simp); (focus (obtain ⟨hc, hf⟩ := bcell hS; go_simp; first | exact ⟨rfl, Below.refl _ _⟩ | (refine ⟨?_, Below.refl _ _⟩; rfl))); (try go_simp))
        (refine Rl.textR_run ?_ (fun ρ => ?_) (fun ρ W hS hd => ?_) ?_; rotate_left; (focus go_simp); (focus (obtain ⟨hc, hf⟩ := bcell hS; go_simp; refine (KRU.out W hS).mono ?_; rintro e w1 ⟨rfl, hb⟩; refine ⟨_, rfl, ?_, hb⟩; rfl)); (try go_simp))
        (refine Rl.textR_run ?_ (fun ρ => ?_) (fun ρ W hS hd => ?_) ?_; rotate_left; (focus go_simp); (focus (have hfact0 := cell_of_block (o := 0) (R0.out W hS) rfl; have hfact1 := cell_of_block (o := 1) (R0.out W hS) rfl; have hfact2 := cell_of_block (o := 2) (R0.out W hS) rfl; go_simp; first | exact ⟨rfl, Below.refl _ _⟩ | (refine ⟨?_, Below.refl _ _⟩; rfl))); (try go_simp))
        iterate 2 (refine Rl.textR_run ?_ (fun ρ => ?_) (fun ρ W hS hd => ?_) ?_; rotate_left; (focus go_simp); (focus (obtain ⟨hc, hf⟩ := bcell hS; go_simp; first | exact ⟨rfl, Below.refl _ _⟩ | (refine ⟨?_, Below.refl _ _⟩; rfl))); (try go_simp))
        (refine Rl.textR_run ?_ (fun ρ => ?_) (fun ρ W hS hd => ?_) ?_; rotate_left; (focus go_simp); (focus (obtain ⟨hc, hf⟩ := bcell hS; go_simp; refine (K1.out W hS).mono ?_; rintro e w1 ⟨rfl, hb⟩; refine ⟨_, rfl, ?_, hb⟩; rfl)); (try go_simp))
        iterate 2 (refine Rl.textR_run ?_ (fun ρ => ?_) (fun ρ W hS hd => ?_) ?_; rotate_left; (focus go_simp); (focus (obtain ⟨hc, hf⟩ := bcell hS; go_simp; first | exact ⟨rfl, Below.refl _ _⟩ | (refine ⟨?_, Below.refl _ _⟩; rfl))); (try go_simp))
        refine Rl.textR_nil ?_
        intro ρ wA hgA hkA
        dsimp only
        have HGA := Lib.hid (below_next HBW.out hgA)
        clear hgA hkA
        go_simp
        go_wp2_with fail
        go_ret
        exact ⟨rfl, HGA.out⟩
      · have d1 : decide (j < ll) = false := decide_eq_false hjl
        have d2 : decide ((j : Int) < (ll : Int)) = false := decide_eq_false (by omega)
        clear hj2 hjl hj
        go_upto_region 16 with fail
        refine Rl.wp_region_rel (fun a b => Below a.heap.size a b) wr (fun a b c h h' => below_next h h') (fun a => Below.refl _ _) hmx (by kernel_rfl) (Below.refl _ _).drew ?_
        (refine Rl.textR_run ?_ (fun ρ => ?_) (fun ρ W hS hd => ?_) ?_; rotate_left; (focus go_simp); (focus (obtain ⟨hc, hf⟩ := bcell hS; go_simp; first | exact ⟨rfl, Below.refl _ _⟩ | (refine ⟨?_, Below.refl _ _⟩; rfl))); (try go_simp))
        (refine Rl.textR_run ?_ (fun ρ => ?_) (fun ρ W hS hd => ?_) ?_; rotate_left; (focus go_simp); (focus (obtain ⟨hc, hf⟩ := bcell hS; go_simp; refine (KRU.out W hS).mono ?_; rintro e w1 ⟨rfl, hb⟩; refine ⟨_, rfl, ?_, hb⟩; rfl)); (try go_simp))
        (refine Rl.textR_run ?_ (fun ρ => ?_) (fun ρ W hS hd => ?_) ?_; rotate_left; (focus go_simp); (focus (have hfact0 := cell_of_block (o := 0) (R0.out W hS) rfl; have hfact1 := cell_of_block (o := 1) (R0.out W hS) rfl; have hfact2 := cell_of_block (o := 2) (R0.out W hS) rfl; go_simp; first | exact ⟨rfl, Below.refl _ _⟩ | (refine ⟨?_, Below.refl _ _⟩; rfl))); (try go_simp))
        iterate 2 (refine Rl.textR_run ?_ (fun ρ => ?_) (fun ρ W hS hd => ?_) ?_; rotate_left; (focus go_simp); (focus (obtain ⟨hc, hf⟩ := bcell hS; go_simp; first | exact ⟨rfl, Below.refl _ _⟩ | (refine ⟨?_, Below.refl _ _⟩; rfl))); (try go_simp))
        (refine Rl.textR_run ?_ (fun ρ => ?_) (fun ρ W hS hd => ?_) ?_; rotate_left; (focus go_simp); (focus (obtain ⟨hc, hf⟩ := bcell hS; go_simp; refine (K1.out W hS).mono ?_; rintro e w1 ⟨rfl, hb⟩; refine ⟨_, rfl, ?_, hb⟩; rfl)); (try go_simp))
        iterate 2 (refine Rl.textR_run ?_ (fun ρ => ?_) (fun ρ W hS hd => ?_) ?_; rotate_left; (focus go_simp); (focus (obtain ⟨hc, hf⟩ := bcell hS; go_simp; first | exact ⟨rfl, Below.refl _ _⟩ | (refine ⟨?_, Below.refl _ _⟩; rfl))); (try go_simp))
        refine Rl.textR_nil ?_
        intro ρ wA hgA hkA
        dsimp only
        have HGA := Lib.hid (below_next HBW.out hgA)
        clear hgA hkA
        go_simp
        go_wp2_with fail
        go_ret
        exact ⟨rfl, HGA.out⟩
    case pos =>
    obtain ⟨hjl, hj80⟩ := hj2
    have d1 : decide (j < ll) = true := decide_eq_true hjl
    have d2 : decide ((j : Int) < (ll : Int)) = true := decide_eq_true (by omega)
    have d3 : decide ((j : Int) < 80) = true := decide_eq_true (by omega)
    have hjI : (j : Int) < (ll : Int) := by omega
    have hw1 : IntKind.i64.wrap ((j : Int) + 1) = (j : Int) + 1 := by rw [IntKind.wrap_i64]; omega
    obtain ⟨tb, toff, had, hcells⟩ := HTL.out.2 (by omega)
    have HTC := Lib.hid (hcells j hjl)
    subst had
    have HTB := Lib.hid (show tb < w.heap.size from by
      obtain ⟨b2, off2, he, hc2⟩ := HAT.out.2 (by omega)
      injection he with he
      injection he with he1 he2
      subst he1
      exact World.block_lt_of_cell? w _ (hc2 j hjl).1)
    have HJ80 := Lib.hid hj80
    clear hcells hj80
    generalize (A j).1 = tn at *
    generalize (A j).2 = tk at *
    have HTCX := Lib.hid (fun X (hX : Below wr.heap.size wr X) => show X.cell? ⟨tb, toff + j * 2, none⟩ = some (.int .i64 tn) ∧ X.cell? ⟨tb, toff + j * 2 + 1, none⟩ = some (.int .i64 tk) from ⟨(hX.cell (p := ⟨tb, toff + j * 2, none⟩) (World.block_lt_of_cell? wr _ HTC.out.1)).trans HTC.out.1, (hX.cell (p := ⟨tb, toff + j * 2 + 1, none⟩) (World.block_lt_of_cell? wr _ HTC.out.2)).trans HTC.out.2⟩)
    have HC8 := Lib.hid (fun X (hX : Below wr.heap.size wr X) => show X.cell? ⟨q, 0, none⟩ = some (.slice (some ⟨L, oL, none⟩) f.ns.length cL) ∧ X.cell? ⟨q, 1, none⟩ = some (.slice (some ⟨Pb, oP, none⟩) f.ns.length cP) ∧ X.cell? ⟨q, 2, none⟩ = some (.int .i64 f.S) ∧ X.cell? ⟨q, 3, none⟩ = some (.int .i64 f.D) ∧ X.cell? ⟨q, 4, none⟩ = some (.int .i64 f.P) ∧ X.cell? ⟨q, 5, none⟩ = some (.int .i64 f.sw) ∧ X.cell? ⟨tb, toff + j * 2, none⟩ = some (.int .i64 tn) ∧ X.cell? ⟨tb, toff + j * 2 + 1, none⟩ = some (.int .i64 tk) from by
      have hb := (HDC.out.below hX).blk
      exact ⟨cell_of_block (o := 0) hb rfl, cell_of_block (o := 1) hb rfl, cell_of_block (o := 2) hb rfl, cell_of_block (o := 3) hb rfl, cell_of_block (o := 4) hb rfl, cell_of_block (o := 5) hb rfl, (HTCX.out X hX).1, (HTCX.out X hX).2⟩)
    have HSWB := Lib.hid (show 0 ≤ f.sw ∧ f.sw ≤ 1000000 by have := HI.out.inv.sw; have := HJ80.out; omega)
    have HQLT := Lib.hid (show q < wr.heap.size ∧ w1.heap.size ≤ wr.heap.size from by
      have h1 := (Array.getElem?_eq_some_iff.1 HDC.out.blk).1
      have := HDC.out.lo
      exact ⟨h1, by omega⟩)
    have HTELL := Lib.hid (And.intro (HI.out.tell (by have := HJ80.out; omega) tn tk) True.intro)
    have HKE := Lib.hid (tellF_keeps f tn tk)
    have K20 := Lib.hid (fun (q2 : Nat) (hn : L ≠ q2 ∧ Pb ≠ q2) X (hX : Below wr.heap.size wr X) (h2 : q2 < X.heap.size) => show Calls Tryd.prog 12 #[.agg #[.slice (some ⟨L, oL, none⟩) f.ns.length cL, .slice (some ⟨Pb, oP, none⟩) f.ns.length cP, .int .i64 f.S, .int .i64 f.D, .int .i64 f.P, .int .i64 f.sw], .int .i64 tn, .int .i64 tk] X fun e w' => Tell9End X (fun x => w1.heap.size ≤ x ∧ x ≠ q ∧ x ≠ q2) (tellF f tn tk).1 (tellF f tn tk).2 e w' from
      tell9_any (HDC.out.below hX).rows HDC.out.cap.1 HDC.out.cap.2 HSWB.out (K := fun x => w1.heap.size ≤ x ∧ x ≠ q ∧ x ≠ q2) ⟨HDC.out.lo.2.1, HDC.out.ne.1, hn.1⟩ ⟨HDC.out.lo.2.2, HDC.out.ne.2, hn.2⟩ (fun x hx => by have := HQLT.out; have := hX.size; exact ⟨by omega, by omega, by omega⟩) tn tk)
    have KT := Lib.hid (fun X (hX : Below wr.heap.size wr X) => tell_fl (HF.out.below hX) (HTR.out.below hX) (by have := HFG.out.1; have := HT.out.1; omega) (by have := HFG.out.2; have := HT.out.1; omega) (by have := HSWB.out; omega) tn tk)
    generalize hcode : (tellF f tn tk).2 = code at *
    generalize hf1 : (tellF f tn tk).1 = f1 at *
    clear hcode hf1
    go_upto_region 10 with fail
    go_cut [12, 13] (fun p c wx => ∃ q2 L2 oL2 cL2 P2 oP2 cP2 X, X = wx ∧ p = .pointer (some ⟨q2, 0, none⟩) ∧ c = .int .i64 code ∧ Doc2 w w1.heap.size wx q2 L2 oL2 cL2 P2 oP2 cP2 f1 ∧ (L2 ≠ q ∧ P2 ≠ q) ∧ q2 ≠ q ∧ Below wr.heap.size wr wx)
    case first =>
      refine wp_region_held (S := fun X => X.cell? ⟨q, 0, none⟩ = some (.slice (some ⟨L, oL, none⟩) f.ns.length cL) ∧ X.cell? ⟨q, 1, none⟩ = some (.slice (some ⟨Pb, oP, none⟩) f.ns.length cP) ∧ X.cell? ⟨q, 2, none⟩ = some (.int .i64 f.S) ∧ X.cell? ⟨q, 3, none⟩ = some (.int .i64 f.D) ∧ X.cell? ⟨q, 4, none⟩ = some (.int .i64 f.P) ∧ X.cell? ⟨q, 5, none⟩ = some (.int .i64 f.sw) ∧ X.cell? ⟨tb, toff + j * 2, none⟩ = some (.int .i64 tn) ∧ X.cell? ⟨tb, toff + j * 2 + 1, none⟩ = some (.int .i64 tk)) hmx ?_
      have HW0 := Lib.hid (show Below wr.heap.size wr wr.drew from (Below.refl _ _).drew)
      change wpAnyH _ _ _ _ _ 18 _ _ wr.drew
      generalize wr.drew = W0 at *
      have hS := HC8.out _ HW0.out
      (refine wpAnyH_take (i := 0) (v := .agg #[.slice (some ⟨L, oL, none⟩) f.ns.length cL, .slice (some ⟨Pb, oP, none⟩) f.ns.length cP, .int .i64 f.S, .int .i64 f.D, .int .i64 f.P, .int .i64 f.sw]) rfl (by decide +kernel) (by decide +kernel) (by decide +kernel) (fun _ _ _ h => h) (.inl ⟨by first | rfl | (go_simp; done), fun X hX => by obtain ⟨hx0, hx1, hx2, hx3, hx4, hx5, hx6, hx7⟩ := hX; first | (go_simp; done) | (go_simp; rfl)⟩) hS ?_)
      (refine wpAnyH_take (i := 1) (v := .slice (some ⟨tb, toff, none⟩) ll lcap) rfl (by decide +kernel) (by decide +kernel) (by decide +kernel) (fun _ _ _ h => h) (.inl ⟨by first | rfl | (go_simp; done), fun X hX => by obtain ⟨hx0, hx1, hx2, hx3, hx4, hx5, hx6, hx7⟩ := hX; first | (go_simp; done) | (go_simp; rfl)⟩) hS ?_)
      (refine wpAnyH_take (i := 2) (v := .int .i64 j) rfl (by decide +kernel) (by decide +kernel) (by decide +kernel) (fun _ _ _ h => h) (.inl ⟨by first | rfl | (go_simp; done), fun X hX => by obtain ⟨hx0, hx1, hx2, hx3, hx4, hx5, hx6, hx7⟩ := hX; first | (go_simp; done) | (go_simp; rfl)⟩) hS ?_)
      (refine wpAnyH_take (i := 3) (v := .pointer (some ⟨tb, toff + j * 2, none⟩)) rfl (by decide +kernel) (by decide +kernel) (by decide +kernel) (fun _ _ _ h => h) (.inl ⟨by first | rfl | (go_simp; done), fun X hX => by obtain ⟨hx0, hx1, hx2, hx3, hx4, hx5, hx6, hx7⟩ := hX; first | (go_simp; done) | (go_simp; rfl)⟩) hS ?_)
      (refine wpAnyH_take (i := 4) (v := .pointer (some ⟨tb, toff + j * 2, none⟩)) rfl (by decide +kernel) (by decide +kernel) (by decide +kernel) (fun _ _ _ h => h) (.inl ⟨by first | rfl | (go_simp; done), fun X hX => by obtain ⟨hx0, hx1, hx2, hx3, hx4, hx5, hx6, hx7⟩ := hX; first | (go_simp; done) | (go_simp; rfl)⟩) hS ?_)
      (refine wpAnyH_take (i := 5) (v := .int .i64 tn) rfl (by decide +kernel) (by decide +kernel) (by decide +kernel) (fun _ _ _ h => h) (.inl ⟨by first | rfl | (go_simp; done), fun X hX => by obtain ⟨hx0, hx1, hx2, hx3, hx4, hx5, hx6, hx7⟩ := hX; first | (go_simp; done) | (go_simp; rfl)⟩) hS ?_)
      (refine wpAnyH_take (i := 6) (v := .slice (some ⟨tb, toff, none⟩) ll lcap) rfl (by decide +kernel) (by decide +kernel) (by decide +kernel) (fun _ _ _ h => h) (.inl ⟨by first | rfl | (go_simp; done), fun X hX => by obtain ⟨hx0, hx1, hx2, hx3, hx4, hx5, hx6, hx7⟩ := hX; first | (go_simp; done) | (go_simp; rfl)⟩) hS ?_)
      (refine wpAnyH_take (i := 7) (v := .int .i64 j) rfl (by decide +kernel) (by decide +kernel) (by decide +kernel) (fun _ _ _ h => h) (.inl ⟨by first | rfl | (go_simp; done), fun X hX => by obtain ⟨hx0, hx1, hx2, hx3, hx4, hx5, hx6, hx7⟩ := hX; first | (go_simp; done) | (go_simp; rfl)⟩) hS ?_)
      (refine wpAnyH_take (i := 8) (v := .pointer (some ⟨tb, toff + j * 2, none⟩)) rfl (by decide +kernel) (by decide +kernel) (by decide +kernel) (fun _ _ _ h => h) (.inl ⟨by first | rfl | (go_simp; done), fun X hX => by obtain ⟨hx0, hx1, hx2, hx3, hx4, hx5, hx6, hx7⟩ := hX; first | (go_simp; done) | (go_simp; rfl)⟩) hS ?_)
      (refine wpAnyH_take (i := 9) (v := .pointer (some ⟨tb, toff + j * 2 + 1, none⟩)) rfl (by decide +kernel) (by decide +kernel) (by decide +kernel) (fun _ _ _ h => h) (.inl ⟨by first | rfl | (go_simp; done), fun X hX => by obtain ⟨hx0, hx1, hx2, hx3, hx4, hx5, hx6, hx7⟩ := hX; first | (go_simp; done) | (go_simp; rfl)⟩) hS ?_)
      (refine wpAnyH_take (i := 10) (v := .int .i64 tk) rfl (by decide +kernel) (by decide +kernel) (by decide +kernel) (fun _ _ _ h => h) (.inl ⟨by first | rfl | (go_simp; done), fun X hX => by obtain ⟨hx0, hx1, hx2, hx3, hx4, hx5, hx6, hx7⟩ := hX; first | (go_simp; done) | (go_simp; rfl)⟩) hS ?_)
      clear hS
      refine anyH_two (i := 11) (j := 15) (by decide +kernel) ?fa ?fb
      case fa =>
        refine opH_call (i := 11) rfl (by first | rfl | (go_simp; done)) (by go_simp) (K20.out (q) (HDC.out.ne) W0 HW0.out (by have := HQLT.out; have := HW0.out.size; omega)) ?_
        rintro e W1 ⟨L2, oL2, cL2, P2, oP2, cP2, rfl, hrf, hc1, hc2, hk1, hk2, hb⟩
        have HW1 := Lib.hid (below_next HW0.out hb)
        have HRF1 := Lib.hid hrf
        have HCP := Lib.hid (And.intro hc1 hc2)
        have HK := Lib.hid (And.intro hk1 hk2)
        clear hb hrf hc1 hc2 hk1 hk2
        unfold rf9C
        refine ⟨_, rfl, HC8.out _ HW1.out, ?_⟩
        have hS := HC8.out _ HW1.out
        (refine wpAnyH_take (i := 12) (v := .tuple #[.agg #[.slice (some ⟨L2, oL2, none⟩) f1.ns.length cL2, .slice (some ⟨P2, oP2, none⟩) f1.ns.length cP2, .int .i64 f1.S, .int .i64 f1.D, .int .i64 f1.P, .int .i64 f1.sw], .int .i64 code]) rfl (by decide +kernel) (by decide +kernel) (by decide +kernel) (fun _ _ _ h => h) (.inl ⟨by first | rfl | (go_simp; done), fun X hX => by obtain ⟨hx0, hx1, hx2, hx3, hx4, hx5, hx6, hx7⟩ := hX; first | (go_simp; done) | (go_simp; rfl)⟩) hS ?_)
        (refine wpAnyH_take (i := 13) (v := .agg #[.slice (some ⟨L2, oL2, none⟩) f1.ns.length cL2, .slice (some ⟨P2, oP2, none⟩) f1.ns.length cP2, .int .i64 f1.S, .int .i64 f1.D, .int .i64 f1.P, .int .i64 f1.sw]) rfl (by decide +kernel) (by decide +kernel) (by decide +kernel) (fun _ _ _ h => h) (.inl ⟨by first | rfl | (go_simp; done), fun X hX => by obtain ⟨hx0, hx1, hx2, hx3, hx4, hx5, hx6, hx7⟩ := hX; first | (go_simp; done) | (go_simp; rfl)⟩) hS ?_)
        (refine wpAnyH_take (i := 14) (v := .int .i64 code) rfl (by decide +kernel) (by decide +kernel) (by decide +kernel) (fun _ _ _ h => h) (.inl ⟨by first | rfl | (go_simp; done), fun X hX => by obtain ⟨hx0, hx1, hx2, hx3, hx4, hx5, hx6, hx7⟩ := hX; first | (go_simp; done) | (go_simp; rfl)⟩) hS ?_)
        clear hS
        refine anyH_one (i := 15) (by decide +kernel) ?_
        refine opH_val (i := 15) (v := .pointer (some ⟨W1.heap.size, 0, none⟩)) (w' := W1.alloc (.cells #[.slice none 0 0, .slice none 0 0, .int .i64 0, .int .i64 0, .int .i64 0, .int .i64 0] 34)) rfl (by first | rfl | (go_simp; done)) (by first | (go_simp; done) | (go_simp; rfl)) ?_
        have hb := below_alloc (Below.refl _ W1) (.cells #[.slice none 0 0, .slice none 0 0, .int .i64 0, .int .i64 0, .int .i64 0, .int .i64 0] 34)
        have HQ2 := Lib.hid (World.alloc_heap_new W1 (.cells #[.slice none 0 0, .slice none 0 0, .int .i64 0, .int .i64 0, .int .i64 0, .int .i64 0] 34))
        have HLTQ := Lib.hid (Array.getElem?_eq_some_iff.1 HQ2.out).1
        have HW2 := Lib.hid (below_next HW1.out hb)
        have HQZ := Lib.hid HW1.out.size
        have HNE := Lib.hid (show L2 ≠ W1.heap.size ∧ P2 ≠ W1.heap.size from by
          have h1 := World.block_lt_of_cell? _ _ (HRF1.out.nd 0 HRF1.out.len.1).1
          have h2 := World.block_lt_of_cell? _ _ (HRF1.out.sp 0 HRF1.out.len.1)
          dsimp only at h1 h2
          omega)
        have HRF2 := Lib.hid (HRF1.out.below hb)
        clear hb
        generalize W1.alloc (.cells #[.slice none 0 0, .slice none 0 0, .int .i64 0, .int .i64 0, .int .i64 0, .int .i64 0] 34) = W2 at *
        refine ⟨HC8.out _ HW2.out, ?_⟩
        have hw := wrote_all (l := [.slice (some ⟨L2, oL2, none⟩) f1.ns.length cL2, .slice (some ⟨P2, oP2, none⟩) f1.ns.length cP2, .int .i64 f1.S, .int .i64 f1.D, .int .i64 f1.P, .int .i64 f1.sw]) HQ2.out rfl
        have HBE := Lib.hid (hw.below HW2.out HQZ.out)
        have HDOC := Lib.hid (show Doc2 w w1.heap.size (W2.setCells (W1.heap.size) 0 [.slice (some ⟨L2, oL2, none⟩) f1.ns.length cL2, .slice (some ⟨P2, oP2, none⟩) f1.ns.length cP2, .int .i64 f1.S, .int .i64 f1.D, .int .i64 f1.P, .int .i64 f1.sw]) (W1.heap.size) L2 oL2 cL2 P2 oP2 cP2 f1 from
          ⟨hw.there, HRF2.out.wrote hw HNE.out.1 HNE.out.2, HCP.out, HNE.out, below_next HBW.out HBE.out, by have := HQZ.out; have := HQLT.out; omega, HK.out.1.1, HK.out.2.1⟩)
        have HQNE := Lib.hid (show W1.heap.size ≠ q by have := HQZ.out; have := HQLT.out; omega)
        clear hw
        refine anyH_store (i := 16) (by decide +kernel) rfl (by first | rfl | (go_simp; done)) (exec_store_allH 34 _ _ rfl (W1.heap.size) [.slice (some ⟨L2, oL2, none⟩) f1.ns.length cL2, .slice (some ⟨P2, oP2, none⟩) f1.ns.length cP2, .int .i64 f1.S, .int .i64 f1.D, .int .i64 f1.P, .int .i64 f1.sw] (by go_simp) (by go_simp) HQ2.out rfl (by kernel_rfl) rfl) (HC8.out _ HBE.out) ?_
        generalize W2.setCells (W1.heap.size) 0 [.slice (some ⟨L2, oL2, none⟩) f1.ns.length cL2, .slice (some ⟨P2, oP2, none⟩) f1.ns.length cP2, .int .i64 f1.S, .int .i64 f1.D, .int .i64 f1.P, .int .i64 f1.sw] = W99 at *
        have hS := HC8.out _ HBE.out
        (refine wpAnyH_take (i := 17) (v := .int .i64 code) rfl (by decide +kernel) (by decide +kernel) (by decide +kernel) (fun _ _ _ h => h) (.inl ⟨by first | rfl | (go_simp; done), fun X hX => by obtain ⟨hx0, hx1, hx2, hx3, hx4, hx5, hx6, hx7⟩ := hX; first | (go_simp; done) | (go_simp; rfl)⟩) hS ?_)
        clear hS
        refine wpAnyH_done (by decide +kernel) ?_ _
        go_simp
        go_wp2_with fail
        go_meet
        exact ⟨_, _, _, _, _, _, _, _, rfl, rfl, rfl, HDOC.out, ⟨HK.out.1.2.1, HK.out.2.2.1⟩, HQNE.out, HBE.out⟩
      case fb =>
        have HOLD := Lib.hid (show L ≠ W0.heap.size ∧ Pb ≠ W0.heap.size from by
          have h1 := World.block_lt_of_cell? _ _ ((HDC.out.below HW0.out).rows.nd 0 HDC.out.rows.len.1).1
          have h2 := World.block_lt_of_cell? _ _ ((HDC.out.below HW0.out).rows.sp 0 HDC.out.rows.len.1)
          dsimp only at h1 h2
          omega)
        refine opH_val (i := 15) (v := .pointer (some ⟨W0.heap.size, 0, none⟩)) (w' := W0.alloc (.cells #[.slice none 0 0, .slice none 0 0, .int .i64 0, .int .i64 0, .int .i64 0, .int .i64 0] 34)) rfl (by first | rfl | (go_simp; done)) (by first | (go_simp; done) | (go_simp; rfl)) ?_
        have hb := below_alloc (Below.refl _ W0) (.cells #[.slice none 0 0, .slice none 0 0, .int .i64 0, .int .i64 0, .int .i64 0, .int .i64 0] 34)
        have HQ1 := Lib.hid (World.alloc_heap_new W0 (.cells #[.slice none 0 0, .slice none 0 0, .int .i64 0, .int .i64 0, .int .i64 0, .int .i64 0] 34))
        have HLTQ := Lib.hid (Array.getElem?_eq_some_iff.1 HQ1.out).1
        have HW1 := Lib.hid (below_next HW0.out hb)
        have HQZ := Lib.hid HW0.out.size
        clear hb
        generalize W0.alloc (.cells #[.slice none 0 0, .slice none 0 0, .int .i64 0, .int .i64 0, .int .i64 0, .int .i64 0] 34) = W1 at *
        refine ⟨HC8.out _ HW1.out, ?_⟩
        refine anyH_one (i := 11) (by decide +kernel) ?_
        refine opH_call (i := 11) rfl (by first | rfl | (go_simp; done)) (by go_simp) (K20.out (W0.heap.size) (HOLD.out) W1 HW1.out (HLTQ.out)) ?_
        rintro e W2 ⟨L2, oL2, cL2, P2, oP2, cP2, rfl, hrf, hc1, hc2, hk1, hk2, hb⟩
        have HW2 := Lib.hid (below_next HW1.out hb)
        have HRF2 := Lib.hid hrf
        have HCP := Lib.hid (And.intro hc1 hc2)
        have HK := Lib.hid (And.intro hk1 hk2)
        have HQ2 := Lib.hid ((hb.block _ (Array.getElem?_eq_some_iff.1 HQ1.out).1).trans HQ1.out)
        clear hb hrf hc1 hc2 hk1 hk2
        unfold rf9C
        refine ⟨_, rfl, HC8.out _ HW2.out, ?_⟩
        have hS := HC8.out _ HW2.out
        (refine wpAnyH_take (i := 12) (v := .tuple #[.agg #[.slice (some ⟨L2, oL2, none⟩) f1.ns.length cL2, .slice (some ⟨P2, oP2, none⟩) f1.ns.length cP2, .int .i64 f1.S, .int .i64 f1.D, .int .i64 f1.P, .int .i64 f1.sw], .int .i64 code]) rfl (by decide +kernel) (by decide +kernel) (by decide +kernel) (fun _ _ _ h => h) (.inl ⟨by first | rfl | (go_simp; done), fun X hX => by obtain ⟨hx0, hx1, hx2, hx3, hx4, hx5, hx6, hx7⟩ := hX; first | (go_simp; done) | (go_simp; rfl)⟩) hS ?_)
        (refine wpAnyH_take (i := 13) (v := .agg #[.slice (some ⟨L2, oL2, none⟩) f1.ns.length cL2, .slice (some ⟨P2, oP2, none⟩) f1.ns.length cP2, .int .i64 f1.S, .int .i64 f1.D, .int .i64 f1.P, .int .i64 f1.sw]) rfl (by decide +kernel) (by decide +kernel) (by decide +kernel) (fun _ _ _ h => h) (.inl ⟨by first | rfl | (go_simp; done), fun X hX => by obtain ⟨hx0, hx1, hx2, hx3, hx4, hx5, hx6, hx7⟩ := hX; first | (go_simp; done) | (go_simp; rfl)⟩) hS ?_)
        (refine wpAnyH_take (i := 14) (v := .int .i64 code) rfl (by decide +kernel) (by decide +kernel) (by decide +kernel) (fun _ _ _ h => h) (.inl ⟨by first | rfl | (go_simp; done), fun X hX => by obtain ⟨hx0, hx1, hx2, hx3, hx4, hx5, hx6, hx7⟩ := hX; first | (go_simp; done) | (go_simp; rfl)⟩) hS ?_)
        clear hS
        have HNE := Lib.hid (show L2 ≠ W0.heap.size ∧ P2 ≠ W0.heap.size from ⟨HK.out.1.2.2, HK.out.2.2.2⟩)
        have hw := wrote_all (l := [.slice (some ⟨L2, oL2, none⟩) f1.ns.length cL2, .slice (some ⟨P2, oP2, none⟩) f1.ns.length cP2, .int .i64 f1.S, .int .i64 f1.D, .int .i64 f1.P, .int .i64 f1.sw]) HQ2.out rfl
        have HBE := Lib.hid (hw.below HW2.out HQZ.out)
        have HDOC := Lib.hid (show Doc2 w w1.heap.size (W2.setCells (W0.heap.size) 0 [.slice (some ⟨L2, oL2, none⟩) f1.ns.length cL2, .slice (some ⟨P2, oP2, none⟩) f1.ns.length cP2, .int .i64 f1.S, .int .i64 f1.D, .int .i64 f1.P, .int .i64 f1.sw]) (W0.heap.size) L2 oL2 cL2 P2 oP2 cP2 f1 from
          ⟨hw.there, HRF2.out.wrote hw HNE.out.1 HNE.out.2, HCP.out, HNE.out, below_next HBW.out HBE.out, by have := HQZ.out; have := HQLT.out; omega, HK.out.1.1, HK.out.2.1⟩)
        have HQNE := Lib.hid (show W0.heap.size ≠ q by have := HQZ.out; have := HQLT.out; omega)
        clear hw
        refine anyH_store (i := 16) (by decide +kernel) rfl (by first | rfl | (go_simp; done)) (exec_store_allH 34 _ _ rfl (W0.heap.size) [.slice (some ⟨L2, oL2, none⟩) f1.ns.length cL2, .slice (some ⟨P2, oP2, none⟩) f1.ns.length cP2, .int .i64 f1.S, .int .i64 f1.D, .int .i64 f1.P, .int .i64 f1.sw] (by go_simp) (by go_simp) HQ2.out rfl (by kernel_rfl) rfl) (HC8.out _ HBE.out) ?_
        generalize W2.setCells (W0.heap.size) 0 [.slice (some ⟨L2, oL2, none⟩) f1.ns.length cL2, .slice (some ⟨P2, oP2, none⟩) f1.ns.length cP2, .int .i64 f1.S, .int .i64 f1.D, .int .i64 f1.P, .int .i64 f1.sw] = W99 at *
        have hS := HC8.out _ HBE.out
        (refine wpAnyH_take (i := 17) (v := .int .i64 code) rfl (by decide +kernel) (by decide +kernel) (by decide +kernel) (fun _ _ _ h => h) (.inl ⟨by first | rfl | (go_simp; done), fun X hX => by obtain ⟨hx0, hx1, hx2, hx3, hx4, hx5, hx6, hx7⟩ := hX; first | (go_simp; done) | (go_simp; rfl)⟩) hS ?_)
        clear hS
        refine wpAnyH_done (by decide +kernel) ?_ _
        go_simp
        go_wp2_with fail
        go_meet
        exact ⟨_, _, _, _, _, _, _, _, rfl, rfl, rfl, HDOC.out, ⟨HK.out.1.2.1, HK.out.2.2.1⟩, HQNE.out, HBE.out⟩
    case rest =>
    obtain ⟨q2, L2, oL2, cL2, P2, oP2, cP2, wx, rfl, rfl, rfl, hdoc, hnq, hqq, hbx⟩ := hcut
    have HDX := Lib.hid hdoc
    have HNQ := Lib.hid hnq
    have HQQ := Lib.hid hqq
    have HWX := Lib.hid hbx
    have HS2 := Lib.hid (HTCX.out _ hbx)
    have HQB := Lib.hid ((hbx.block _ (Array.getElem?_eq_some_iff.1 HDC.out.blk).1).trans HDC.out.blk)
    have HRX := Lib.hid ((hbx.block _ (Array.getElem?_eq_some_iff.1 HRL.out).1).trans HRL.out)
    clear hdoc hnq hqq hbx K20
    go_upto_region 11 with fail
    refine wp_region_held (S := fun X => X.cell? ⟨tb, toff + j * 2, none⟩ = some (.int .i64 tn) ∧ X.cell? ⟨tb, toff + j * 2 + 1, none⟩ = some (.int .i64 tk)) hmx ?_
    have HW0 := Lib.hid (show Below wx.heap.size wx wx.drew from (Below.refl _ _).drew)
    change wpAnyH _ _ _ _ _ 14 _ _ wx.drew
    generalize wx.drew = V0 at *
    have hS := HTCX.out _ (below_next HWX.out HW0.out)
    (refine wpAnyH_take (i := 0) (v := .pointer (some ⟨F, 0, none⟩)) rfl (by decide +kernel) (by decide +kernel) (by decide +kernel) (fun _ _ _ h => h) (.inl ⟨by first | rfl | (go_simp; done), fun X hX => by obtain ⟨hx0, hx1⟩ := hX; first | (go_simp; done) | (go_simp; rfl)⟩) hS ?_)
    (refine wpAnyH_take (i := 1) (v := .slice (some ⟨tb, toff, none⟩) ll lcap) rfl (by decide +kernel) (by decide +kernel) (by decide +kernel) (fun _ _ _ h => h) (.inl ⟨by first | rfl | (go_simp; done), fun X hX => by obtain ⟨hx0, hx1⟩ := hX; first | (go_simp; done) | (go_simp; rfl)⟩) hS ?_)
    (refine wpAnyH_take (i := 2) (v := .int .i64 j) rfl (by decide +kernel) (by decide +kernel) (by decide +kernel) (fun _ _ _ h => h) (.inl ⟨by first | rfl | (go_simp; done), fun X hX => by obtain ⟨hx0, hx1⟩ := hX; first | (go_simp; done) | (go_simp; rfl)⟩) hS ?_)
    (refine wpAnyH_take (i := 3) (v := .pointer (some ⟨tb, toff + j * 2, none⟩)) rfl (by decide +kernel) (by decide +kernel) (by decide +kernel) (fun _ _ _ h => h) (.inl ⟨by first | rfl | (go_simp; done), fun X hX => by obtain ⟨hx0, hx1⟩ := hX; first | (go_simp; done) | (go_simp; rfl)⟩) hS ?_)
    (refine wpAnyH_take (i := 4) (v := .pointer (some ⟨tb, toff + j * 2, none⟩)) rfl (by decide +kernel) (by decide +kernel) (by decide +kernel) (fun _ _ _ h => h) (.inl ⟨by first | rfl | (go_simp; done), fun X hX => by obtain ⟨hx0, hx1⟩ := hX; first | (go_simp; done) | (go_simp; rfl)⟩) hS ?_)
    (refine wpAnyH_take (i := 5) (v := .int .i64 tn) rfl (by decide +kernel) (by decide +kernel) (by decide +kernel) (fun _ _ _ h => h) (.inl ⟨by first | rfl | (go_simp; done), fun X hX => by obtain ⟨hx0, hx1⟩ := hX; first | (go_simp; done) | (go_simp; rfl)⟩) hS ?_)
    (refine wpAnyH_take (i := 6) (v := .slice (some ⟨tb, toff, none⟩) ll lcap) rfl (by decide +kernel) (by decide +kernel) (by decide +kernel) (fun _ _ _ h => h) (.inl ⟨by first | rfl | (go_simp; done), fun X hX => by obtain ⟨hx0, hx1⟩ := hX; first | (go_simp; done) | (go_simp; rfl)⟩) hS ?_)
    (refine wpAnyH_take (i := 7) (v := .int .i64 j) rfl (by decide +kernel) (by decide +kernel) (by decide +kernel) (fun _ _ _ h => h) (.inl ⟨by first | rfl | (go_simp; done), fun X hX => by obtain ⟨hx0, hx1⟩ := hX; first | (go_simp; done) | (go_simp; rfl)⟩) hS ?_)
    (refine wpAnyH_take (i := 8) (v := .pointer (some ⟨tb, toff + j * 2, none⟩)) rfl (by decide +kernel) (by decide +kernel) (by decide +kernel) (fun _ _ _ h => h) (.inl ⟨by first | rfl | (go_simp; done), fun X hX => by obtain ⟨hx0, hx1⟩ := hX; first | (go_simp; done) | (go_simp; rfl)⟩) hS ?_)
    (refine wpAnyH_take (i := 9) (v := .pointer (some ⟨tb, toff + j * 2 + 1, none⟩)) rfl (by decide +kernel) (by decide +kernel) (by decide +kernel) (fun _ _ _ h => h) (.inl ⟨by first | rfl | (go_simp; done), fun X hX => by obtain ⟨hx0, hx1⟩ := hX; first | (go_simp; done) | (go_simp; rfl)⟩) hS ?_)
    (refine wpAnyH_take (i := 10) (v := .int .i64 tk) rfl (by decide +kernel) (by decide +kernel) (by decide +kernel) (fun _ _ _ h => h) (.inl ⟨by first | rfl | (go_simp; done), fun X hX => by obtain ⟨hx0, hx1⟩ := hX; first | (go_simp; done) | (go_simp; rfl)⟩) hS ?_)
    (refine wpAnyH_take (i := 12) (v := .int .i64 code) rfl (by decide +kernel) (by decide +kernel) (by decide +kernel) (fun _ _ _ h => h) (.inl ⟨by first | rfl | (go_simp; done), fun X hX => by obtain ⟨hx0, hx1⟩ := hX; first | (go_simp; done) | (go_simp; rfl)⟩) hS ?_)
    clear hS
    have HV := Lib.hid (below_next HWX.out HW0.out)
    refine anyH_one (i := 11) (by decide +kernel) ?_
    refine opH_call (i := 11) rfl (by first | rfl | (go_simp; done)) (by go_simp) (KT.out V0 HV.out) ?_
    rintro e V1 ⟨rfl, hfl, hfr⟩
    have HF1 := Lib.hid hfl
    have hFG := HFG.out
    have hBC := HBC.out
    have hTB := HTB.out
    have HD1 := Lib.hid ((HDX.out.below HW0.out).fr hfr (fun x hx => by rcases hx with rfl | rfl; exact ⟨hFG.1, hBC.1⟩; exact ⟨hFG.2, hBC.2⟩))
    have hlo := HDC.out.lo
    have HQB1 := Lib.hid ((hfr.block q (Nat.lt_of_lt_of_le (Array.getElem?_eq_some_iff.1 HQB.out).1 HW0.out.size) (fun e => by rcases e with e | e <;> omega)).trans ((HW0.out.block _ (Array.getElem?_eq_some_iff.1 HQB.out).1).trans HQB.out))
    have hUF := HUF.out
    have HRX1 := Lib.hid ((hfr.block (w.heap.size + 1) (Nat.lt_of_lt_of_le (Array.getElem?_eq_some_iff.1 HRX.out).1 HW0.out.size) (fun e => by rcases e with e | e <;> omega)).trans ((HW0.out.block _ (Array.getElem?_eq_some_iff.1 HRX.out).1).trans HRX.out))
    have hS0 := HTCX.out _ HV.out
    have hS : V1.cell? ⟨tb, toff + j * 2, none⟩ = some (.int .i64 tn) ∧ V1.cell? ⟨tb, toff + j * 2 + 1, none⟩ = some (.int .i64 tk) := ⟨(World.cell?_of_block (hfr.block tb (World.block_lt_of_cell? V0 _ hS0.1) (fun e => by rcases e with e | e <;> omega))).trans hS0.1, (World.cell?_of_block (hfr.block tb (World.block_lt_of_cell? V0 _ hS0.1) (fun e => by rcases e with e | e <;> omega))).trans hS0.2⟩
    clear hfl hfr hS0 KT hFG hBC hTB hlo hUF
    refine ⟨_, rfl, hS, ?_⟩
    (refine wpAnyH_take (i := 13) (v := .bool false) rfl (by decide +kernel) (by decide +kernel) (by decide +kernel) (fun _ _ _ h => h) (.inl ⟨by first | rfl | (go_simp; done), fun X hX => by obtain ⟨hx0, hx1⟩ := hX; first | (go_simp; done) | (go_simp; rfl)⟩) hS ?_)
    clear hS
    refine wpAnyH_done (by decide +kernel) ?_ _
    go_simp
    go_upto_region 13 with fail
    refine wp_region_lit ?_
    refine wpList_load_all rfl 34 _ rfl q2 [.slice (some ⟨L2, oL2, none⟩) f1.ns.length cL2, .slice (some ⟨P2, oP2, none⟩) f1.ns.length cP2, .int .i64 f1.S, .int .i64 f1.D, .int .i64 f1.P, .int .i64 f1.sw] _ (by go_simp) HD1.out.blk Tryd.underlying34 rfl (by kernel_rfl) ?_
    refine wpList_store_all rfl 34 _ _ rfl q (T := 34) [.slice (some ⟨L2, oL2, none⟩) f1.ns.length cL2, .slice (some ⟨P2, oP2, none⟩) f1.ns.length cP2, .int .i64 f1.S, .int .i64 f1.D, .int .i64 f1.P, .int .i64 f1.sw] (by go_simp) (by go_simp) HQB1.out rfl (by kernel_rfl) rfl ?_
    intro V2 hw
    have HD2 := Lib.hid (HD1.out.lay hw HNQ.out HDC.out.lo.1 HB.out.size)
    have hlo := HDC.out.lo
    have hBC := HBC.out
    have hz := HB.out.size
    have HF2 := Lib.hid (show Fl V2 F G f1 from ⟨HF1.out.ne, HF1.out.len, (hw.rest F (by omega)).trans HF1.out.blk, (hw.rest G (by omega)).trans HF1.out.row⟩)
    have hU1 := HU1.out.size
    have hUZ := HUZ.out
    have HRX2 := Lib.hid ((hw.rest (w.heap.size + 1) (by omega)).trans HRX1.out)
    clear hw hlo hBC hz hU1 hUZ
    have HFBF := Lib.hid (HTELL.out.1)
    have HGD1 := Lib.hid (HFBF.out)
    have KL := like9_any HF2.out HD2.out.rows HD2.out.cap.1 HD2.out.cap.2 (fun i hi hg => by
      have := sub_iff.1 HGD1.out.inv.sub i hi hg
      unfold allF at this
      rw [firstI_get _ _ hi, decide_eq_true_eq] at this
      omega) (HGD1.out.fb (by have := HJ80.out; omega)) (HT.out.below HD2.out.bel)
    unfold rf9C at KL
    have HKL := Lib.hid KL
    clear KL
    have b0 := cell_of_block (o := 0) HD2.out.blk rfl
    have b1 := cell_of_block (o := 1) HD2.out.blk rfl
    have b2 := cell_of_block (o := 2) HD2.out.blk rfl
    have b3 := cell_of_block (o := 3) HD2.out.blk rfl
    have b4 := cell_of_block (o := 4) HD2.out.blk rfl
    have b5 := cell_of_block (o := 5) HD2.out.blk rfl
    go_upto_region 14 with fail
    go_wp2_with fail
    refine HKL.out.mono ?_
    rintro e V3 ⟨rfl, hb3⟩
    have HD3 := Lib.hid (HD2.out.below hb3)
    have HF3 := Lib.hid (HF2.out.below hb3)
    have HR3 := Lib.hid ((hb3.block _ (Array.getElem?_eq_some_iff.1 HRX2.out).1).trans HRX2.out)
    have HKP1 := Lib.hid (show f1.S = S ∧ f1.D = D ∧ f1.P = P from ⟨HKE.out.2.1.trans HKP.out.1, HKE.out.2.2.1.trans HKP.out.2.1, HKE.out.2.2.2.1.trans HKP.out.2.2⟩)
    clear hb3 HKL b0 b1 b2 b3 b4 b5
    go_wp2_with fail
    go_roundw
    case rel => exact ⟨j + 1, f1, L2, oL2, cL2, P2, oP2, cP2, by have := HJ80.out; omega, by go_num, HF3.out, HGD1.out, HKP1.out, HD3.out, HR3.out⟩
    case measure => have := HJ80.out; simp [intOf]; omega
end Go.Proofs.YtnofgffkfapodaaDoor
