/- Clocks over a base; what each law ends with; the walk of TimersNobody (layer 17). No condition. -/
import Derived.Test.YtfakejfpicjedaaTmH
namespace Go.Proofs.Ytfakejfpicjedaa
set_option linter.unusedVariables false
open Go.ChangeShapes Go.WideShapes Go.ChangeAt Go.RowKit Tm
attribute [local go_sem ↓] Go.wp_at_zero Go.wp_at_succ comesTo_value_eq comesTo_skip_eq comesTo_enter_eq

/-- a clock whose blocks lie from B on; what lies ahead is as it was in w0 -/
structure CB (B : Nat) (w0 w : World) (c : Nat) (R : List AL) : Prop where
  ex : ∃ Q m v, Ck w c Q m v R ∧ B ≤ Q ∧ B ≤ m ∧ ∀ g, v.ownBlock = some g → B ≤ g
  cb : B ≤ c
  bel : Below B w0 w
theorem CB.below {B : Nat} {w0 w w' : World} {c : Nat} {R : List AL} (h : CB B w0 w c R) (hb : Below w.heap.size w w') : CB B w0 w' c R := by
  obtain ⟨Q, m, v, hK, h1, h2, h3⟩ := h.ex
  exact ⟨⟨Q, m, v, hK.below hb, h1, h2, h3⟩, h.cb, h.bel.trans (hb.mono (Nat.le_of_lt (Nat.lt_of_le_of_lt h1 hK.lt.2.1)))⟩
theorem CB.step {B : Nat} {w0 w w' : World} {c Q m : Nat} {v v' : Value} {R R' : List AL} (hK : Ck w c Q m v R) (h1 : B ≤ Q) (h2 : B ≤ m) (h3 : ∀ g, v.ownBlock = some g → B ≤ g) (hc : B ≤ c) (hb : Below B w0 w)
    (hF : FrT Q m v w w') (hR : RowN w v v') (hK' : Ck w' c Q m v' R') : CB B w0 w' c R' :=
  ⟨⟨Q, m, v', hK', h1, h2, fun g hg => by
    rcases hR g hg with h4 | h4
    · exact h3 g h4
    · exact Nat.le_trans (Nat.le_of_lt (Nat.lt_of_le_of_lt h1 hK.lt.2.1)) h4⟩, hc, FrT.below hF hb hK.lt.2.1 h1 h2 h3⟩
theorem CB.size {B : Nat} {w0 w : World} {c : Nat} {R : List AL} (h : CB B w0 w c R) : B ≤ w.heap.size := by
  obtain ⟨Q, m, v, hK, h1, _⟩ := h.ex
  exact Nat.le_of_lt (Nat.lt_of_le_of_lt h1 hK.lt.2.1)
theorem CB.len {B : Nat} {w0 w : World} {c : Nat} {R : List AL} (h : CB B w0 w c R) : R.length ≤ 4096 := by
  obtain ⟨Q, m, v, hK, _⟩ := h.ex
  exact hK.len
theorem cb_new {B : Nat} {w0 w : World} (h : Below B w0 w) (hB : B ≤ w.heap.size) : Calls Try.prog 8 #[] w fun e w' => ∃ c, e = .returned (.pointer (some ⟨c, 0, none⟩)) ∧ CB B w0 w' c [] := by
  refine (ck_new w).mono ?_
  rintro e w' ⟨c, Q, m, rfl, hK, hb, h1, h2, h3⟩
  exact ⟨c, rfl, ⟨Q, m, _, hK, Nat.le_trans hB h2, Nat.le_trans hB h3, (fun g hg => by cases hg)⟩, Nat.le_trans hB h1, h.trans (hb.mono hB)⟩
theorem cb_set {B : Nat} {w0 w : World} {c : Nat} {R : List AL} (h : CB B w0 w c R) {id t : Int} (hid : i64T id) (hti : i64T t) : Calls Try.prog 10 #[.pointer (some ⟨c, 0, none⟩), .int .i64 id, .int .i64 t] w fun e w' => e = .returned (.int .i64 (setR R id t).2) ∧ CB B w0 w' c (setR R id t).1 := by
  obtain ⟨Q, m, v, hK, h1, h2, h3⟩ := h.ex
  refine (ck_set hK hid hti).mono ?_
  rintro e w' ⟨rfl, v', hK', hF, hR⟩
  exact ⟨rfl, CB.step hK h1 h2 h3 h.cb h.bel hF hR hK'⟩
theorem cb_drop {B : Nat} {w0 w : World} {c : Nat} {R : List AL} (h : CB B w0 w c R) {id : Int} (hid : i64T id) : Calls Try.prog 12 #[.pointer (some ⟨c, 0, none⟩), .int .i64 id] w fun e w' => e = .returned (.bool (inR R id)) ∧ CB B w0 w' c (delR R id) := by
  obtain ⟨Q, m, v, hK, h1, h2, h3⟩ := h.ex
  refine (ck_drop hK hid).mono ?_
  rintro e w' ⟨rfl, v', hK', hF, hR⟩
  exact ⟨rfl, CB.step hK h1 h2 h3 h.cb h.bel hF hR hK'⟩
theorem cb_due {B : Nat} {w0 w : World} {c : Nat} {R : List AL} (h : CB B w0 w c R) (t : Int) : Calls Try.prog 14 #[.pointer (some ⟨c, 0, none⟩), .int .i64 t] w fun e w' => ∃ u, e = .returned u ∧ RowD w' B u (dueR R t) ∧ CB B w0 w' c (restR R t) := by
  obtain ⟨Q, m, v, hK, h1, h2, h3⟩ := h.ex
  refine (ck_due hK t).mono ?_
  rintro e w' ⟨u, rfl, hD, v', hK', hF, hR, _⟩
  refine ⟨u, rfl, ⟨hD.1, ?_⟩, CB.step hK h1 h2 h3 h.cb h.bel hF hR hK'⟩
  rcases hD.2 with h4 | ⟨g, cap, cur, a1, a2, a3⟩
  · exact .inl h4
  · exact .inr ⟨g, cap, cur, a1, Nat.le_trans h.size a2, a3⟩
theorem cb_len {B : Nat} {w0 w : World} {c : Nat} {R : List AL} (h : CB B w0 w c R) : Calls Try.prog 16 #[.pointer (some ⟨c, 0, none⟩)] w fun e w' => e = .returned (.int .i64 (R.length : Int)) ∧ w' = w := by
  obtain ⟨Q, m, v, hK, _⟩ := h.ex
  exact ck_len hK
theorem cb_next {B : Nat} {w0 w : World} {c : Nat} {R : List AL} (h : CB B w0 w c R) : Calls Try.prog 17 #[.pointer (some ⟨c, 0, none⟩)] w fun e w' => e = .returned (.int .i64 (nextR R)) ∧ w' = w := by
  obtain ⟨Q, m, v, hK, _⟩ := h.ex
  exact ck_next hK
theorem cb_at {B : Nat} {w0 w : World} {c : Nat} {R : List AL} (h : CB B w0 w c R) {id : Int} (hid : i64T id) : Calls Try.prog 15 #[.pointer (some ⟨c, 0, none⟩), .int .i64 id] w fun e w' => e = .returned (.tuple #[.int .i64 ((atR R id).getD 0), .bool (atR R id).isSome]) ∧ w' = w := by
  obtain ⟨Q, m, v, hK, _⟩ := h.ex
  exact ck_at hK hid
theorem eq_one21 (W : World) : (Op.equalIn 10000 42 (.agg #[.int .i64 2, .int .i64 1]) (.agg #[.int .i64 2, .int .i64 1])).run Try.prog W = .ok true W := by kernel_rfl
set_option maxRecDepth 100000 in
set_option maxHeartbeats 1000000 in
theorem one_any (w : World) : Calls Try.prog 18 #[] w fun e w' => e = .returned (.bool true) ∧ Below w.heap.size w w' := by
  have qz := eq_one21
  have i1 : i64T 1 := by unfold i64T; omega
  have i2 : i64T 2 := by unfold i64T; omega
  have i3 : i64T 3 := by unfold i64T; omega
  have i5 : i64T 5 := by unfold i64T; omega
  have KN := Lib.hid (cb_new (Below.refl w.heap.size w) (Nat.le_refl _))
  go_enter Try.func18, Try.ntmps18
  go_wp2_with fail
  refine KN.out.mono ?_
  rintro e w1 ⟨c, rfl, h1⟩
  have K1 := Lib.hid (show Calls Try.prog 10 #[.pointer (some ⟨c, 0, none⟩), .int .i64 1, .int .i64 5] w1 fun e w' => e = .returned (.int .i64 0) ∧ CB w.heap.size w w' c [(5, 1)] from cb_set h1 i1 i5)
  clear h1 KN
  go_wp2_with fail
  refine K1.out.mono ?_
  rintro e w2 ⟨rfl, h2⟩
  have K2 := Lib.hid (show Calls Try.prog 10 #[.pointer (some ⟨c, 0, none⟩), .int .i64 2, .int .i64 3] w2 fun e w' => e = .returned (.int .i64 0) ∧ CB w.heap.size w w' c [(3, 2), (5, 1)] from cb_set h2 i2 i3)
  clear h2 K1
  go_wp2_with fail
  refine K2.out.mono ?_
  rintro e w3 ⟨rfl, h3⟩
  have K3 := Lib.hid (show Calls Try.prog 10 #[.pointer (some ⟨c, 0, none⟩), .int .i64 1, .int .i64 2] w3 fun e w' => e = .returned (.int .i64 0) ∧ CB w.heap.size w w' c [(2, 1), (3, 2)] from cb_set h3 i1 i2)
  clear h3 K2
  go_wp2_with fail
  refine K3.out.mono ?_
  rintro e w4 ⟨rfl, h4⟩
  have K4 := Lib.hid (show Calls Try.prog 14 #[.pointer (some ⟨c, 0, none⟩), .int .i64 4] w4 fun e w' => ∃ u, e = .returned u ∧ RowD w' w.heap.size u [(2, 1), (3, 2)] ∧ CB w.heap.size w w' c [] from cb_due h4 4)
  clear h4 K3
  go_wp2_with fail
  refine K4.out.mono ?_
  rintro e w5 ⟨u, rfl, hD, h5⟩
  obtain ⟨g, cap, rfl, _, q0, q1⟩ := hD.cells (k := 0) (by decide)
  rw [Nat.zero_mul] at q0 q1
  have x0 : w5.cell? ⟨g, 0, none⟩ = some (.int .i64 2) := q0
  have x1 : w5.cell? ⟨g, 1, none⟩ = some (.int .i64 1) := q1
  have K5 := Lib.hid (show Calls Try.prog 17 #[.pointer (some ⟨c, 0, none⟩)] w5 fun e w' => e = .returned (.int .i64 1099511627776) ∧ w' = w5 from cb_next h5)
  have HB := Lib.hid h5.bel
  clear h5 K4 hD q0 q1 i1 i2 i3 i5
  simp only [List.length_cons, List.length_nil]
  go_wp2_with fail
  refine K5.out.mono ?_
  rintro e w6 ⟨rfl, hw⟩
  obtain rfl := hw
  go_wp2_with fail
  go_ret
  exact ⟨rfl, HB.out⟩
set_option maxRecDepth 100000 in
set_option maxHeartbeats 2000000 in
theorem tnobody_walk (k u t : Int) (w : World) : Calls Try.prog 6 #[.agg #[.int .i64 k, .int .i64 u, .int .i64 t]] w fun e w' => e = .returned (.bool true) ∧ Below w.heap.size w w' := by
  have HB0 := Lib.hid (below_alloc (Below.refl _ w) (.cells #[.int .i64 k, .int .i64 u, .int .i64 t] 29))
  have HN0 := Lib.hid (World.alloc_heap_new w (.cells #[.int .i64 k, .int .i64 u, .int .i64 t] 29))
  go_enter Try.func6, Try.ntmps6
  go_upto_region 1 with fail
  generalize w.alloc (.cells #[.int .i64 k, .int .i64 u, .int .i64 t] 29) = W1 at *
  obtain ⟨A, hA⟩ : ∃ A, A = w.heap.size := ⟨_, rfl⟩
  have HAW := Lib.hid hA
  rw [← hA] at HN0 ⊢
  clear hA
  go_wp2_with fail
  go_loopw [3] (fun i wr => ∃ j : Nat, j ≤ 2 ∧ i = .int .i64 j ∧ Below W1.heap.size W1 wr) (fun i _ => 2 - (intOf i).toNat)
  case atStart => exact ⟨0, Nat.zero_le _, rfl, Below.refl _ _⟩
  case round =>
    obtain ⟨j, hj, rfl, hbel⟩ := hrel
    have HBW := Lib.hid hbel
    have HNB := Lib.hid (World.alloc_heap_new wr (.cells #[.pointer none] 54))
    have HBB := Lib.hid (below_next hbel (below_alloc (Below.refl _ wr) (.cells #[.pointer none] 54)))
    clear hbel
    rcases (by omega : j = 0 ∨ j = 1 ∨ j = 2) with rfl | rfl | rfl
    · go_upto_region 7 with fail
      generalize wr.alloc (.cells #[.pointer none] 54) = W2 at *
      generalize wr.heap.size = q at *
      have HV := Lib.hid (show NoC W2 (.pointer (some ⟨q, 0, none⟩)) from .inr ⟨q, rfl, HNB.out⟩)
      obtain ⟨pv, hpv⟩ : ∃ pv, pv = (some ⟨q, 0, none⟩ : Option Addr) := ⟨_, rfl⟩
      rw [← hpv] at HV ⊢
      clear hpv HNB HBW
      have c1 : W2.cell? ⟨A, 1, none⟩ = some (.int .i64 u) := cell_of_block (o := 1) ((HBB.out.block A (Array.getElem?_eq_some_iff.1 HN0.out).1).trans HN0.out) rfl
      have c2 : W2.cell? ⟨A, 2, none⟩ = some (.int .i64 t) := cell_of_block (o := 2) ((HBB.out.block A (Array.getElem?_eq_some_iff.1 HN0.out).1).trans HN0.out) rfl
      have KA := Lib.hid (no_at HV.out u)
      have KS := Lib.hid (no_set HV.out u t)
      have KD := Lib.hid (no_drop HV.out u)
      have KX := Lib.hid (no_next HV.out)
      have KU := Lib.hid (no_due HV.out t)
      have KL := Lib.hid (no_len HV.out)
      have KC := Lib.hid (no_clone HV.out)
      go_wp2_with fail
      refine KA.out.mono ?_
      rintro e w3 ⟨rfl, hw⟩
      obtain rfl := hw
      go_wp2_with fail
      refine KS.out.mono ?_
      rintro e w3 ⟨rfl, hw⟩
      obtain rfl := hw
      go_wp2_with fail
      refine KD.out.mono ?_
      rintro e w3 ⟨rfl, hw⟩
      obtain rfl := hw
      go_wp2_with fail
      refine KX.out.mono ?_
      rintro e w3 ⟨rfl, hw⟩
      obtain rfl := hw
      go_wp2_with fail
      refine KU.out.mono ?_
      rintro e w3 ⟨rfl, hw⟩
      obtain rfl := hw
      go_wp2_with fail
      refine KL.out.mono ?_
      rintro e w3 ⟨rfl, hw⟩
      obtain rfl := hw
      go_wp2_with fail
      refine KC.out.mono ?_
      rintro e w3 ⟨rfl, hw⟩
      obtain rfl := hw
      go_wp2_with fail
      go_roundw
      case rel => exact ⟨1, by omega, by go_num, HBB.out⟩
      case measure => simp [intOf]
    · go_upto_region 7 with fail
      generalize wr.alloc (.cells #[.pointer none] 54) = W2 at *
      have HV := Lib.hid (show NoC W2 (.pointer none) from .inl rfl)
      clear HNB HBW
      have c1 : W2.cell? ⟨A, 1, none⟩ = some (.int .i64 u) := cell_of_block (o := 1) ((HBB.out.block A (Array.getElem?_eq_some_iff.1 HN0.out).1).trans HN0.out) rfl
      have c2 : W2.cell? ⟨A, 2, none⟩ = some (.int .i64 t) := cell_of_block (o := 2) ((HBB.out.block A (Array.getElem?_eq_some_iff.1 HN0.out).1).trans HN0.out) rfl
      have KA := Lib.hid (no_at HV.out u)
      have KS := Lib.hid (no_set HV.out u t)
      have KD := Lib.hid (no_drop HV.out u)
      have KX := Lib.hid (no_next HV.out)
      have KU := Lib.hid (no_due HV.out t)
      have KL := Lib.hid (no_len HV.out)
      have KC := Lib.hid (no_clone HV.out)
      go_wp2_with fail
      refine KA.out.mono ?_
      rintro e w3 ⟨rfl, hw⟩
      obtain rfl := hw
      go_wp2_with fail
      refine KS.out.mono ?_
      rintro e w3 ⟨rfl, hw⟩
      obtain rfl := hw
      go_wp2_with fail
      refine KD.out.mono ?_
      rintro e w3 ⟨rfl, hw⟩
      obtain rfl := hw
      go_wp2_with fail
      refine KX.out.mono ?_
      rintro e w3 ⟨rfl, hw⟩
      obtain rfl := hw
      go_wp2_with fail
      refine KU.out.mono ?_
      rintro e w3 ⟨rfl, hw⟩
      obtain rfl := hw
      go_wp2_with fail
      refine KL.out.mono ?_
      rintro e w3 ⟨rfl, hw⟩
      obtain rfl := hw
      go_wp2_with fail
      refine KC.out.mono ?_
      rintro e w3 ⟨rfl, hw⟩
      obtain rfl := hw
      go_wp2_with fail
      go_roundw
      case rel => exact ⟨2, by omega, by go_num, HBB.out⟩
      case measure => simp [intOf]
    · have KO := Lib.hid (one_any wr)
      go_wp2_with fail
      refine KO.out.mono ?_
      rintro e w3 ⟨rfl, hb⟩
      go_wp2_with fail
      go_ret
      exact ⟨rfl, HB0.out.trans ((below_next HBW.out hb).mono HB0.out.size)⟩
end Go.Proofs.Ytfakejfpicjedaa
