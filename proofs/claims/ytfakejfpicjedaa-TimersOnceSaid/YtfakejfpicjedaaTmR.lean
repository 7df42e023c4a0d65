/- The walk of TimersOnce (layer 17). No condition. -/
import Derived.Test.YtfakejfpicjedaaTmO
import Derived.BigQuiet
namespace Go.Proofs.Ytfakejfpicjedaa
set_option linter.unusedVariables false
open Go.ChangeShapes Go.WideShapes Go.ChangeAt Go.RowKit Tm
attribute [local go_sem ↓] Go.wp_at_zero Go.wp_at_succ comesTo_value_eq comesTo_skip_eq comesTo_enter_eq

/-- a clock (c, Q, m, v) that holds R, beside a map of the last times (of S) -/
structure On (w wr : World) (c Q m : Nat) (v : Value) (mb : Nat) (R S : List AL) : Prop where
  ck : Ck wr c Q m v R
  lm : LM wr mb S
  bel : Below w.heap.size w wr
  lo : w.heap.size ≤ c ∧ w.heap.size ≤ Q ∧ w.heap.size ≤ m ∧ w.heap.size ≤ mb
  vlo : ∀ g, v.ownBlock = some g → w.heap.size ≤ g ∧ g ≠ mb
  ne : mb ≠ Q ∧ mb ≠ m ∧ mb ≠ c
theorem On.below {w wr w' : World} {c Q m : Nat} {v : Value} {mb : Nat} {R S : List AL} (h : On w wr c Q m v mb R S) (hb : Below wr.heap.size wr w') : On w w' c Q m v mb R S :=
  ⟨h.ck.below hb, h.lm.keep (hb.block mb h.lm.lt), h.bel.trans (hb.mono h.bel.size), h.lo, h.vlo, h.ne⟩
theorem On.set {w wr w' : World} {c Q m : Nat} {v v' : Value} {mb : Nat} {R S R' : List AL} (h : On w wr c Q m v mb R S) (hK : Ck w' c Q m v' R') (hF : FrT Q m v wr w') (hR : RowN wr v v') : On w w' c Q m v' mb R' S :=
  ⟨hK, h.lm.keep (hF.blk mb h.lm.lt h.ne.1 h.ne.2.1 fun e => (h.vlo mb e).2 rfl), FrT.below hF h.bel h.ck.lt.2.1 h.lo.2.1 h.lo.2.2.1 (fun g hg => (h.vlo g hg).1), h.lo, fun g hg => by
    rcases hR g hg with h1 | h1
    · exact h.vlo g h1
    · exact ⟨Nat.le_trans h.bel.size h1, by have := h.lm.lt; omega⟩, h.ne⟩
theorem On.put {w wr w' : World} {c Q m : Nat} {v : Value} {mb : Nat} {R S S' : List AL} (h : On w wr c Q m v mb R S) (ht : wr.mapTurned w' mb) (hL : LM w' mb S') : On w w' c Q m v mb R S' :=
  have g := ht.grown
  have hk : ∀ j, j < wr.heap.size → j ≠ mb → w'.heap[j]? = wr.heap[j]? := fun j hj hne => g.block j hj (by intro e; injection e with e; exact hne e)
  ⟨h.ck.keep (hk c h.ck.lt.1 fun e => h.ne.2.2 e.symm) (hk Q h.ck.lt.2.1 fun e => h.ne.1 e.symm) (hk m h.ck.lt.2.2.1 fun e => h.ne.2.1 e.symm) (fun b hb => hk b (h.ck.lt.2.2.2 b hb) (h.vlo b hb).2), hL,
    h.bel.trans ⟨g.os, g.tape, g.output, g.size, fun j hj => hk j (Nat.lt_of_lt_of_le hj h.bel.size) (by have := h.lo; omega)⟩, h.lo, h.vlo, h.ne⟩
theorem srt_get {R : List AL} (h : SrtT R) {i j : Nat} (hij : i < j) (hj : j < R.length) : ltB (gA R i) (gA R j) = true := by
  rw [gA_get (Nat.lt_trans hij hj), gA_get hj]
  exact List.pairwise_iff_getElem.1 h i j _ _ hij
set_option maxRecDepth 100000 in
set_option maxHeartbeats 8000000 in
theorem tonce_walk (ad : Option Addr) (len cap : Nat) (A : Nat → T17.Act) (w : World) (hA : T17.Acts w ad len A) : Calls Try.prog 4 #[.slice ad len cap] w fun e w' => e = .returned (.bool true) ∧ Below w.heap.size w w' := by
  have hmx : Try.prog.follows .mixedOrders = true := by kernel_rfl
  have hmm := @run_makeMap Try.prog
  have KN := Lib.hid (ck_new w)
  have HAC := Lib.hid hA
  clear hA
  go_enter Try.func4, Try.ntmps4
  go_wp2_with fail
  refine KN.out.mono ?_
  rintro e w1 ⟨c, Q, m, rfl, hK, hb, l1, l2, l3⟩
  have ba := below_alloc (Below.refl _ w1) (.map #[] 0)
  have H1 := Lib.hid (show On w (w1.alloc (.map #[] 0)) c Q m (.slice none 0 0) w1.heap.size [] [] from
    ⟨hK.below ba, LM.made w1, hb.trans (ba.mono hb.size), ⟨l1, l2, l3, hb.size⟩, (fun g hg => by cases hg), by have := hK.lt; omega⟩)
  clear hK hb l1 l2 l3 ba KN
  go_wp2_with fail
  generalize w1.alloc (.map #[] 0) = w2 at *
  obtain ⟨mb, hmb⟩ : ∃ mb, mb = w1.heap.size := ⟨_, rfl⟩
  rw [← hmb] at H1 ⊢
  clear hmb hmm
  go_loopw [5] (fun i wr => ∃ (k : Nat) (R : List AL) (v : Value), k ≤ 100 ∧ k ≤ len ∧ i = .int .i64 (k : Int) ∧ On w wr c Q m v mb R R ∧ R.length ≤ k) (fun i _ => 100 - (intOf i).toNat)
  case atStart => exact ⟨0, [], _, by omega, Nat.zero_le _, rfl, H1.out, Nat.le_refl _⟩
  case round =>
    obtain ⟨k, R, v, hk, hkl, rfl, hO, hl⟩ := hrel
    have HO := Lib.hid hO
    have HL := Lib.hid hl
    clear hO hl H1
    by_cases hlt : k < len ∧ k < 100
    · obtain ⟨b, off, rfl, hbw, hcells⟩ := HAC.out.2 (by omega)
      have hc := hcells k hlt.1
      have HC0 := Lib.hid (fun (X : World) (hX : Below w.heap.size w X) => (show X.cell? ⟨b, off + k * 3 + 1, none⟩ = some (.int .i64 (A k).u) ∧ X.cell? ⟨b, off + k * 3 + 2, none⟩ = some (.int .i64 (A k).t) from
        ⟨(hX.cell (p := ⟨b, off + k * 3 + 1, none⟩) hbw).trans hc.c1, (hX.cell (p := ⟨b, off + k * 3 + 2, none⟩) hbw).trans hc.c2⟩))
      have HU := Lib.hid hc.u64
      have HT := Lib.hid hc.t64
      generalize (A k).u = u at *
      generalize (A k).t = t at *
      have hkI : (k : Int) < (len : Int) := by omega
      have hkI2 : (k : Int) < 100 := by omega
      have hlen := HAC.out.1
      have hw1 : IntKind.i64.wrap ((k : Int) + 1) = (k : Int) + 1 := by rw [IntKind.wrap_i64]; omega
      have HK := Lib.hid hlt
      clear hc hcells hbw hlt hk hkl hlen
      go_upto_region 6 with fail
      refine wp_region_held (S := fun X => X.cell? ⟨b, off + k * 3 + 1, none⟩ = some (.int .i64 u) ∧ X.cell? ⟨b, off + k * 3 + 2, none⟩ = some (.int .i64 t)) hmx ?_
      change wpAnyH _ _ _ _ _ 13 _ _ wr.drew
      have HO1 := Lib.hid (HO.out.below (show Below wr.heap.size wr wr.drew from (Below.refl _ _).drew))
      generalize wr.drew = X0 at *
      clear HO
      have hS := HC0.out X0 HO1.out.bel
      (refine wpAnyH_take (i := 0) (v := .pointer (some ⟨c, 0, none⟩)) rfl (by decide +kernel) (by decide +kernel) (by decide +kernel) (fun _ _ _ h => h) (.inl ⟨by first | rfl | (go_simp; done), fun X hX => by obtain ⟨hx0, hx1⟩ := hX; first | (go_simp; done) | (go_simp; rfl)⟩) hS ?_)
      (refine wpAnyH_take (i := 1) (v := .slice (some ⟨b, off, none⟩) len cap) rfl (by decide +kernel) (by decide +kernel) (by decide +kernel) (fun _ _ _ h => h) (.inl ⟨by first | rfl | (go_simp; done), fun X hX => by obtain ⟨hx0, hx1⟩ := hX; first | (go_simp; done) | (go_simp; rfl)⟩) hS ?_)
      (refine wpAnyH_take (i := 2) (v := .int .i64 (k : Int)) rfl (by decide +kernel) (by decide +kernel) (by decide +kernel) (fun _ _ _ h => h) (.inl ⟨by first | rfl | (go_simp; done), fun X hX => by obtain ⟨hx0, hx1⟩ := hX; first | (go_simp; done) | (go_simp; rfl)⟩) hS ?_)
      (refine wpAnyH_take (i := 3) (v := .pointer (some ⟨b, off + k * 3, none⟩)) rfl (by decide +kernel) (by decide +kernel) (by decide +kernel) (fun _ _ _ h => h) (.inl ⟨by first | rfl | (go_simp; done), fun X hX => by obtain ⟨hx0, hx1⟩ := hX; first | (go_simp; done) | (go_simp; rfl)⟩) hS ?_)
      (refine wpAnyH_take (i := 4) (v := .pointer (some ⟨b, off + k * 3 + 1, none⟩)) rfl (by decide +kernel) (by decide +kernel) (by decide +kernel) (fun _ _ _ h => h) (.inl ⟨by first | rfl | (go_simp; done), fun X hX => by obtain ⟨hx0, hx1⟩ := hX; first | (go_simp; done) | (go_simp; rfl)⟩) hS ?_)
      (refine wpAnyH_take (i := 5) (v := .int .i64 u) rfl (by decide +kernel) (by decide +kernel) (by decide +kernel) (fun _ _ _ h => h) (.inl ⟨by first | rfl | (go_simp; done), fun X hX => by obtain ⟨hx0, hx1⟩ := hX; first | (go_simp; done) | (go_simp; rfl)⟩) hS ?_)
      (refine wpAnyH_take (i := 6) (v := .slice (some ⟨b, off, none⟩) len cap) rfl (by decide +kernel) (by decide +kernel) (by decide +kernel) (fun _ _ _ h => h) (.inl ⟨by first | rfl | (go_simp; done), fun X hX => by obtain ⟨hx0, hx1⟩ := hX; first | (go_simp; done) | (go_simp; rfl)⟩) hS ?_)
      (refine wpAnyH_take (i := 7) (v := .int .i64 (k : Int)) rfl (by decide +kernel) (by decide +kernel) (by decide +kernel) (fun _ _ _ h => h) (.inl ⟨by first | rfl | (go_simp; done), fun X hX => by obtain ⟨hx0, hx1⟩ := hX; first | (go_simp; done) | (go_simp; rfl)⟩) hS ?_)
      (refine wpAnyH_take (i := 8) (v := .pointer (some ⟨b, off + k * 3, none⟩)) rfl (by decide +kernel) (by decide +kernel) (by decide +kernel) (fun _ _ _ h => h) (.inl ⟨by first | rfl | (go_simp; done), fun X hX => by obtain ⟨hx0, hx1⟩ := hX; first | (go_simp; done) | (go_simp; rfl)⟩) hS ?_)
      (refine wpAnyH_take (i := 9) (v := .pointer (some ⟨b, off + k * 3 + 2, none⟩)) rfl (by decide +kernel) (by decide +kernel) (by decide +kernel) (fun _ _ _ h => h) (.inl ⟨by first | rfl | (go_simp; done), fun X hX => by obtain ⟨hx0, hx1⟩ := hX; first | (go_simp; done) | (go_simp; rfl)⟩) hS ?_)
      (refine wpAnyH_take (i := 10) (v := .int .i64 t) rfl (by decide +kernel) (by decide +kernel) (by decide +kernel) (fun _ _ _ h => h) (.inl ⟨by first | rfl | (go_simp; done), fun X hX => by obtain ⟨hx0, hx1⟩ := hX; first | (go_simp; done) | (go_simp; rfl)⟩) hS ?_)
      have KS := ck_set HO1.out.ck HU.out HT.out
      refine anyH_call (i := 11) (by decide +kernel) rfl (by first | rfl | (go_simp; done)) (by go_simp) (KS) ?_
      rintro e w3 ⟨rfl, v3, hK3, hF3, hR3⟩
      have HSL := Lib.hid (show (insR (t, u) (delR R u)).length = if (atR R u).isSome then R.length else R.length + 1 from by
        rw [at_in]
        cases hi : inR R u with
        | true => rw [if_pos rfl, ins_len, HO1.out.ck.del_len hi]
        | false => rw [if_neg (by decide), set_new_len hi])
      have HO3 := Lib.hid (HO1.out.set hK3 hF3 hR3)
      have hS3 := HC0.out w3 HO3.out.bel
      refine ⟨_, rfl, hS3, ?_⟩
      clear hS KS hK3 hF3 hR3 HO1
      by_cases hok : 0 ≤ t ∧ t < 1099511627776
      · have hs := set_ok (R := R) (id := u) hok (.inr (by have := HL.out; have := HK.out; omega))
        rw [hs] at HO3 ⊢
        clear hs hok
        dsimp only at HO3 ⊢
        (refine wpAnyH_take (i := 12) (v := .bool true) rfl (by decide +kernel) (by decide +kernel) (by decide +kernel) (fun _ _ _ h => h) (.inl ⟨by first | rfl | (go_simp; done), fun X hX => by obtain ⟨hx0, hx1⟩ := hX; first | (go_simp; done) | (go_simp; rfl)⟩) hS3 ?_)
        refine wpAnyH_done (by decide +kernel) ?_ _
        clear hS3
        go_simp
        go_upto_region 7 with fail
        refine wp_region_held (S := fun X => X.cell? ⟨b, off + k * 3 + 1, none⟩ = some (.int .i64 u) ∧ X.cell? ⟨b, off + k * 3 + 2, none⟩ = some (.int .i64 t)) hmx ?_
        change wpAnyH _ _ _ _ _ 12 _ _ w3.drew
        have HO4 := Lib.hid (HO3.out.below (show Below w3.heap.size w3 w3.drew from (Below.refl _ _).drew))
        generalize w3.drew = X4 at *
        clear HO3
        have hS4 := HC0.out X4 HO4.out.bel
        (refine wpAnyH_take (i := 0) (v := .map (some mb)) rfl (by decide +kernel) (by decide +kernel) (by decide +kernel) (fun _ _ _ h => h) (.inl ⟨by first | rfl | (go_simp; done), fun X hX => by obtain ⟨hx0, hx1⟩ := hX; first | (go_simp; done) | (go_simp; rfl)⟩) hS4 ?_)
        (refine wpAnyH_take (i := 1) (v := .slice (some ⟨b, off, none⟩) len cap) rfl (by decide +kernel) (by decide +kernel) (by decide +kernel) (fun _ _ _ h => h) (.inl ⟨by first | rfl | (go_simp; done), fun X hX => by obtain ⟨hx0, hx1⟩ := hX; first | (go_simp; done) | (go_simp; rfl)⟩) hS4 ?_)
        (refine wpAnyH_take (i := 2) (v := .int .i64 (k : Int)) rfl (by decide +kernel) (by decide +kernel) (by decide +kernel) (fun _ _ _ h => h) (.inl ⟨by first | rfl | (go_simp; done), fun X hX => by obtain ⟨hx0, hx1⟩ := hX; first | (go_simp; done) | (go_simp; rfl)⟩) hS4 ?_)
        (refine wpAnyH_take (i := 3) (v := .pointer (some ⟨b, off + k * 3, none⟩)) rfl (by decide +kernel) (by decide +kernel) (by decide +kernel) (fun _ _ _ h => h) (.inl ⟨by first | rfl | (go_simp; done), fun X hX => by obtain ⟨hx0, hx1⟩ := hX; first | (go_simp; done) | (go_simp; rfl)⟩) hS4 ?_)
        (refine wpAnyH_take (i := 4) (v := .pointer (some ⟨b, off + k * 3 + 1, none⟩)) rfl (by decide +kernel) (by decide +kernel) (by decide +kernel) (fun _ _ _ h => h) (.inl ⟨by first | rfl | (go_simp; done), fun X hX => by obtain ⟨hx0, hx1⟩ := hX; first | (go_simp; done) | (go_simp; rfl)⟩) hS4 ?_)
        (refine wpAnyH_take (i := 5) (v := .int .i64 u) rfl (by decide +kernel) (by decide +kernel) (by decide +kernel) (fun _ _ _ h => h) (.inl ⟨by first | rfl | (go_simp; done), fun X hX => by obtain ⟨hx0, hx1⟩ := hX; first | (go_simp; done) | (go_simp; rfl)⟩) hS4 ?_)
        (refine wpAnyH_take (i := 6) (v := .slice (some ⟨b, off, none⟩) len cap) rfl (by decide +kernel) (by decide +kernel) (by decide +kernel) (fun _ _ _ h => h) (.inl ⟨by first | rfl | (go_simp; done), fun X hX => by obtain ⟨hx0, hx1⟩ := hX; first | (go_simp; done) | (go_simp; rfl)⟩) hS4 ?_)
        (refine wpAnyH_take (i := 7) (v := .int .i64 (k : Int)) rfl (by decide +kernel) (by decide +kernel) (by decide +kernel) (fun _ _ _ h => h) (.inl ⟨by first | rfl | (go_simp; done), fun X hX => by obtain ⟨hx0, hx1⟩ := hX; first | (go_simp; done) | (go_simp; rfl)⟩) hS4 ?_)
        (refine wpAnyH_take (i := 8) (v := .pointer (some ⟨b, off + k * 3, none⟩)) rfl (by decide +kernel) (by decide +kernel) (by decide +kernel) (fun _ _ _ h => h) (.inl ⟨by first | rfl | (go_simp; done), fun X hX => by obtain ⟨hx0, hx1⟩ := hX; first | (go_simp; done) | (go_simp; rfl)⟩) hS4 ?_)
        (refine wpAnyH_take (i := 9) (v := .pointer (some ⟨b, off + k * 3 + 2, none⟩)) rfl (by decide +kernel) (by decide +kernel) (by decide +kernel) (fun _ _ _ h => h) (.inl ⟨by first | rfl | (go_simp; done), fun X hX => by obtain ⟨hx0, hx1⟩ := hX; first | (go_simp; done) | (go_simp; rfl)⟩) hS4 ?_)
        (refine wpAnyH_take (i := 10) (v := .int .i64 t) rfl (by decide +kernel) (by decide +kernel) (by decide +kernel) (fun _ _ _ h => h) (.inl ⟨by first | rfl | (go_simp; done), fun X hX => by obtain ⟨hx0, hx1⟩ := hX; first | (go_simp; done) | (go_simp; rfl)⟩) hS4 ?_)
        obtain ⟨X5, k1, k2, k3⟩ := HO4.out.lm.put (by have := HL.out; have := HK.out; omega) HU.out HT.out HSL.out
        have HO5 := Lib.hid (HO4.out.put k3 k2)
        refine anyH_store (i := 11) (w' := X5) (by decide +kernel) rfl rfl (exec_mapUpdateT 51 _ _ _ rfl (by go_simp) (by go_simp) (by go_simp) k1) (HC0.out X5 HO5.out.bel) ?_
        clear k1 k2 k3 hS4 HO4
        refine wpAnyH_done (by decide +kernel) ?_ _
        go_simp
        go_wp2_with fail
        go_roundw
        case rel => exact ⟨k + 1, _, v3, by have := HK.out; omega, by have := HK.out; omega, by go_num, HO5.out, by rw [HSL.out]; have := HL.out; split <;> omega⟩
        case measure => have := HK.out; simp [intOf]; omega
      · have hs : setR R u t = (R, 18) := by unfold setR; rw [if_pos (by omega)]
        rw [hs] at HO3 ⊢
        clear hs hok
        dsimp only at HO3 ⊢
        (refine wpAnyH_take (i := 12) (v := .bool false) rfl (by decide +kernel) (by decide +kernel) (by decide +kernel) (fun _ _ _ h => h) (.inl ⟨by first | rfl | (go_simp; done), fun X hX => by obtain ⟨hx0, hx1⟩ := hX; first | (go_simp; done) | (go_simp; rfl)⟩) hS3 ?_)
        refine wpAnyH_done (by decide +kernel) ?_ _
        clear hS3
        go_simp
        go_wp2_with fail
        go_roundw
        case rel => exact ⟨k + 1, R, v3, by have := HK.out; omega, by have := HK.out; omega, by go_num, HO3.out, Nat.le_succ_of_le HL.out⟩
        case measure => have := HK.out; simp [intOf]; omega
    · have HRL := Lib.hid (show R.length ≤ 100 from Nat.le_trans HL.out hk)
      have KC := Lib.hid (ck_clone HO.out.ck)
      by_cases hl1 : k < len
      · have hkI : (k : Int) < (len : Int) := by omega
        have hkI2 : ¬ (k : Int) < 100 := by omega
        clear hlt hk hkl hl1
        go_wp2_with fail
        refine KC.out.mono ?_
        rintro e w4 ⟨c', Q', m', v', rfl, hK', hb, l1, l2, l3, l4⟩
        have HO4 := Lib.hid (HO.out.below hb)
        have HD4 := Lib.hid hK'
        have HLO := Lib.hid (And.intro l1 (And.intro l2 (And.intro l3 l4)))
        have HLW := Lib.hid HO.out.ck.lt
        have HWS := Lib.hid HO.out.bel.size
        have HLB := Lib.hid HO.out.lm.lt
        clear hK' hb l1 l2 l3 l4 KC
        have ha := due_all (R := R) (t := 1099511627776) (fun y hy => by have := (HO4.out.ck.num y hy).2.2; omega)
        have kd := ck_due HO4.out.ck 1099511627776
        rw [ha.1, ha.2] at kd
        have KD := Lib.hid kd
        have hey := ck_due HD4.out 1099511627776
        clear kd hey
        go_wp2_with fail
        refine KD.out.mono ?_
        rintro e w5 ⟨x, rfl, hx, v5, hK5, hF5, hR5, _⟩
        have hlw := HLW.out
        have hlb := HLB.out
        have hlo := HLO.out
        have HB4 := Lib.hid HO4.out.bel.size
        have HO5 := Lib.hid (HO4.out.set hK5 hF5 hR5)
        have HX5 := Lib.hid hx
        have hkp : ∀ j, wr.heap.size ≤ j → j < w4.heap.size → w5.heap[j]? = w4.heap[j]? := fun j h1 h2 => hF5.blk j h2 (by omega) (by omega) (fun e => by have := hlw.2.2.2 j e; omega)
        have HD5 := Lib.hid (HD4.out.keep (hkp c' hlo.1 HD4.out.lt.1) (hkp Q' hlo.2.1 HD4.out.lt.2.1) (hkp m' hlo.2.2.1 HD4.out.lt.2.2.1) (fun g hg => hkp g (hlo.2.2.2 g hg) (HD4.out.lt.2.2.2 g hg)))
        have HXL := Lib.hid (show ∀ g, x.ownBlock = some g → w4.heap.size ≤ g from Ap.own_blk hx)
        have HLD := Lib.hid HD4.out.lt
        clear hx hK5 hF5 hR5 hkp hlw hlb hlo KD ha HO4 HD4 HO
        have K1 := Lib.hid (show Calls Try.prog 16 #[.pointer (some ⟨c, 0, none⟩)] w5 fun e w' => e = .returned (.int .i64 0) ∧ w' = w5 from ck_len HO5.out.ck)
        have K2 := Lib.hid (ck_len HD5.out)
        have hml := fun ty => HO5.out.lm.len ty
        have HSR := Lib.hid HD5.out.srt
        have HNU := Lib.hid HD5.out.num
        have HIJ := Lib.hid HD5.out.inj
        obtain ⟨xa, xc, rfl⟩ := HX5.out.form
        obtain ⟨n, hn⟩ : ∃ n, n = R.length := ⟨_, rfl⟩
        rw [← hn] at hml K2 HXL HRL ⊢
        have HN := Lib.hid hn
        clear hn
        go_wp2_with fail
        refine K1.out.mono ?_
        rintro e w6 ⟨rfl, hw⟩
        obtain rfl := hw
        go_wp2_with fail
        refine K2.out.mono ?_
        rintro e w6 ⟨rfl, hw⟩
        obtain rfl := hw
        go_wp2_with fail
        clear K1 K2 hml
        go_loopw [8] (fun i wq => ∃ j : Nat, j ≤ n ∧ i = .int .i64 (j : Int) ∧ Below w6.heap.size w6 wq) (fun i _ => n - (intOf i).toNat)
        case atStart => exact ⟨0, Nat.zero_le _, rfl, Below.refl _ _⟩
        case round =>
          obtain ⟨j, hj, rfl, hb⟩ := hrel
          have HB := Lib.hid hb
          clear hb
          by_cases hlt : j < n
          · have hxr := Ap.own_below HX5.out HB.out
            have hjR : j < R.length := by rw [← HN.out]; exact hlt
            obtain ⟨g, cap, hv, _, y0, y1⟩ := RowD.cells hxr hjR
            injection hv with hv1 hv2 hv3
            subst hv1
            have hnum := HNU.out _ (gA_mem hjR)
            have hat : atR R (gA R j).2 = some (gA R j).1 := atR_mem HIJ.out (gA_mem hjR) rfl
            have hlk := (HO5.out.below HB.out).lm.look hnum.1 hat
            have hjI : (j : Int) < (n : Int) := by omega
            have hw1 : IntKind.i64.wrap ((j : Int) + 1) = (j : Int) + 1 := by have := HRL.out; rw [IntKind.wrap_i64]; omega
            obtain ⟨p, hp⟩ : ∃ p : Nat, p = j - 1 := ⟨_, rfl⟩
            by_cases h0 : j = 0
            · subst h0
              clear hat hnum hxr hv2 hv3
              rw [Nat.zero_mul] at y0 y1
              generalize gA R 0 = x at *
              obtain ⟨x1, x2⟩ := x
              dsimp only at y0 y1 hlk
              rw [Int.natCast_zero] at hw1 hjI ⊢
              go_upto_region 16 with fail
              go_quiet (fail)
              have HBq := Lib.hid (below_drewN HB.out nq)
              go_wp2_with fail
              go_roundw
              case rel => exact ⟨1, by omega, by go_num, HBq.out⟩
              case measure => simp [intOf]; omega
            · have hpR : p < R.length := by omega
              obtain ⟨g', cap', hv', _, z0, z1⟩ := RowD.cells hxr hpR
              injection hv' with hv1 hv2 hv3
              injection hv1 with hv1
              injection hv1 with hv1
              subst hv1
              have hord := srt_get HSR.out (i := p) (j := j) (by omega) hjR
              have hwj : IntKind.i64.wrap ((j : Int) - 1) = (p : Int) := by have := HRL.out; rw [IntKind.wrap_i64]; omega
              have hpI : (p : Int) < (n : Int) := by omega
              have hjp : (0 : Int) < (j : Int) := by omega
              have hd1 : decide ((0 : Int) < (j : Int)) = true := decide_eq_true hjp
              have hd2 : decide (0 < j) = true := decide_eq_true (by omega)
              have HJ := Lib.hid (And.intro hlt h0)
              clear hat hnum hxr hv2 hv3 hjR hpR
              generalize gA R j = x at *
              generalize gA R p = q at *
              obtain ⟨x1, x2⟩ := x
              obtain ⟨q1, q2⟩ := q
              rw [lt_iff] at hord
              dsimp only at y0 y1 z0 z1 hlk hord
              have o1 : ¬ x1 < q1 := by omega
              have o1' : q1 ≤ x1 := by omega
              have o3 : decide (x1 < q1) = false := decide_eq_false o1
              by_cases heq : x1 = q1
              · subst heq
                have o2 : ¬ x2 ≤ q2 := by omega
                have o2' : q2 < x2 := by omega
                have o4 : decide (x2 ≤ q2) = false := decide_eq_false o2
                clear hord hp hlt h0
                go_upto_region 16 with fail
                go_quiet (fail)
                have HBq := Lib.hid (below_drewN HB.out nq)
                go_wp2_with fail
                go_roundw
                case rel => exact ⟨j + 1, by have := HJ.out; omega, by go_num, HBq.out⟩
                case measure => have := HJ.out; simp [intOf]; omega
              · have o2 : (x1 == q1) = false := by simpa using heq
                clear hord hp hlt h0 heq
                go_upto_region 16 with fail
                go_quiet (fail)
                have HBq := Lib.hid (below_drewN HB.out nq)
                go_wp2_with fail
                go_roundw
                case rel => exact ⟨j + 1, by have := HJ.out; omega, by go_num, HBq.out⟩
                case measure => have := HJ.out; simp [intOf]; omega
          · have hjI : ¬ (j : Int) < (n : Int) := by omega
            have HO6 := Lib.hid (HO5.out.below HB.out)
            have HD6 := Lib.hid (HD5.out.below HB.out)
            have HX6 := Lib.hid (show RowD wr w4.heap.size (.slice xa n xc) R from by have := Ap.own_below HX5.out HB.out; rw [← HN.out] at this; unfold RowD; rw [← HN.out]; exact this)
            have kd := ck_due HD6.out 1099511627776
            have ha := due_all (R := R) (t := 1099511627776) (fun y hy => by have := (HNU.out y hy).2.2; omega)
            rw [ha.1, ha.2] at kd
            have K3 := Lib.hid kd
            have HB6 := Lib.hid HB.out.size
            clear kd ha hj hlt HO5 HD5 HX5 HB
            go_wp2_with fail
            refine K3.out.mono ?_
            rintro e w7 ⟨y, rfl, hy, v7, _, hF7, _, _⟩
            have HY7 := Lib.hid hy
            have hlo := HLO.out
            have hld := HLD.out
            have hb6 := HB6.out
            have HX7 := Lib.hid (show RowD w7 w4.heap.size (.slice xa n xc) R from by
              refine Ap.own_keep HX6.out fun g hg => ?_
              have h1 := HXL.out g hg
              have h2 := Ap.own_lt HX6.out g hg
              exact hF7.blk g h2 (by omega) (by omega) (fun e => by have := hld.2.2.2 g e; omega))
            have HB7 := Lib.hid (show Below w.heap.size w w7 from FrT.below hF7 HO6.out.bel HD6.out.lt.2.1 (by have := HWS.out; omega) (by have := HWS.out; omega) (fun g hg => by have := hlo.2.2.2 g hg; have := HWS.out; omega))
            clear hy hF7 hlo hld hb6 K3
            obtain ⟨ya, yc, rfl⟩ := HY7.out.form
            rw [← HN.out]
            go_wp2_with fail
            go_loopw [12] (fun i wz => ∃ j : Nat, j ≤ n ∧ i = .int .i64 (j : Int) ∧ Below w7.heap.size w7 wz) (fun i _ => n - (intOf i).toNat)
            case atStart => exact ⟨0, Nat.zero_le _, rfl, Below.refl _ _⟩
            case round =>
              obtain ⟨i, hi, rfl, hb⟩ := hrel
              have HB := Lib.hid hb
              clear hb
              by_cases hlt : i < n
              · have hiR : i < R.length := by rw [← HN.out]; exact hlt
                obtain ⟨g, cap, hv, _, y0, y1⟩ := RowD.cells (Ap.own_below HY7.out HB.out) hiR
                obtain ⟨g', cap', hv', _, x0, x1⟩ := RowD.cells (Ap.own_below HX7.out HB.out) hiR
                injection hv with hv1 hv2 hv3
                injection hv' with hv4 hv5 hv6
                subst hv1 hv4
                have hiI : (i : Int) < (n : Int) := by omega
                have hw1 : IntKind.i64.wrap ((i : Int) + 1) = (i : Int) + 1 := by have := HRL.out; rw [IntKind.wrap_i64]; omega
                have HI := Lib.hid hlt
                generalize gA R i = x at *
                obtain ⟨a1, a2⟩ := x
                dsimp only at y0 y1 x0 x1
                have qz := fun W => eqinA a1 a2 W
                clear hv2 hv3 hv5 hv6 hiR hi hlt
                go_upto_region 24 with fail
                go_quiet (fail)
                have HBq := Lib.hid (below_drewN HB.out nq)
                go_wp2_with fail
                go_roundw
                case rel => exact ⟨i + 1, by have := HI.out; omega, by go_num, HBq.out⟩
                case measure => have := HI.out; simp [intOf]; omega
              · have hiI : ¬ (i : Int) < (n : Int) := by omega
                clear hlt hi
                have KO := Lib.hid (one_any wr)
                have HB8 := Lib.hid (HB7.out.trans (HB.out.mono HB7.out.size))
                go_wp2_with fail
                refine KO.out.mono ?_
                rintro e w9 ⟨rfl, hb⟩
                go_wp2_with fail
                go_ret
                exact ⟨rfl, HB8.out.trans (hb.mono HB8.out.size)⟩
      · have hkI : ¬ (k : Int) < (len : Int) := by omega
        clear hlt hk hkl hl1
        go_wp2_with fail
        refine KC.out.mono ?_
        rintro e w4 ⟨c', Q', m', v', rfl, hK', hb, l1, l2, l3, l4⟩
        have HO4 := Lib.hid (HO.out.below hb)
        have HD4 := Lib.hid hK'
        have HLO := Lib.hid (And.intro l1 (And.intro l2 (And.intro l3 l4)))
        have HLW := Lib.hid HO.out.ck.lt
        have HWS := Lib.hid HO.out.bel.size
        have HLB := Lib.hid HO.out.lm.lt
        clear hK' hb l1 l2 l3 l4 KC
        have ha := due_all (R := R) (t := 1099511627776) (fun y hy => by have := (HO4.out.ck.num y hy).2.2; omega)
        have kd := ck_due HO4.out.ck 1099511627776
        rw [ha.1, ha.2] at kd
        have KD := Lib.hid kd
        have hey := ck_due HD4.out 1099511627776
        clear kd hey
        go_wp2_with fail
        refine KD.out.mono ?_
        rintro e w5 ⟨x, rfl, hx, v5, hK5, hF5, hR5, _⟩
        have hlw := HLW.out
        have hlb := HLB.out
        have hlo := HLO.out
        have HB4 := Lib.hid HO4.out.bel.size
        have HO5 := Lib.hid (HO4.out.set hK5 hF5 hR5)
        have HX5 := Lib.hid hx
        have hkp : ∀ j, wr.heap.size ≤ j → j < w4.heap.size → w5.heap[j]? = w4.heap[j]? := fun j h1 h2 => hF5.blk j h2 (by omega) (by omega) (fun e => by have := hlw.2.2.2 j e; omega)
        have HD5 := Lib.hid (HD4.out.keep (hkp c' hlo.1 HD4.out.lt.1) (hkp Q' hlo.2.1 HD4.out.lt.2.1) (hkp m' hlo.2.2.1 HD4.out.lt.2.2.1) (fun g hg => hkp g (hlo.2.2.2 g hg) (HD4.out.lt.2.2.2 g hg)))
        have HXL := Lib.hid (show ∀ g, x.ownBlock = some g → w4.heap.size ≤ g from Ap.own_blk hx)
        have HLD := Lib.hid HD4.out.lt
        clear hx hK5 hF5 hR5 hkp hlw hlb hlo KD ha HO4 HD4 HO
        have K1 := Lib.hid (show Calls Try.prog 16 #[.pointer (some ⟨c, 0, none⟩)] w5 fun e w' => e = .returned (.int .i64 0) ∧ w' = w5 from ck_len HO5.out.ck)
        have K2 := Lib.hid (ck_len HD5.out)
        have hml := fun ty => HO5.out.lm.len ty
        have HSR := Lib.hid HD5.out.srt
        have HNU := Lib.hid HD5.out.num
        have HIJ := Lib.hid HD5.out.inj
        obtain ⟨xa, xc, rfl⟩ := HX5.out.form
        obtain ⟨n, hn⟩ : ∃ n, n = R.length := ⟨_, rfl⟩
        rw [← hn] at hml K2 HXL HRL ⊢
        have HN := Lib.hid hn
        clear hn
        go_wp2_with fail
        refine K1.out.mono ?_
        rintro e w6 ⟨rfl, hw⟩
        obtain rfl := hw
        go_wp2_with fail
        refine K2.out.mono ?_
        rintro e w6 ⟨rfl, hw⟩
        obtain rfl := hw
        go_wp2_with fail
        clear K1 K2 hml
        go_loopw [8] (fun i wq => ∃ j : Nat, j ≤ n ∧ i = .int .i64 (j : Int) ∧ Below w6.heap.size w6 wq) (fun i _ => n - (intOf i).toNat)
        case atStart => exact ⟨0, Nat.zero_le _, rfl, Below.refl _ _⟩
        case round =>
          obtain ⟨j, hj, rfl, hb⟩ := hrel
          have HB := Lib.hid hb
          clear hb
          by_cases hlt : j < n
          · have hxr := Ap.own_below HX5.out HB.out
            have hjR : j < R.length := by rw [← HN.out]; exact hlt
            obtain ⟨g, cap, hv, _, y0, y1⟩ := RowD.cells hxr hjR
            injection hv with hv1 hv2 hv3
            subst hv1
            have hnum := HNU.out _ (gA_mem hjR)
            have hat : atR R (gA R j).2 = some (gA R j).1 := atR_mem HIJ.out (gA_mem hjR) rfl
            have hlk := (HO5.out.below HB.out).lm.look hnum.1 hat
            have hjI : (j : Int) < (n : Int) := by omega
            have hw1 : IntKind.i64.wrap ((j : Int) + 1) = (j : Int) + 1 := by have := HRL.out; rw [IntKind.wrap_i64]; omega
            obtain ⟨p, hp⟩ : ∃ p : Nat, p = j - 1 := ⟨_, rfl⟩
            by_cases h0 : j = 0
            · subst h0
              clear hat hnum hxr hv2 hv3
              rw [Nat.zero_mul] at y0 y1
              generalize gA R 0 = x at *
              obtain ⟨x1, x2⟩ := x
              dsimp only at y0 y1 hlk
              rw [Int.natCast_zero] at hw1 hjI ⊢
              go_upto_region 16 with fail
              go_quiet (fail)
              have HBq := Lib.hid (below_drewN HB.out nq)
              go_wp2_with fail
              go_roundw
              case rel => exact ⟨1, by omega, by go_num, HBq.out⟩
              case measure => simp [intOf]; omega
            · have hpR : p < R.length := by omega
              obtain ⟨g', cap', hv', _, z0, z1⟩ := RowD.cells hxr hpR
              injection hv' with hv1 hv2 hv3
              injection hv1 with hv1
              injection hv1 with hv1
              subst hv1
              have hord := srt_get HSR.out (i := p) (j := j) (by omega) hjR
              have hwj : IntKind.i64.wrap ((j : Int) - 1) = (p : Int) := by have := HRL.out; rw [IntKind.wrap_i64]; omega
              have hpI : (p : Int) < (n : Int) := by omega
              have hjp : (0 : Int) < (j : Int) := by omega
              have hd1 : decide ((0 : Int) < (j : Int)) = true := decide_eq_true hjp
              have hd2 : decide (0 < j) = true := decide_eq_true (by omega)
              have HJ := Lib.hid (And.intro hlt h0)
              clear hat hnum hxr hv2 hv3 hjR hpR
              generalize gA R j = x at *
              generalize gA R p = q at *
              obtain ⟨x1, x2⟩ := x
              obtain ⟨q1, q2⟩ := q
              rw [lt_iff] at hord
              dsimp only at y0 y1 z0 z1 hlk hord
              have o1 : ¬ x1 < q1 := by omega
              have o1' : q1 ≤ x1 := by omega
              have o3 : decide (x1 < q1) = false := decide_eq_false o1
              by_cases heq : x1 = q1
              · subst heq
                have o2 : ¬ x2 ≤ q2 := by omega
                have o2' : q2 < x2 := by omega
                have o4 : decide (x2 ≤ q2) = false := decide_eq_false o2
                clear hord hp hlt h0
                go_upto_region 16 with fail
                go_quiet (fail)
                have HBq := Lib.hid (below_drewN HB.out nq)
                go_wp2_with fail
                go_roundw
                case rel => exact ⟨j + 1, by have := HJ.out; omega, by go_num, HBq.out⟩
                case measure => have := HJ.out; simp [intOf]; omega
              · have o2 : (x1 == q1) = false := by simpa using heq
                clear hord hp hlt h0 heq
                go_upto_region 16 with fail
                go_quiet (fail)
                have HBq := Lib.hid (below_drewN HB.out nq)
                go_wp2_with fail
                go_roundw
                case rel => exact ⟨j + 1, by have := HJ.out; omega, by go_num, HBq.out⟩
                case measure => have := HJ.out; simp [intOf]; omega
          · have hjI : ¬ (j : Int) < (n : Int) := by omega
            have HO6 := Lib.hid (HO5.out.below HB.out)
            have HD6 := Lib.hid (HD5.out.below HB.out)
            have HX6 := Lib.hid (show RowD wr w4.heap.size (.slice xa n xc) R from by have := Ap.own_below HX5.out HB.out; rw [← HN.out] at this; unfold RowD; rw [← HN.out]; exact this)
            have kd := ck_due HD6.out 1099511627776
            have ha := due_all (R := R) (t := 1099511627776) (fun y hy => by have := (HNU.out y hy).2.2; omega)
            rw [ha.1, ha.2] at kd
            have K3 := Lib.hid kd
            have HB6 := Lib.hid HB.out.size
            clear kd ha hj hlt HO5 HD5 HX5 HB
            go_wp2_with fail
            refine K3.out.mono ?_
            rintro e w7 ⟨y, rfl, hy, v7, _, hF7, _, _⟩
            have HY7 := Lib.hid hy
            have hlo := HLO.out
            have hld := HLD.out
            have hb6 := HB6.out
            have HX7 := Lib.hid (show RowD w7 w4.heap.size (.slice xa n xc) R from by
              refine Ap.own_keep HX6.out fun g hg => ?_
              have h1 := HXL.out g hg
              have h2 := Ap.own_lt HX6.out g hg
              exact hF7.blk g h2 (by omega) (by omega) (fun e => by have := hld.2.2.2 g e; omega))
            have HB7 := Lib.hid (show Below w.heap.size w w7 from FrT.below hF7 HO6.out.bel HD6.out.lt.2.1 (by have := HWS.out; omega) (by have := HWS.out; omega) (fun g hg => by have := hlo.2.2.2 g hg; have := HWS.out; omega))
            clear hy hF7 hlo hld hb6 K3
            obtain ⟨ya, yc, rfl⟩ := HY7.out.form
            rw [← HN.out]
            go_wp2_with fail
            go_loopw [12] (fun i wz => ∃ j : Nat, j ≤ n ∧ i = .int .i64 (j : Int) ∧ Below w7.heap.size w7 wz) (fun i _ => n - (intOf i).toNat)
            case atStart => exact ⟨0, Nat.zero_le _, rfl, Below.refl _ _⟩
            case round =>
              obtain ⟨i, hi, rfl, hb⟩ := hrel
              have HB := Lib.hid hb
              clear hb
              by_cases hlt : i < n
              · have hiR : i < R.length := by rw [← HN.out]; exact hlt
                obtain ⟨g, cap, hv, _, y0, y1⟩ := RowD.cells (Ap.own_below HY7.out HB.out) hiR
                obtain ⟨g', cap', hv', _, x0, x1⟩ := RowD.cells (Ap.own_below HX7.out HB.out) hiR
                injection hv with hv1 hv2 hv3
                injection hv' with hv4 hv5 hv6
                subst hv1 hv4
                have hiI : (i : Int) < (n : Int) := by omega
                have hw1 : IntKind.i64.wrap ((i : Int) + 1) = (i : Int) + 1 := by have := HRL.out; rw [IntKind.wrap_i64]; omega
                have HI := Lib.hid hlt
                generalize gA R i = x at *
                obtain ⟨a1, a2⟩ := x
                dsimp only at y0 y1 x0 x1
                have qz := fun W => eqinA a1 a2 W
                clear hv2 hv3 hv5 hv6 hiR hi hlt
                go_upto_region 24 with fail
                go_quiet (fail)
                have HBq := Lib.hid (below_drewN HB.out nq)
                go_wp2_with fail
                go_roundw
                case rel => exact ⟨i + 1, by have := HI.out; omega, by go_num, HBq.out⟩
                case measure => have := HI.out; simp [intOf]; omega
              · have hiI : ¬ (i : Int) < (n : Int) := by omega
                clear hlt hi
                have KO := Lib.hid (one_any wr)
                have HB8 := Lib.hid (HB7.out.trans (HB.out.mono HB7.out.size))
                go_wp2_with fail
                refine KO.out.mono ?_
                rintro e w9 ⟨rfl, hb⟩
                go_wp2_with fail
                go_ret
                exact ⟨rfl, HB8.out.trans (hb.mono HB8.out.size)⟩
end Go.Proofs.Ytfakejfpicjedaa
