/- The law CodingReads walked. Its condition: errors.errorType reads as the program's text lays it. -/
import Derived.Test.YtnlfighfkmlmaaaDoorCodRefG
import Derived.Test.YtnlfighfkmlmaaaDoorRelT
import Derived.Deep.SlicePairs
namespace Go.Proofs.YtnlfighfkmlmaaaDoor
set_option linter.unusedVariables false
open Go.ChangeShapes Go.WideShapes Go.ChangeAt Go.RowKit Go.Lib
attribute [local go_sem ↓] Go.wp_at_zero Go.wp_at_succ comesTo_value_eq comesTo_skip_eq comesTo_enter_eq Rl.comesToR_value_eq Rl.comesToR_skip_eq Rl.comesToR_enter_eq

/-- acts in memory -/
def Acts2 (w : World) (a : Option Addr) (n : Nat) (zs : List (Int × Int)) : Prop :=
  zs.length = n ∧ (0 < n → ∃ b off, a = some ⟨b, off, none⟩ ∧ ∀ k, k < n → w.cell? ⟨b, off + k * 2, none⟩ = some (.int .i64 (zs.getD k (0, 0)).1) ∧ w.cell? ⟨b, off + k * 2 + 1, none⟩ = some (.int .i64 (zs.getD k (0, 0)).2) ∧ (zs.getD k (0, 0)).2 ≤ 9223372036854775807)
theorem cells_act2 : Tryd.prog.cellsOf 38 = 2 := by kernel_rfl
theorem acts2_open {H : Type} {enc : TypeId × Value → H} {W : World} {a : Option Addr} {len cap : Nat} {d : DataW H} {p : List MemPlace}
    (h : DataW.Trod enc Tryd.prog W 0 (fun _ => true) true 32 (.slice a len cap) d p) : ∃ zs : List (Int × Int), Acts2 W a len zs := by
  obtain ⟨fuel, hf⟩ := h
  rcases Go.Deep.open_slice_pairs Tryd.underlying32 Tryd.underlying38 cells_act2 rfl rfl (by kernel_rfl) (by kernel_rfl) hf with ⟨hcs, _⟩ | ⟨x, l, c, m, n, V0, V1, D0, D1, P0, P1, hcs, _, hl, hm, hmm, hd, hcell⟩
  · simp [Value.cells] at hcs
    obtain ⟨rfl, rfl, rfl⟩ := hcs
    exact ⟨[], rfl, fun h => by simp at h⟩
  · simp [Value.cells] at hcs
    obtain ⟨rfl, rfl, rfl⟩ := hcs
    have hlm : len ≤ m := by rw [hmm]; split <;> omega
    have each : ∀ i, i < len → ∃ q : Int × Int, V0 i = .int .i64 q.1 ∧ V1 i = .int .i64 q.2 ∧ q.2 ≤ 9223372036854775807 := by
      intro i hi
      obtain ⟨_, _, h0, h1⟩ := hcell i (by omega)
      obtain ⟨z0, e0, _⟩ := DataW.trod_int Tryd.underlying3 h0
      obtain ⟨z1, e1, _, w1⟩ := DataW.trod_int Tryd.underlying3 h1
      have hb : (-9223372036854775808 : Int) ≤ z1 ∧ z1 ≤ 9223372036854775807 := by simpa [Lit.wf, IntKind.min, IntKind.max, IntKind.signed, IntKind.bits] using w1
      exact ⟨(z0, z1), by simpa using e0, by simpa using e1, hb.2⟩
    have hex : ∃ f : Nat → Int × Int, ∀ i, i < len → V0 i = .int .i64 (f i).1 ∧ V1 i = .int .i64 (f i).2 ∧ (f i).2 ≤ 9223372036854775807 := by
      refine ⟨fun i => if hi : i < len then Classical.choose (each i hi) else (0, 0), fun i hi => ?_⟩
      simp only [dif_pos hi]
      exact Classical.choose_spec (each i hi)
    obtain ⟨f, hf2⟩ := hex
    refine ⟨(List.range len).map f, by simp, fun h0 => ?_⟩
    obtain ⟨b, off, spot⟩ := x
    have hc := (hcell 0 (by omega)).1
    have hspot : spot = none := by simpa [Addr.add] using World.cell?_spot hc
    subst hspot
    refine ⟨b, off, rfl, fun k hk => ?_⟩
    have hg : ((List.range len).map f).getD k (0, 0) = f k := by simp [List.getD, hk]
    obtain ⟨h1, h2, _⟩ := hcell k (by omega)
    obtain ⟨e0, e1, e2⟩ := hf2 k hk
    have hplain : ∀ o, (⟨b, off, none⟩ : Addr).add o = ⟨b, off + o, none⟩ := fun o => by unfold Addr.add; split <;> simp_all
    rw [hg]
    rw [hplain] at h1 h2
    exact ⟨h1.trans (by rw [e0]), (by rw [Nat.add_assoc]; exact h2.trans (by rw [e1])), e2⟩

/-- in the midst of the readings -/
structure RdAt (W : World) (C R : Nat) (st : CS) (w : World) : Prop where
  cur : Cur w C (fun j => W.heap.size ≤ j ∧ j < R) st
  r : w.heap[R]? = some (.cells #[.string (strOfNums st.xs), .int .i64 st.bad] 36 (0, 0))
  bel : Below W.heap.size W w
  err : ErrAt w
theorem RdAt.below {W w w' : World} {C R : Nat} {st : CS} (h : RdAt W C R st w) (hb : Below w.heap.size w w') : RdAt W C R st w' :=
  ⟨h.cur.below hb, (hb.block _ (Array.getElem?_eq_some_iff.1 h.r).1).trans h.r, below_next h.bel hb, h.err.below hb⟩
/-- the cursor has gone on, and what it is held against -/
theorem RdAt.step {W w w' : World} {C R : Nat} {st st' : CS} (h : RdAt W C R st w) (hc : Cur w' C (fun j => W.heap.size ≤ j ∧ j < R) st') (hf : Fr (fun j => j = C) w w') :
    RdAt W C R st' ((w'.setCell ⟨R, 0, none⟩ (.string (strOfNums st'.xs))).setCell ⟨R, 1, none⟩ (.int .i64 st'.bad)) := by
  have hCR : C < R := h.cur.mem.2
  have hr := (hf.block R (Array.getElem?_eq_some_iff.1 h.r).1 (by omega)).trans h.r
  have hw := ((wrote_refl hr).set 0 (.string (strOfNums st'.xs))).set 1 (.int .i64 st'.bad)
  have hfr : Fr (fun j => j = R) w' ((w'.setCell ⟨R, 0, none⟩ (.string (strOfNums st'.xs))).setCell ⟨R, 1, none⟩ (.int .i64 st'.bad)) := ⟨hw.os, hw.tape, hw.output, Nat.le_of_eq hw.size.symm, fun j _ hj => hw.rest j hj⟩
  have hWR : W.heap.size ≤ R := Nat.le_trans h.cur.mem.1 (Nat.le_of_lt hCR)
  have hb1 : Below W.heap.size W w' := h.bel.trans (hf.below h.bel.size fun j hj => by subst hj; exact h.cur.mem.1)
  refine ⟨hfr.cur hc fun j hj _ => by omega, hw.there, hb1.trans (hfr.below hb1.size fun j hj => by subst hj; exact hWR), ?_⟩
  have he := h.err.fr hf (fun e => (h.cur.apart h.err) e.symm)
  refine he.fr hfr fun e => ?_
  have := h.r
  have hE := h.err
  unfold ErrAt at hE
  rw [e] at hE
  have c := cell_of_block (o := 0) this rfl
  rw [c] at hE
  cases hE
theorem rest_b {w : World} {C : Nat} {F : Nat → Prop} {st : CS} (h : Cur w C F st) :
    Calls Tryd.prog 29 #[.pointer (some ⟨C, 0, none⟩)] w fun r w' => r = .returned (.int .i64 (st.xs.length : Int)) ∧ Below w.heap.size w w' :=
  (rest_cur h).mono fun e w' ⟨h1, h2⟩ => ⟨h1, by subst h2; exact Below.refl _ _⟩
set_option maxRecDepth 100000 in
set_option maxHeartbeats 40000000 in
theorem reads_walk (ad : Option Addr) (n c : Nat) (xs : List Int) (la : Option Addr) (ll lc : Nat) (acts : List (Int × Int)) (W : World) (hT : TxtAt W (.slice ad n c) xs) (hn : n = xs.length) (h3000 : n ≤ 3000) (hL : Acts2 W la ll acts) (hE : ErrAt W) :
    Calls Tryd.prog 4 #[.slice ad n c, .slice la ll lc] W fun e w' => e = .returned (.bool true) ∧ Below W.heap.size W w' := by
  have hmx : Tryd.prog.follows .mixedOrders = true := by kernel_rfl
  have hd1 : decide ((n : Int) > 3000) = false := decide_eq_false (by omega)
  have K1 := Lib.hid (read_cur hT (by omega))
  have HT := Lib.hid hT
  have HL := Lib.hid hL
  have HE := Lib.hid hE
  clear hT hL hE hn
  go_enter Tryd.func4, Tryd.ntmps4
  go_wp2_with fail
  refine K1.out.mono ?_
  rintro e w1 ⟨C, rfl, hc, hb⟩
  have hcv := txt_conv (HT.out.below hb) w1 (Below.refl _ _)
  have HST := Lib.hid (show RdAt W C w1.heap.size ⟨xs, 0⟩ (w1.alloc (.cells #[.string (strOfNums xs), .int .i64 0] 36)) from
    ⟨(hc.tight.more (fun j hj => hj)).below (below_alloc (Below.refl _ w1) _), World.alloc_heap_new w1 _, below_next hb (below_alloc (Below.refl _ w1) _), HE.out.below (below_next hb (below_alloc (Below.refl _ w1) _))⟩)
  clear hc hb K1
  go_wp2_with fail
  generalize w1.alloc (.cells #[.string (strOfNums xs), .int .i64 0] 36) = W2 at *
  generalize w1.heap.size = R at *
  clear hcv
  go_loopw [7] (fun i wr => ∃ q : Nat, q ≤ 40 ∧ q ≤ ll ∧ i = .int .i64 q ∧ ∃ st, RdAt W C R st wr) (fun i _ => 40 - (intOf i).toNat)
  case atStart => exact ⟨0, by decide, Nat.zero_le _, rfl, _, HST.out⟩
  case round =>
    clear HST
    obtain ⟨q, hq40, hql, rfl, st, hst⟩ := hrel
    have HST := Lib.hid hst
    clear hst
    by_cases hlt : q < ll ∧ q < 40
    case neg =>
      have KO := Lib.hid (cod_one wr HST.out.err)
      have hle : (q : Int) ≤ 40 := by omega
      rcases (by omega : ¬ q < ll ∨ q < ll ∧ q = 40) with hx | ⟨hx, rfl⟩
      · have hd2 : decide ((q : Int) < (ll : Int)) = false := decide_eq_false (by omega)
        clear hlt hle
        go_wp2_with fail
        refine KO.out.mono ?_
        rintro e w2 ⟨rfl, hb⟩
        have HB := Lib.hid (below_next HST.out.bel hb)
        clear hb
        go_wp2
        go_ret
        exact ⟨rfl, HB.out⟩
      · have hd2 : decide (((40 : Nat) : Int) < (ll : Int)) = true := decide_eq_true (by omega)
        clear hlt hle
        go_wp2_with fail
        refine KO.out.mono ?_
        rintro e w2 ⟨rfl, hb⟩
        have HB := Lib.hid (below_next HST.out.bel hb)
        clear hb
        go_wp2
        go_ret
        exact ⟨rfl, HB.out⟩
    case pos =>
    obtain ⟨hlt, h40⟩ := hlt
    obtain ⟨b0, off0, rfl, hrow⟩ := HL.out.2 (by omega)
    obtain ⟨r0, r1, hms⟩ := hrow q hlt
    clear hrow
    generalize acts.getD q (0, 0) = a at *
    obtain ⟨kd, ms⟩ := a
    simp only at r0 r1 hms
    have hb0 : b0 < W.heap.size := World.block_lt_of_cell? W _ r0
    replace r0 := (HST.out.bel.cell (p := ⟨b0, off0 + q * 2, none⟩) hb0).trans r0
    replace r1 := (HST.out.bel.cell (p := ⟨b0, off0 + q * 2 + 1, none⟩) hb0).trans r1
    have hd1' : decide ((q : Int) < (ll : Int)) = true := decide_eq_true (by omega)
    have hd2' : decide ((q : Int) < 40) = true := decide_eq_true (by omega)
    have hw1 : IntKind.i64.wrap ((q : Int) + 1) = (q : Int) + 1 := IntWalk.i64_in _ (by omega)
    have HQ := Lib.hid (And.intro hlt (And.intro h40 (And.intro hq40 hql)))
    have HMS := Lib.hid hms
    have HA1 := Lib.hid (below_alloc (Below.refl _ wr) (.cells #[.int .i64 kd, .int .i64 ms] 38))
    have HSTA := Lib.hid (HST.out.below HA1.out)
    have rr := HSTA.out.r
    have R0 := cell_of_block (o := 0) rr rfl
    have R1 := cell_of_block (o := 1) rr rfl
    have hbx : (wr.alloc (.cells #[.int .i64 kd, .int .i64 ms] 38)).heap[wr.heap.size]? = some (.cells #[.int .i64 kd, .int .i64 ms] 38 (0, 0)) := World.alloc_heap_new wr _
    have HBX := Lib.hid hbx
    clear rr hq40 hql hms hbx
    rcases (by omega : kd = 0 ∨ kd = 1 ∨ kd = 2 ∨ kd = 3 ∨ (¬ kd = 0 ∧ ¬ kd = 1 ∧ ¬ kd = 2 ∧ ¬ kd = 3)) with rfl | rfl | rfl | rfl | ⟨k0, k1, k2, k3⟩
    · obtain ⟨st2, v2, hp⟩ : ∃ st2 v2, intF st = (st2, v2) := ⟨_, _, rfl⟩
      have kr := fun W => rint_any st HST.out.cur.bytes (by have := HST.out.cur.fits; omega) W
      unfold RC at kr
      rw [hp] at kr
      have kc := fun (w : World) (hc : Cur w C (fun j => W.heap.size ≤ j ∧ j < R) st) => int_cur hc
      rw [hp] at kc
      simp only at kr kc
      have KR := Lib.hid kr
      have KC := Lib.hid kc
      generalize hS : strOfNums st.xs = S at *
      generalize hS2 : strOfNums st2.xs = S2 at *
      have HS2 := Lib.hid hS2
      clear kr kc hp hS hS2
      go_wp2_with fail
      generalize (wr.alloc (.cells #[.int .i64 0, .int .i64 ms] 38)) = wa at *
      refine (KR.out wa).mono ?_
      rintro e w3 ⟨rfl, hb3⟩
      have H3 := Lib.hid (HSTA.out.below (hb3.trans ((below_alloc (Below.refl _ w3) (.cells #[.string S2, .int .i64 st2.bad] 36)).mono hb3.size)))
      have hq9 : (w3.alloc (.cells #[.string S2, .int .i64 st2.bad] 36)).heap[w3.heap.size]? = some (.cells #[.string S2, .int .i64 st2.bad] 36 (0, 0)) := World.alloc_heap_new w3 _
      have hRw : R < w3.heap.size := Nat.lt_of_lt_of_le (Array.getElem?_eq_some_iff.1 HSTA.out.r).1 hb3.size
      have HQ9 := Lib.hid hq9
      clear hb3 hq9 KR
      go_wp2_with fail
      refine (KC.out _ H3.out.cur).mono ?_
      rintro e w5 ⟨rfl, hc5, hf5⟩
      have h5 := H3.out.step hc5 hf5
      have g9 := (hf5.block w3.heap.size (by simp) (by have := H3.out.cur.mem.2; omega)).trans HQ9.out
      have gR := (hf5.block R (Array.getElem?_eq_some_iff.1 H3.out.r).1 (by have := H3.out.cur.mem.2; omega)).trans H3.out.r
      have m0 := cell_of_block (o := 0) g9 rfl
      have m1 := cell_of_block (o := 1) g9 rfl
      have n0 := cell_of_block (o := 0) gR rfl
      have n1 := cell_of_block (o := 1) gR rfl
      have n2 := free_of_block 0 gR
      have n3 := free_of_block 1 gR
      rw [HS2.out] at h5
      obtain ⟨w4, hw4⟩ : ∃ w4, (w5.setCell ⟨R, 0, none⟩ (.string S2)).setCell ⟨R, 1, none⟩ (.int .i64 st2.bad) = w4 := ⟨_, rfl⟩
      rw [hw4] at h5
      have H4 := Lib.hid h5
      have HW4 := Lib.hid hw4
      clear hc5 hf5 h5 g9 gR hw4 KC H3 HSTA HQ9 HBX
      go_wp2_with fail
      rw [HW4.out]
      have hcr := H4.out.r
      have u0 := cell_of_block (o := 0) hcr rfl
      have u1 := cell_of_block (o := 1) hcr rfl
      have hRlt : R < w4.heap.size := (Array.getElem?_eq_some_iff.1 hcr).1
      have hsz := size_str st2.xs
      generalize hS4 : strOfNums st2.xs = S4 at *
      have KR4 := Lib.hid (fun (w : World) (hb : Below w4.heap.size w4 w) => rest_b (H4.out.cur.below hb))
      have KB4 := Lib.hid (fun (w : World) (hb : Below w4.heap.size w4 w) => bad_cur (H4.out.cur.below hb) (H4.out.err.below hb))
      have KE4 := Lib.hid (fun (w : World) (hb : Below w4.heap.size w4 w) => end_cur (H4.out.cur.below hb) (H4.out.err.below hb))
      have KF4 := fun (w : World) => rend_any st2 w
      rw [hS4] at KF4
      have KG4 := Lib.hid KF4
      clear hcr KF4 hS4
      go_wp2_with fail
      refine Rl.wp_region_rel (fun a b => Below a.heap.size a b) w4 (fun a b c h h' => below_next h h') (fun a => Below.refl _ _) hmx (by kernel_rfl) (Below.refl _ _).drew ?_
      (refine Rl.textR_run ?_ (fun ρ => ?_) (fun ρ W hS hd => ?_) ?_; rotate_left; (focus go_simp); (focus (obtain ⟨hc, hf⟩ := bcell hS; go_simp; first | exact ⟨rfl, Below.refl _ _⟩ | (refine ⟨?_, Below.refl _ _⟩; rfl))); (try go_simp))
      (refine Rl.textR_run ?_ (fun ρ => ?_) (fun ρ W hS hd => ?_) ?_; rotate_left; (focus go_simp); (focus (obtain ⟨hc, hf⟩ := bcell hS; go_simp; refine (KR4.out W hS).mono ?_; rintro e w1 ⟨rfl, hb⟩; refine ⟨_, rfl, ?_, hb⟩; rfl)); (try go_simp))
      iterate 6 (refine Rl.textR_run ?_ (fun ρ => ?_) (fun ρ W hS hd => ?_) ?_; rotate_left; (focus go_simp); (focus (obtain ⟨hc, hf⟩ := bcell hS; go_simp; first | exact ⟨rfl, Below.refl _ _⟩ | (refine ⟨?_, Below.refl _ _⟩; rfl))); (try go_simp))
      (refine Rl.textR_run ?_ (fun ρ => ?_) (fun ρ W hS hd => ?_) ?_; rotate_left; (focus go_simp); (focus (obtain ⟨hc, hf⟩ := bcell hS; go_simp; refine (KB4.out W hS).mono ?_; rintro e w1 ⟨rfl, hb⟩; refine ⟨_, rfl, ?_, hb⟩; rfl)); (try go_simp))
      iterate 6 (refine Rl.textR_run ?_ (fun ρ => ?_) (fun ρ W hS hd => ?_) ?_; rotate_left; (focus go_simp); (focus (obtain ⟨hc, hf⟩ := bcell hS; go_simp; first | exact ⟨rfl, Below.refl _ _⟩ | (refine ⟨?_, Below.refl _ _⟩; rfl))); (try go_simp))
      (refine Rl.textR_run ?_ (fun ρ => ?_) (fun ρ W hS hd => ?_) ?_; rotate_left; (focus go_simp); (focus (obtain ⟨hc, hf⟩ := bcell hS; go_simp; refine (KE4.out W hS).mono ?_; rintro e w1 ⟨rfl, hb⟩; refine ⟨_, rfl, ?_, hb⟩; rfl)); (try go_simp))
      (refine Rl.textR_run ?_ (fun ρ => ?_) (fun ρ W hS hd => ?_) ?_; rotate_left; (focus go_simp); (focus (obtain ⟨hc, hf⟩ := bcell hS; go_simp; first | exact ⟨rfl, Below.refl _ _⟩ | (refine ⟨?_, Below.refl _ _⟩; rfl))); (try go_simp))
      (refine Rl.textR_run ?_ (fun ρ => ?_) (fun ρ W hS hd => ?_) ?_; rotate_left; (focus go_simp); (focus (obtain ⟨hc, hf⟩ := bcell hS; go_simp; refine (KG4.out W).mono ?_; rintro e w1 ⟨rfl, hb⟩; refine ⟨_, rfl, ?_, hb⟩; rfl)); (try go_simp))
      iterate 2 (refine Rl.textR_run ?_ (fun ρ => ?_) (fun ρ W hS hd => ?_) ?_; rotate_left; (focus go_simp); (focus (obtain ⟨hc, hf⟩ := bcell hS; go_simp; first | exact ⟨rfl, Below.refl _ _⟩ | (refine ⟨?_, Below.refl _ _⟩; rfl))); (try go_simp))
      refine Rl.textR_nil ?_
      intro ρ w9 hg hk9
      have H9 := Lib.hid (H4.out.below hg)
      clear hg hk9
      dsimp only
      go_wp2_with fail
      go_roundw
      case rel => exact ⟨q + 1, by have := HQ.out; omega, by have := HQ.out; omega, by go_num, _, H9.out⟩
      case measure => have := HQ.out; simp [intOf]; omega
    · obtain ⟨st2, v2, hp⟩ : ∃ st2 v2, smallF st ms = (st2, v2) := ⟨_, _, rfl⟩
      have kr := fun W => rsmall_any st HST.out.cur.bytes (by have := HST.out.cur.fits; omega) ms W
      rw [hp] at kr
      have kc := fun (w : World) (hc : Cur w C (fun j => W.heap.size ≤ j ∧ j < R) st) => small_cur hc ms
      rw [hp] at kc
      simp only at kr kc
      have KR := Lib.hid kr
      have KC := Lib.hid kc
      generalize hS : strOfNums st.xs = S at *
      generalize hS2 : strOfNums st2.xs = S2 at *
      have HS2 := Lib.hid hS2
      clear kr kc hp hS hS2
      go_wp2_with fail
      generalize (wr.alloc (.cells #[.int .i64 1, .int .i64 ms] 38)) = wa at *
      refine (KR.out wa).mono ?_
      rintro e w3 ⟨rfl, hb3⟩
      have H3 := Lib.hid (HSTA.out.below (hb3.trans ((below_alloc (Below.refl _ w3) (.cells #[.string S2, .int .i64 st2.bad] 36)).mono hb3.size)))
      have hq9 : (w3.alloc (.cells #[.string S2, .int .i64 st2.bad] 36)).heap[w3.heap.size]? = some (.cells #[.string S2, .int .i64 st2.bad] 36 (0, 0)) := World.alloc_heap_new w3 _
      have g8 := (hb3.block _ (Array.getElem?_eq_some_iff.1 HBX.out).1).trans HBX.out
      have a1 : (w3.alloc (.cells #[.string S2, .int .i64 st2.bad] 36)).cell? ⟨wr.heap.size, 1, none⟩ = some (.int .i64 ms) := cell_of_block (o := 1) ((Below.heap_alloc _ _ _ (Array.getElem?_eq_some_iff.1 g8).1).trans g8) rfl
      have hRw : R < w3.heap.size := Nat.lt_of_lt_of_le (Array.getElem?_eq_some_iff.1 HSTA.out.r).1 hb3.size
      have HQ9 := Lib.hid hq9
      clear hb3 hq9 KR
      go_wp2_with fail
      refine (KC.out _ H3.out.cur).mono ?_
      rintro e w5 ⟨rfl, hc5, hf5⟩
      have h5 := H3.out.step hc5 hf5
      have g9 := (hf5.block w3.heap.size (by simp) (by have := H3.out.cur.mem.2; omega)).trans HQ9.out
      have gR := (hf5.block R (Array.getElem?_eq_some_iff.1 H3.out.r).1 (by have := H3.out.cur.mem.2; omega)).trans H3.out.r
      have m0 := cell_of_block (o := 0) g9 rfl
      have m1 := cell_of_block (o := 1) g9 rfl
      have n0 := cell_of_block (o := 0) gR rfl
      have n1 := cell_of_block (o := 1) gR rfl
      have n2 := free_of_block 0 gR
      have n3 := free_of_block 1 gR
      rw [HS2.out] at h5
      obtain ⟨w4, hw4⟩ : ∃ w4, (w5.setCell ⟨R, 0, none⟩ (.string S2)).setCell ⟨R, 1, none⟩ (.int .i64 st2.bad) = w4 := ⟨_, rfl⟩
      rw [hw4] at h5
      have H4 := Lib.hid h5
      have HW4 := Lib.hid hw4
      clear hc5 hf5 h5 g9 gR hw4 KC H3 HSTA HQ9 HBX
      go_wp2_with fail
      rw [HW4.out]
      have hcr := H4.out.r
      have u0 := cell_of_block (o := 0) hcr rfl
      have u1 := cell_of_block (o := 1) hcr rfl
      have hRlt : R < w4.heap.size := (Array.getElem?_eq_some_iff.1 hcr).1
      have hsz := size_str st2.xs
      generalize hS4 : strOfNums st2.xs = S4 at *
      have KR4 := Lib.hid (fun (w : World) (hb : Below w4.heap.size w4 w) => rest_b (H4.out.cur.below hb))
      have KB4 := Lib.hid (fun (w : World) (hb : Below w4.heap.size w4 w) => bad_cur (H4.out.cur.below hb) (H4.out.err.below hb))
      have KE4 := Lib.hid (fun (w : World) (hb : Below w4.heap.size w4 w) => end_cur (H4.out.cur.below hb) (H4.out.err.below hb))
      have KF4 := fun (w : World) => rend_any st2 w
      rw [hS4] at KF4
      have KG4 := Lib.hid KF4
      clear hcr KF4 hS4
      go_wp2_with fail
      refine Rl.wp_region_rel (fun a b => Below a.heap.size a b) w4 (fun a b c h h' => below_next h h') (fun a => Below.refl _ _) hmx (by kernel_rfl) (Below.refl _ _).drew ?_
      (refine Rl.textR_run ?_ (fun ρ => ?_) (fun ρ W hS hd => ?_) ?_; rotate_left; (focus go_simp); (focus (obtain ⟨hc, hf⟩ := bcell hS; go_simp; first | exact ⟨rfl, Below.refl _ _⟩ | (refine ⟨?_, Below.refl _ _⟩; rfl))); (try go_simp))
      (refine Rl.textR_run ?_ (fun ρ => ?_) (fun ρ W hS hd => ?_) ?_; rotate_left; (focus go_simp); (focus (obtain ⟨hc, hf⟩ := bcell hS; go_simp; refine (KR4.out W hS).mono ?_; rintro e w1 ⟨rfl, hb⟩; refine ⟨_, rfl, ?_, hb⟩; rfl)); (try go_simp))
      iterate 6 (refine Rl.textR_run ?_ (fun ρ => ?_) (fun ρ W hS hd => ?_) ?_; rotate_left; (focus go_simp); (focus (obtain ⟨hc, hf⟩ := bcell hS; go_simp; first | exact ⟨rfl, Below.refl _ _⟩ | (refine ⟨?_, Below.refl _ _⟩; rfl))); (try go_simp))
      (refine Rl.textR_run ?_ (fun ρ => ?_) (fun ρ W hS hd => ?_) ?_; rotate_left; (focus go_simp); (focus (obtain ⟨hc, hf⟩ := bcell hS; go_simp; refine (KB4.out W hS).mono ?_; rintro e w1 ⟨rfl, hb⟩; refine ⟨_, rfl, ?_, hb⟩; rfl)); (try go_simp))
      iterate 6 (refine Rl.textR_run ?_ (fun ρ => ?_) (fun ρ W hS hd => ?_) ?_; rotate_left; (focus go_simp); (focus (obtain ⟨hc, hf⟩ := bcell hS; go_simp; first | exact ⟨rfl, Below.refl _ _⟩ | (refine ⟨?_, Below.refl _ _⟩; rfl))); (try go_simp))
      (refine Rl.textR_run ?_ (fun ρ => ?_) (fun ρ W hS hd => ?_) ?_; rotate_left; (focus go_simp); (focus (obtain ⟨hc, hf⟩ := bcell hS; go_simp; refine (KE4.out W hS).mono ?_; rintro e w1 ⟨rfl, hb⟩; refine ⟨_, rfl, ?_, hb⟩; rfl)); (try go_simp))
      (refine Rl.textR_run ?_ (fun ρ => ?_) (fun ρ W hS hd => ?_) ?_; rotate_left; (focus go_simp); (focus (obtain ⟨hc, hf⟩ := bcell hS; go_simp; first | exact ⟨rfl, Below.refl _ _⟩ | (refine ⟨?_, Below.refl _ _⟩; rfl))); (try go_simp))
      (refine Rl.textR_run ?_ (fun ρ => ?_) (fun ρ W hS hd => ?_) ?_; rotate_left; (focus go_simp); (focus (obtain ⟨hc, hf⟩ := bcell hS; go_simp; refine (KG4.out W).mono ?_; rintro e w1 ⟨rfl, hb⟩; refine ⟨_, rfl, ?_, hb⟩; rfl)); (try go_simp))
      iterate 2 (refine Rl.textR_run ?_ (fun ρ => ?_) (fun ρ W hS hd => ?_) ?_; rotate_left; (focus go_simp); (focus (obtain ⟨hc, hf⟩ := bcell hS; go_simp; first | exact ⟨rfl, Below.refl _ _⟩ | (refine ⟨?_, Below.refl _ _⟩; rfl))); (try go_simp))
      refine Rl.textR_nil ?_
      intro ρ w9 hg hk9
      have H9 := Lib.hid (H4.out.below hg)
      clear hg hk9
      dsimp only
      go_wp2_with fail
      go_roundw
      case rel => exact ⟨q + 1, by have := HQ.out; omega, by have := HQ.out; omega, by go_num, _, H9.out⟩
      case measure => have := HQ.out; simp [intOf]; omega
    · obtain ⟨st2, v2, hp⟩ : ∃ st2 v2, textF st = (st2, v2) := ⟨_, _, rfl⟩
      have kr := fun W => rtext_any st HST.out.cur.bytes (by have := HST.out.cur.fits; omega) W
      rw [hp] at kr
      have kc := fun (w : World) (hc : Cur w C (fun j => W.heap.size ≤ j ∧ j < R) st) => text_cur hc
      rw [hp] at kc
      simp only at kr kc
      have KR := Lib.hid kr
      have KC := Lib.hid kc
      generalize hv2 : strOfNums v2 = sv at *
      generalize hS : strOfNums st.xs = S at *
      generalize hS2 : strOfNums st2.xs = S2 at *
      have HS2 := Lib.hid hS2
      clear kr kc hp hS hS2
      go_wp2_with fail
      generalize (wr.alloc (.cells #[.int .i64 2, .int .i64 ms] 38)) = wa at *
      refine (KR.out wa).mono ?_
      rintro e w3 ⟨rfl, hb3⟩
      have H3 := Lib.hid (HSTA.out.below (hb3.trans ((below_alloc (Below.refl _ w3) (.cells #[.string S2, .int .i64 st2.bad] 36)).mono hb3.size)))
      have hq9 : (w3.alloc (.cells #[.string S2, .int .i64 st2.bad] 36)).heap[w3.heap.size]? = some (.cells #[.string S2, .int .i64 st2.bad] 36 (0, 0)) := World.alloc_heap_new w3 _
      have hRw : R < w3.heap.size := Nat.lt_of_lt_of_le (Array.getElem?_eq_some_iff.1 HSTA.out.r).1 hb3.size
      have HQ9 := Lib.hid hq9
      clear hb3 hq9 KR
      go_wp2_with fail
      refine (KC.out _ H3.out.cur).mono ?_
      rintro e w5 ⟨rfl, hc5, hf5⟩
      have h5 := H3.out.step hc5 hf5
      have g9 := (hf5.block w3.heap.size (by simp) (by have := H3.out.cur.mem.2; omega)).trans HQ9.out
      have gR := (hf5.block R (Array.getElem?_eq_some_iff.1 H3.out.r).1 (by have := H3.out.cur.mem.2; omega)).trans H3.out.r
      have m0 := cell_of_block (o := 0) g9 rfl
      have m1 := cell_of_block (o := 1) g9 rfl
      have n0 := cell_of_block (o := 0) gR rfl
      have n1 := cell_of_block (o := 1) gR rfl
      have n2 := free_of_block 0 gR
      have n3 := free_of_block 1 gR
      rw [HS2.out] at h5
      obtain ⟨w4, hw4⟩ : ∃ w4, (w5.setCell ⟨R, 0, none⟩ (.string S2)).setCell ⟨R, 1, none⟩ (.int .i64 st2.bad) = w4 := ⟨_, rfl⟩
      rw [hw4] at h5
      have H4 := Lib.hid h5
      have HW4 := Lib.hid hw4
      clear hc5 hf5 h5 g9 gR hw4 KC H3 HSTA HQ9 HBX
      go_wp2_with fail
      rw [HW4.out]
      have hcr := H4.out.r
      have u0 := cell_of_block (o := 0) hcr rfl
      have u1 := cell_of_block (o := 1) hcr rfl
      have hRlt : R < w4.heap.size := (Array.getElem?_eq_some_iff.1 hcr).1
      have hsz := size_str st2.xs
      generalize hS4 : strOfNums st2.xs = S4 at *
      have KR4 := Lib.hid (fun (w : World) (hb : Below w4.heap.size w4 w) => rest_b (H4.out.cur.below hb))
      have KB4 := Lib.hid (fun (w : World) (hb : Below w4.heap.size w4 w) => bad_cur (H4.out.cur.below hb) (H4.out.err.below hb))
      have KE4 := Lib.hid (fun (w : World) (hb : Below w4.heap.size w4 w) => end_cur (H4.out.cur.below hb) (H4.out.err.below hb))
      have KF4 := fun (w : World) => rend_any st2 w
      rw [hS4] at KF4
      have KG4 := Lib.hid KF4
      clear hcr KF4 hS4
      go_wp2_with fail
      refine Rl.wp_region_rel (fun a b => Below a.heap.size a b) w4 (fun a b c h h' => below_next h h') (fun a => Below.refl _ _) hmx (by kernel_rfl) (Below.refl _ _).drew ?_
      (refine Rl.textR_run ?_ (fun ρ => ?_) (fun ρ W hS hd => ?_) ?_; rotate_left; (focus go_simp); (focus (obtain ⟨hc, hf⟩ := bcell hS; go_simp; first | exact ⟨rfl, Below.refl _ _⟩ | (refine ⟨?_, Below.refl _ _⟩; rfl))); (try go_simp))
      (refine Rl.textR_run ?_ (fun ρ => ?_) (fun ρ W hS hd => ?_) ?_; rotate_left; (focus go_simp); (focus (obtain ⟨hc, hf⟩ := bcell hS; go_simp; refine (KR4.out W hS).mono ?_; rintro e w1 ⟨rfl, hb⟩; refine ⟨_, rfl, ?_, hb⟩; rfl)); (try go_simp))
      iterate 6 (refine Rl.textR_run ?_ (fun ρ => ?_) (fun ρ W hS hd => ?_) ?_; rotate_left; (focus go_simp); (focus (obtain ⟨hc, hf⟩ := bcell hS; go_simp; first | exact ⟨rfl, Below.refl _ _⟩ | (refine ⟨?_, Below.refl _ _⟩; rfl))); (try go_simp))
      (refine Rl.textR_run ?_ (fun ρ => ?_) (fun ρ W hS hd => ?_) ?_; rotate_left; (focus go_simp); (focus (obtain ⟨hc, hf⟩ := bcell hS; go_simp; refine (KB4.out W hS).mono ?_; rintro e w1 ⟨rfl, hb⟩; refine ⟨_, rfl, ?_, hb⟩; rfl)); (try go_simp))
      iterate 6 (refine Rl.textR_run ?_ (fun ρ => ?_) (fun ρ W hS hd => ?_) ?_; rotate_left; (focus go_simp); (focus (obtain ⟨hc, hf⟩ := bcell hS; go_simp; first | exact ⟨rfl, Below.refl _ _⟩ | (refine ⟨?_, Below.refl _ _⟩; rfl))); (try go_simp))
      (refine Rl.textR_run ?_ (fun ρ => ?_) (fun ρ W hS hd => ?_) ?_; rotate_left; (focus go_simp); (focus (obtain ⟨hc, hf⟩ := bcell hS; go_simp; refine (KE4.out W hS).mono ?_; rintro e w1 ⟨rfl, hb⟩; refine ⟨_, rfl, ?_, hb⟩; rfl)); (try go_simp))
      (refine Rl.textR_run ?_ (fun ρ => ?_) (fun ρ W hS hd => ?_) ?_; rotate_left; (focus go_simp); (focus (obtain ⟨hc, hf⟩ := bcell hS; go_simp; first | exact ⟨rfl, Below.refl _ _⟩ | (refine ⟨?_, Below.refl _ _⟩; rfl))); (try go_simp))
      (refine Rl.textR_run ?_ (fun ρ => ?_) (fun ρ W hS hd => ?_) ?_; rotate_left; (focus go_simp); (focus (obtain ⟨hc, hf⟩ := bcell hS; go_simp; refine (KG4.out W).mono ?_; rintro e w1 ⟨rfl, hb⟩; refine ⟨_, rfl, ?_, hb⟩; rfl)); (try go_simp))
      iterate 2 (refine Rl.textR_run ?_ (fun ρ => ?_) (fun ρ W hS hd => ?_) ?_; rotate_left; (focus go_simp); (focus (obtain ⟨hc, hf⟩ := bcell hS; go_simp; first | exact ⟨rfl, Below.refl _ _⟩ | (refine ⟨?_, Below.refl _ _⟩; rfl))); (try go_simp))
      refine Rl.textR_nil ?_
      intro ρ w9 hg hk9
      have H9 := Lib.hid (H4.out.below hg)
      clear hg hk9
      dsimp only
      go_wp2_with fail
      go_roundw
      case rel => exact ⟨q + 1, by have := HQ.out; omega, by have := HQ.out; omega, by go_num, _, H9.out⟩
      case measure => have := HQ.out; simp [intOf]; omega
    · obtain ⟨st2, l2, hp⟩ : ∃ st2 l2, intsF st ms = (st2, l2) := ⟨_, _, rfl⟩
      have kr := fun W => rints_any st HST.out.cur.bytes (by have := HST.out.cur.fits; omega) HMS.out W
      rw [hp] at kr
      have kc := fun (w : World) (hc : Cur w C (fun j => W.heap.size ≤ j ∧ j < R) st) (hE : ErrAt w) => ints_cur hc hE HMS.out
      rw [hp] at kc
      simp only at kr kc
      have KR := Lib.hid kr
      have KC := Lib.hid kc
      generalize hS : strOfNums st.xs = S at *
      generalize hS2 : strOfNums st2.xs = S2 at *
      have HS2 := Lib.hid hS2
      clear kr kc hp hS hS2
      go_wp2_with fail
      generalize (wr.alloc (.cells #[.int .i64 3, .int .i64 ms] 38)) = wa at *
      refine (KR.out wa).mono ?_
      rintro e w3 ⟨u3, rfl, ho3, hb3⟩
      obtain ⟨xa, xc, rfl⟩ := ho3.form
      have hal := below_alloc (Below.refl _ w3) (.cells #[.string S2, .int .i64 st2.bad] 36)
      have H3 := Lib.hid (HSTA.out.below (hb3.trans (hal.mono hb3.size)))
      have HO3 := Lib.hid (ho3.below hal)
      have hq9 : (w3.alloc (.cells #[.string S2, .int .i64 st2.bad] 36)).heap[w3.heap.size]? = some (.cells #[.string S2, .int .i64 st2.bad] 36 (0, 0)) := World.alloc_heap_new w3 _
      have g8 := (hb3.block _ (Array.getElem?_eq_some_iff.1 HBX.out).1).trans HBX.out
      have a1 : (w3.alloc (.cells #[.string S2, .int .i64 st2.bad] 36)).cell? ⟨wr.heap.size, 1, none⟩ = some (.int .i64 ms) := cell_of_block (o := 1) ((Below.heap_alloc _ _ _ (Array.getElem?_eq_some_iff.1 g8).1).trans g8) rfl
      have hRa : R < wa.heap.size := (Array.getElem?_eq_some_iff.1 HSTA.out.r).1
      have hRw : R < w3.heap.size := Nat.lt_of_lt_of_le hRa hb3.size
      have HQ9 := Lib.hid hq9
      clear hb3 hq9 KR ho3 hal
      go_wp2_with fail
      refine (KC.out _ H3.out.cur H3.out.err).mono ?_
      rintro e w5 ⟨u5, rfl, ho5, hc5, hf5⟩
      obtain ⟨ya, yc, rfl⟩ := ho5.form
      have hCR : C < R := H3.out.cur.mem.2
      have HX := Lib.hid (HO3.out.fr hf5 (fun j hj he => by omega)).ints
      have HY := Lib.hid ho5.ints
      have hl2 : l2.length ≤ 9223372036854775807 := by
        rcases ho5.ints with ⟨h, _⟩ | ⟨_, h, _⟩
        · rw [h]; decide
        · exact h
      have HL2 := Lib.hid hl2
      have HC5 := Lib.hid hc5
      have HF5 := Lib.hid hf5
      clear ho5 hc5 hf5 KC HO3 hl2
      go_wp2_with fail
      go_loopw [18] (fun i wr => ∃ k : Nat, k ≤ l2.length ∧ i = .int .i64 k ∧ Below w5.heap.size w5 wr) (fun i _ => l2.length - (intOf i).toNat)
      case atStart => exact ⟨0, Nat.zero_le _, rfl, Below.refl _ _⟩
      case round =>
        obtain ⟨k, hk, rfl, hbr⟩ := hrel
        have HBR := Lib.hid hbr
        by_cases hlt : k < l2.length
        · have hd3 : decide ((k : Int) < (l2.length : Int)) = true := decide_eq_true (by omega)
          obtain ⟨mg, mo, rfl, hmc⟩ : ∃ g o, xa = some ⟨g, o, none⟩ ∧ wr.drew.cell? ⟨g, o + k, none⟩ = some (.int .i64 (l2.getD k 0)) := by
            rcases HX.out.below hbr with ⟨rfl, _⟩ | ⟨_, _, g, o, c, e, _, hc⟩
            · simp at hlt
            · cases e; exact ⟨g, o, rfl, hc k hlt⟩
          obtain ⟨lg, lo, rfl, hlc⟩ : ∃ g o, ya = some ⟨g, o, none⟩ ∧ wr.drew.cell? ⟨g, o + k, none⟩ = some (.int .i64 (l2.getD k 0)) := by
            rcases HY.out.below hbr with ⟨rfl, _⟩ | ⟨_, _, g, o, c, e, _, hc⟩
            · simp at hlt
            · cases e; exact ⟨g, o, rfl, hc k hlt⟩
          generalize l2.getD k 0 = x at *
          have hkb : IntKind.i64.wrap ((k : Int) + 1) = (k : Int) + 1 := IntWalk.i64_in _ (by have := HL2.out; omega)
          clear hbr
          go_wp2_with fail
          refine wp_region_grow (fun w' => w' = wr.drew) hmx (by kernel_rfl) rfl ?_
          iterate 9 (refine textS_run ?_ ?_ (fun W hS => ?_) ?_; rotate_left; (focus go_simp); (focus (subst hS; go_simp; all_goals (first | exact ⟨rfl, rfl⟩ | rfl | (refine ⟨?_, rfl⟩; rfl)))); (try go_simp))
          refine textS_nil ?_
          go_wp2_with fail
          go_roundw
          case rel => exact ⟨k + 1, by omega, by go_num, HBR.out.drew⟩
          case measure => simp [intOf]; omega
        · have hd3 : decide ((k : Int) < (l2.length : Int)) = false := decide_eq_false (by omega)
          have hkl : (k : Int) = (l2.length : Int) := by omega
          have hf6 := HF5.out.trans (Fr.of_below hbr) (fun j hj => .inr (Nat.le_trans HF5.out.size hj))
          have h5 := H3.out.step (HC5.out.below hbr) hf6
          have g9 := (hf6.block w3.heap.size (by simp) (by omega)).trans HQ9.out
          have gR := (hf6.block R (Array.getElem?_eq_some_iff.1 H3.out.r).1 (by omega)).trans H3.out.r
          have m0 := cell_of_block (o := 0) g9 rfl
          have m1 := cell_of_block (o := 1) g9 rfl
          have n0 := cell_of_block (o := 0) gR rfl
          have n1 := cell_of_block (o := 1) gR rfl
          have n2 := free_of_block 0 gR
          have n3 := free_of_block 1 gR
          rw [HS2.out] at h5
          obtain ⟨w4, hw4⟩ : ∃ w4, (wr.setCell ⟨R, 0, none⟩ (.string S2)).setCell ⟨R, 1, none⟩ (.int .i64 st2.bad) = w4 := ⟨_, rfl⟩
          rw [hw4] at h5
          have H4 := Lib.hid h5
          have HW4 := Lib.hid hw4
          clear hf6 h5 g9 gR hw4 H3 HSTA HQ9 HBX hbr hkl
          go_wp2_with fail
          rw [HW4.out]
          have hcr := H4.out.r
          have u0 := cell_of_block (o := 0) hcr rfl
          have u1 := cell_of_block (o := 1) hcr rfl
          have hRlt : R < w4.heap.size := (Array.getElem?_eq_some_iff.1 hcr).1
          have hsz := size_str st2.xs
          generalize hS4 : strOfNums st2.xs = S4 at *
          have KR4 := Lib.hid (fun (w : World) (hb : Below w4.heap.size w4 w) => rest_b (H4.out.cur.below hb))
          have KB4 := Lib.hid (fun (w : World) (hb : Below w4.heap.size w4 w) => bad_cur (H4.out.cur.below hb) (H4.out.err.below hb))
          have KE4 := Lib.hid (fun (w : World) (hb : Below w4.heap.size w4 w) => end_cur (H4.out.cur.below hb) (H4.out.err.below hb))
          have KF4 := fun (w : World) => rend_any st2 w
          rw [hS4] at KF4
          have KG4 := Lib.hid KF4
          clear hcr KF4 hS4
          go_wp2_with fail
          refine Rl.wp_region_rel (fun a b => Below a.heap.size a b) w4 (fun a b c h h' => below_next h h') (fun a => Below.refl _ _) hmx (by kernel_rfl) (Below.refl _ _).drew ?_
          (refine Rl.textR_run ?_ (fun ρ => ?_) (fun ρ W hS hd => ?_) ?_; rotate_left; (focus go_simp); (focus (obtain ⟨hc, hf⟩ := bcell hS; go_simp; first | exact ⟨rfl, Below.refl _ _⟩ | (refine ⟨?_, Below.refl _ _⟩; rfl))); (try go_simp))
          (refine Rl.textR_run ?_ (fun ρ => ?_) (fun ρ W hS hd => ?_) ?_; rotate_left; (focus go_simp); (focus (obtain ⟨hc, hf⟩ := bcell hS; go_simp; refine (KR4.out W hS).mono ?_; rintro e w1 ⟨rfl, hb⟩; refine ⟨_, rfl, ?_, hb⟩; rfl)); (try go_simp))
          iterate 6 (refine Rl.textR_run ?_ (fun ρ => ?_) (fun ρ W hS hd => ?_) ?_; rotate_left; (focus go_simp); (focus (obtain ⟨hc, hf⟩ := bcell hS; go_simp; first | exact ⟨rfl, Below.refl _ _⟩ | (refine ⟨?_, Below.refl _ _⟩; rfl))); (try go_simp))
          (refine Rl.textR_run ?_ (fun ρ => ?_) (fun ρ W hS hd => ?_) ?_; rotate_left; (focus go_simp); (focus (obtain ⟨hc, hf⟩ := bcell hS; go_simp; refine (KB4.out W hS).mono ?_; rintro e w1 ⟨rfl, hb⟩; refine ⟨_, rfl, ?_, hb⟩; rfl)); (try go_simp))
          iterate 6 (refine Rl.textR_run ?_ (fun ρ => ?_) (fun ρ W hS hd => ?_) ?_; rotate_left; (focus go_simp); (focus (obtain ⟨hc, hf⟩ := bcell hS; go_simp; first | exact ⟨rfl, Below.refl _ _⟩ | (refine ⟨?_, Below.refl _ _⟩; rfl))); (try go_simp))
          (refine Rl.textR_run ?_ (fun ρ => ?_) (fun ρ W hS hd => ?_) ?_; rotate_left; (focus go_simp); (focus (obtain ⟨hc, hf⟩ := bcell hS; go_simp; refine (KE4.out W hS).mono ?_; rintro e w1 ⟨rfl, hb⟩; refine ⟨_, rfl, ?_, hb⟩; rfl)); (try go_simp))
          (refine Rl.textR_run ?_ (fun ρ => ?_) (fun ρ W hS hd => ?_) ?_; rotate_left; (focus go_simp); (focus (obtain ⟨hc, hf⟩ := bcell hS; go_simp; first | exact ⟨rfl, Below.refl _ _⟩ | (refine ⟨?_, Below.refl _ _⟩; rfl))); (try go_simp))
          (refine Rl.textR_run ?_ (fun ρ => ?_) (fun ρ W hS hd => ?_) ?_; rotate_left; (focus go_simp); (focus (obtain ⟨hc, hf⟩ := bcell hS; go_simp; refine (KG4.out W).mono ?_; rintro e w1 ⟨rfl, hb⟩; refine ⟨_, rfl, ?_, hb⟩; rfl)); (try go_simp))
          iterate 2 (refine Rl.textR_run ?_ (fun ρ => ?_) (fun ρ W hS hd => ?_) ?_; rotate_left; (focus go_simp); (focus (obtain ⟨hc, hf⟩ := bcell hS; go_simp; first | exact ⟨rfl, Below.refl _ _⟩ | (refine ⟨?_, Below.refl _ _⟩; rfl))); (try go_simp))
          refine Rl.textR_nil ?_
          intro ρ w9 hg hk9
          have H9 := Lib.hid (H4.out.below hg)
          clear hg hk9
          dsimp only
          go_wp2_with fail
          go_roundw
          case rel => exact ⟨q + 1, by have := HQ.out; omega, by have := HQ.out; omega, by go_num, _, H9.out⟩
          case measure => have := HQ.out; simp [intOf]; omega
    · go_wp2_with fail
      generalize (wr.alloc (.cells #[.int .i64 kd, .int .i64 ms] 38)) = wa at *
      have hcr := HSTA.out.r
      have u0 := cell_of_block (o := 0) hcr rfl
      have u1 := cell_of_block (o := 1) hcr rfl
      have hRlt : R < wa.heap.size := (Array.getElem?_eq_some_iff.1 hcr).1
      have hsz := size_str st.xs
      generalize hS4 : strOfNums st.xs = S4 at *
      have KR4 := Lib.hid (fun (w : World) (hb : Below wa.heap.size wa w) => rest_b (HSTA.out.cur.below hb))
      have KB4 := Lib.hid (fun (w : World) (hb : Below wa.heap.size wa w) => bad_cur (HSTA.out.cur.below hb) (HSTA.out.err.below hb))
      have KE4 := Lib.hid (fun (w : World) (hb : Below wa.heap.size wa w) => end_cur (HSTA.out.cur.below hb) (HSTA.out.err.below hb))
      have KF4 := fun (w : World) => rend_any st w
      rw [hS4] at KF4
      have KG4 := Lib.hid KF4
      clear hcr KF4 hS4
      refine Rl.wp_region_rel (fun a b => Below a.heap.size a b) wa (fun a b c h h' => below_next h h') (fun a => Below.refl _ _) hmx (by kernel_rfl) (Below.refl _ _).drew ?_
      (refine Rl.textR_run ?_ (fun ρ => ?_) (fun ρ W hS hd => ?_) ?_; rotate_left; (focus go_simp); (focus (obtain ⟨hc, hf⟩ := bcell hS; go_simp; first | exact ⟨rfl, Below.refl _ _⟩ | (refine ⟨?_, Below.refl _ _⟩; rfl))); (try go_simp))
      (refine Rl.textR_run ?_ (fun ρ => ?_) (fun ρ W hS hd => ?_) ?_; rotate_left; (focus go_simp); (focus (obtain ⟨hc, hf⟩ := bcell hS; go_simp; refine (KR4.out W hS).mono ?_; rintro e w1 ⟨rfl, hb⟩; refine ⟨_, rfl, ?_, hb⟩; rfl)); (try go_simp))
      iterate 6 (refine Rl.textR_run ?_ (fun ρ => ?_) (fun ρ W hS hd => ?_) ?_; rotate_left; (focus go_simp); (focus (obtain ⟨hc, hf⟩ := bcell hS; go_simp; first | exact ⟨rfl, Below.refl _ _⟩ | (refine ⟨?_, Below.refl _ _⟩; rfl))); (try go_simp))
      (refine Rl.textR_run ?_ (fun ρ => ?_) (fun ρ W hS hd => ?_) ?_; rotate_left; (focus go_simp); (focus (obtain ⟨hc, hf⟩ := bcell hS; go_simp; refine (KB4.out W hS).mono ?_; rintro e w1 ⟨rfl, hb⟩; refine ⟨_, rfl, ?_, hb⟩; rfl)); (try go_simp))
      iterate 6 (refine Rl.textR_run ?_ (fun ρ => ?_) (fun ρ W hS hd => ?_) ?_; rotate_left; (focus go_simp); (focus (obtain ⟨hc, hf⟩ := bcell hS; go_simp; first | exact ⟨rfl, Below.refl _ _⟩ | (refine ⟨?_, Below.refl _ _⟩; rfl))); (try go_simp))
      (refine Rl.textR_run ?_ (fun ρ => ?_) (fun ρ W hS hd => ?_) ?_; rotate_left; (focus go_simp); (focus (obtain ⟨hc, hf⟩ := bcell hS; go_simp; refine (KE4.out W hS).mono ?_; rintro e w1 ⟨rfl, hb⟩; refine ⟨_, rfl, ?_, hb⟩; rfl)); (try go_simp))
      (refine Rl.textR_run ?_ (fun ρ => ?_) (fun ρ W hS hd => ?_) ?_; rotate_left; (focus go_simp); (focus (obtain ⟨hc, hf⟩ := bcell hS; go_simp; first | exact ⟨rfl, Below.refl _ _⟩ | (refine ⟨?_, Below.refl _ _⟩; rfl))); (try go_simp))
      (refine Rl.textR_run ?_ (fun ρ => ?_) (fun ρ W hS hd => ?_) ?_; rotate_left; (focus go_simp); (focus (obtain ⟨hc, hf⟩ := bcell hS; go_simp; refine (KG4.out W).mono ?_; rintro e w1 ⟨rfl, hb⟩; refine ⟨_, rfl, ?_, hb⟩; rfl)); (try go_simp))
      iterate 2 (refine Rl.textR_run ?_ (fun ρ => ?_) (fun ρ W hS hd => ?_) ?_; rotate_left; (focus go_simp); (focus (obtain ⟨hc, hf⟩ := bcell hS; go_simp; first | exact ⟨rfl, Below.refl _ _⟩ | (refine ⟨?_, Below.refl _ _⟩; rfl))); (try go_simp))
      refine Rl.textR_nil ?_
      intro ρ w9 hg hk9
      have H9 := Lib.hid (HSTA.out.below hg)
      clear hg hk9
      dsimp only
      go_wp2_with fail
      go_roundw
      case rel => exact ⟨q + 1, by have := HQ.out; omega, by have := HQ.out; omega, by go_num, _, H9.out⟩
      case measure => have := HQ.out; simp [intOf]; omega
/-- too long: nothing is asked -/
theorem reads_any (ad : Option Addr) (n c : Nat) (xs : List Int) (W : World) (hT : TxtAt W (.slice ad n c) xs) (la : Option Addr) (ll lc : Nat) (acts : List (Int × Int)) (hL : Acts2 W la ll acts) (hE : ErrAt W) :
    Calls Tryd.prog 4 #[.slice ad n c, .slice la ll lc] W fun e w' => e = .returned (.bool true) ∧ Below W.heap.size W w' := by
  by_cases h : n ≤ 3000
  · exact reads_walk ad n c xs la ll lc acts W hT hT.form.1 h hL hE
  · have hd1 : decide ((n : Int) > 3000) = true := decide_eq_true (by omega)
    clear hT
    go_enter Tryd.func4, Tryd.ntmps4
    go_wp2
    go_ret
    exact ⟨rfl, Below.refl _ _⟩
end Go.Proofs.YtnlfighfkmlmaaaDoor
