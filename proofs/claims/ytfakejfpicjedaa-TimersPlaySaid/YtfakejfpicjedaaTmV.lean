/- The walk of TimersPlay (layer 17). No condition. -/
import Derived.Test.YtfakejfpicjedaaTmU
namespace Go.Proofs.Ytfakejfpicjedaa
set_option linter.unusedVariables false
open Go.ChangeShapes Go.WideShapes Go.ChangeAt Go.RowKit Tm
attribute [local go_sem ↓] Go.wp_at_zero Go.wp_at_succ comesTo_value_eq comesTo_skip_eq comesTo_enter_eq

/-- a clock that holds R, beside a row of the document's that reads S -/
structure Pl (w X : World) (c Q m : Nat) (v r : Value) (R S : List AL) : Prop where
  ck : Ck X c Q m v R
  rc : RC X r S
  bel : Below w.heap.size w X
  lo : w.heap.size ≤ c ∧ w.heap.size ≤ Q ∧ w.heap.size ≤ m
  vlo : ∀ g, v.ownBlock = some g → w.heap.size ≤ g
  rne : ∀ g, r.ownBlock = some g → g ≠ Q ∧ g ≠ m ∧ v.ownBlock ≠ some g
theorem Pl.below {w X X' : World} {c Q m : Nat} {v r : Value} {R S : List AL} (h : Pl w X c Q m v r R S) (hb : Below X.heap.size X X') : Pl w X' c Q m v r R S :=
  ⟨h.ck.below hb, h.rc.below hb, h.bel.trans (hb.mono h.bel.size), h.lo, h.vlo, h.rne⟩
theorem Pl.clock {w X X' : World} {c Q m : Nat} {v v' r : Value} {R R' S : List AL} (h : Pl w X c Q m v r R S) (hK : Ck X' c Q m v' R') (hF : FrT Q m v X X') (hR : RowN X v v') : Pl w X' c Q m v' r R' S :=
  ⟨hK, h.rc.keep hF.size (fun g hg => hF.blk g (h.rc.lt g hg) (h.rne g hg).1 (h.rne g hg).2.1 (h.rne g hg).2.2), FrT.below hF h.bel h.ck.lt.2.1 h.lo.2.1 h.lo.2.2 h.vlo, h.lo, (fun g hg => by
    rcases hR g hg with h1 | h1
    · exact h.vlo g h1
    · exact Nat.le_trans h.bel.size h1), fun g hg => ⟨(h.rne g hg).1, (h.rne g hg).2.1, fun e => by
    rcases hR g e with h1 | h1
    · exact (h.rne g hg).2.2 h1
    · have := h.rc.lt g hg; omega⟩⟩
theorem Pl.doc {w X X' : World} {c Q m : Nat} {v r u : Value} {R S S' : List AL} (h : Pl w X c Q m v r R S) (hr : RC X' u S') (hb : Below X.heap.size X X') (hu : ∀ g, u.ownBlock = some g → r.ownBlock = some g ∨ X.heap.size ≤ g) : Pl w X' c Q m v u R S' :=
  ⟨h.ck.below hb, hr, h.bel.trans (hb.mono h.bel.size), h.lo, h.vlo, fun g hg => by
    rcases hu g hg with h1 | h1
    · exact h.rne g h1
    · have l := h.ck.lt
      exact ⟨by omega, by omega, fun e => by have := l.2.2.2 g e; omega⟩⟩
/-- the act at hand -/
structure PA (X : World) (p Q m : Nat) (v : Value) (K u t : Int) : Prop where
  blk : X.heap[p]? = some (.cells #[.int .i64 K, .int .i64 u, .int .i64 t] 29 (0, 0))
  ne : p ≠ Q ∧ p ≠ m ∧ v.ownBlock ≠ some p
theorem PA.lt {X : World} {p Q m : Nat} {v : Value} {K u t : Int} (h : PA X p Q m v K u t) : p < X.heap.size := (Array.getElem?_eq_some_iff.1 h.blk).1
theorem PA.below {X X' : World} {p Q m : Nat} {v : Value} {K u t : Int} (h : PA X p Q m v K u t) (hb : Below X.heap.size X X') : PA X' p Q m v K u t := ⟨(hb.block p h.lt).trans h.blk, h.ne⟩
theorem PA.clock {X X' : World} {p Q m : Nat} {v v' : Value} {K u t : Int} (h : PA X p Q m v K u t) (hF : FrT Q m v X X') (hR : RowN X v v') : PA X' p Q m v' K u t :=
  ⟨(hF.blk p h.lt h.ne.1 h.ne.2.1 h.ne.2.2).trans h.blk, h.ne.1, h.ne.2.1, fun e => by
    rcases hR p e with h1 | h1
    · exact h.ne.2.2 h1
    · have := h.lt; omega⟩
theorem RC.form {w : World} {v : Value} {L : List AL} (h : RC w v L) : ∃ a c, v = .slice a L.length c := by
  rcases h with ⟨rfl, rfl⟩ | ⟨g, o, cap, rfl, _⟩
  · exact ⟨_, _, rfl⟩
  · exact ⟨_, _, rfl⟩
theorem RC.cells {w : World} {a : Option Addr} {n cap : Nat} {L : List AL} (h : RC w (.slice a n cap) L) {k : Nat} (hk : k < L.length) : ∃ g o, a = some ⟨g, o, none⟩ ∧ w.cell? ⟨g, o + k * 2, none⟩ = some (.int .i64 (gA L k).1) ∧ w.cell? ⟨g, o + k * 2 + 1, none⟩ = some (.int .i64 (gA L k).2) := by
  rcases h with ⟨_, rfl⟩ | ⟨g, o, cap, hv, _, _, h3⟩
  · exact absurd hk (Nat.not_lt_zero _)
  · injection hv with hv
    exact ⟨g, o, hv, h3.cells k hk⟩
set_option maxRecDepth 100000 in
set_option maxHeartbeats 16000000 in
theorem tplay_walk (ad : Option Addr) (len cap : Nat) (A : Nat → T17.Act) (w : World) (hA : T17.Acts w ad len A) : Calls Try.prog 3 #[.slice ad len cap] w fun e w' => e = .returned (.bool true) ∧ Below w.heap.size w w' := by
  have KN := Lib.hid (ck_new w)
  have HAC := Lib.hid hA
  clear hA
  go_enter Try.func3, Try.ntmps3
  go_wp2_with fail
  refine KN.out.mono ?_
  rintro e w1 ⟨c, Q, m, rfl, hK, hb, l1, l2, l3⟩
  have H1 := Lib.hid (show Pl w w1 c Q m (.slice none 0 0) (.slice none 0 0) [] [] from
    ⟨hK, .inl ⟨rfl, rfl⟩, hb, ⟨l1, l2, l3⟩, (fun g hg => by cases hg), fun g hg => by cases hg⟩)
  clear hK hb l1 l2 l3 KN
  go_wp2_with fail
  go_loopw [4, 5] (fun r i wr => ∃ (k : Nat) (R : List AL) (v : Value), k ≤ 80 ∧ k ≤ len ∧ i = .int .i64 (k : Int) ∧ Pl w wr c Q m v r R R) (fun _ i _ => 80 - (intOf i).toNat)
  case atStart => exact ⟨0, [], _, by omega, Nat.zero_le _, rfl, H1.out⟩
  case round =>
    obtain ⟨k, R, v, hk, hkl, rfl, hP⟩ := hrel
    have HP := Lib.hid hP
    clear hP H1
    by_cases hlt : k < len ∧ k < 80
    case neg =>
      have KO := Lib.hid (one_any wr)
      by_cases hl1 : k < len
      · have hkI : (k : Int) < (len : Int) := by omega
        have hkI2 : ¬ (k : Int) < 80 := by omega
        go_wp2_with fail
        refine KO.out.mono ?_
        rintro e w2 ⟨rfl, hb⟩
        go_wp2_with fail
        go_ret
        exact ⟨rfl, HP.out.bel.trans (hb.mono HP.out.bel.size)⟩
      · have hkI : ¬ (k : Int) < (len : Int) := by omega
        go_wp2_with fail
        refine KO.out.mono ?_
        rintro e w2 ⟨rfl, hb⟩
        go_wp2_with fail
        go_ret
        exact ⟨rfl, HP.out.bel.trans (hb.mono HP.out.bel.size)⟩
    case pos =>
      obtain ⟨b, off, rfl, hbw, hcells⟩ := HAC.out.2 (by omega)
      have hc := hcells k hlt.1
      have c0 := (HP.out.bel.cell (p := ⟨b, off + k * 3, none⟩) hbw).trans hc.c0
      have c1 := (HP.out.bel.cell (p := ⟨b, off + k * 3 + 1, none⟩) hbw).trans hc.c1
      have c2 := (HP.out.bel.cell (p := ⟨b, off + k * 3 + 2, none⟩) hbw).trans hc.c2
      have HU := Lib.hid hc.u64
      have HT := Lib.hid hc.t64
      generalize (A k).kind = K at *
      generalize (A k).u = u at *
      generalize (A k).t = t at *
      have hkI : (k : Int) < (len : Int) := by omega
      have hkI2 : (k : Int) < 80 := by omega
      have hw1 : IntKind.i64.wrap ((k : Int) + 1) = (k : Int) + 1 := by rw [IntKind.wrap_i64]; omega
      have HK := Lib.hid hlt
      clear hc hcells hbw hlt hk hkl
      have b1 := below_alloc (Below.refl _ wr) (.cells #[.int .i64 K, .int .i64 u, .int .i64 t] 29)
      have q1 := World.alloc_heap_new wr (.cells #[.int .i64 K, .int .i64 u, .int .i64 t] 29)
      have HP1 := Lib.hid (HP.out.below b1)
      have HQ1 := Lib.hid (show PA _ wr.heap.size Q m v K u t from ⟨q1, by have := HP.out.ck.lt; omega, by have := HP.out.ck.lt; omega, fun e => by have := HP.out.ck.lt.2.2.2 _ e; omega⟩)
      clear b1 q1 HP
      obtain ⟨ra, rc', rfl⟩ := HP1.out.rc.form
      go_upto_region 9 with fail
      clear c0 c1 c2
      generalize wr.alloc (.cells #[.int .i64 K, .int .i64 u, .int .i64 t] 29) = X1 at *
      generalize wr.heap.size = p at *
      have c0 : X1.cell? ⟨p, 0, none⟩ = some (.int .i64 K) := cell_of_block (o := 0) HQ1.out.blk rfl
      have c1 : X1.cell? ⟨p, 1, none⟩ = some (.int .i64 u) := cell_of_block (o := 1) HQ1.out.blk rfl
      have c2 : X1.cell? ⟨p, 2, none⟩ = some (.int .i64 t) := cell_of_block (o := 2) HQ1.out.blk rfl
      by_cases h0 : K = 0
      case pos =>
        subst h0
        have KD := Lib.hid (rset HP1.out.rc HP1.out.ck.len HP1.out.ck.nu HP1.out.ck.srt u t)
        go_wp2_with fail
        refine KD.out.mono ?_
        rintro e w2 ⟨s, rfl, hs, hb, hor⟩
        have HP2 := Lib.hid (HP1.out.doc hs hb (fun g hg => by
          rcases hor with rfl | h1
          · exact .inl hg
          · exact .inr (h1 g hg)))
        have HQ2 := Lib.hid (HQ1.out.below hb)
        have KS := Lib.hid (ck_set HP2.out.ck HU.out HT.out)
        generalize (setR R u t).2 = z at *
        generalize (setR R u t).1 = R2 at *
        clear hs hb hor KD HP1 HQ1 c0 c1 c2
        have c0 : w2.cell? ⟨p, 0, none⟩ = some (.int .i64 0) := cell_of_block (o := 0) HQ2.out.blk rfl
        have c1 : w2.cell? ⟨p, 1, none⟩ = some (.int .i64 u) := cell_of_block (o := 1) HQ2.out.blk rfl
        have c2 : w2.cell? ⟨p, 2, none⟩ = some (.int .i64 t) := cell_of_block (o := 2) HQ2.out.blk rfl
        go_wp2_with fail
        refine KS.out.mono ?_
        rintro e w3 ⟨rfl, v3, hK3, hF3, hR3⟩
        have HP3 := Lib.hid (HP2.out.clock hK3 hF3 hR3)
        have HQ3 := Lib.hid (HQ2.out.clock hF3 hR3)
        clear hK3 hF3 hR3 KS HP2 HQ2 c0 c1 c2
        have c0 : w3.cell? ⟨p, 0, none⟩ = some (.int .i64 0) := cell_of_block (o := 0) HQ3.out.blk rfl
        have c1 : w3.cell? ⟨p, 1, none⟩ = some (.int .i64 u) := cell_of_block (o := 1) HQ3.out.blk rfl
        have c2 : w3.cell? ⟨p, 2, none⟩ = some (.int .i64 t) := cell_of_block (o := 2) HQ3.out.blk rfl
        have HUX := Lib.hid (show c < c + 1 from Nat.lt_succ_self c)
        obtain ⟨sa, sc, rfl⟩ := HP3.out.rc.form
        obtain ⟨R', hR'⟩ : ∃ R', R' = R2 := ⟨_, rfl⟩
        rw [← hR'] at HP3 ⊢
        clear hR'
        obtain ⟨n, hn⟩ : ∃ n, n = R'.length := ⟨_, rfl⟩
        have HN := Lib.hid hn
        have hrc := HP3.out.rc
        rw [← hn] at hrc ⊢
        have HRC := Lib.hid hrc
        have HNL := Lib.hid (show n ≤ 4096 from by rw [hn]; exact HP3.out.ck.len)
        clear hn hrc
        go_wp2_with fail
        go_loopw [16, 17, 18] (fun x y i wz => ∃ j : Nat, j ≤ n ∧ i = .int .i64 (j : Int) ∧ x = .int .i64 ((atR (R'.take j) u).getD 0) ∧ y = .bool (atR (R'.take j) u).isSome ∧ Below w3.heap.size w3 wz) (fun _ _ i _ => n - (intOf i).toNat)
        case atStart => exact ⟨0, Nat.zero_le _, rfl, rfl, rfl, Below.refl _ _⟩
        case round =>
          obtain ⟨j, hj, rfl, rfl, rfl, hb⟩ := hrel
          have HB := Lib.hid hb
          clear hb
          by_cases hlt : j < n
          · have hjR : j < R'.length := by rw [← HN.out]; exact hlt
            obtain ⟨g, o, hv1, y0, y1⟩ := (HRC.out.below HB.out).cells hjR
            subst hv1
            have hjI : (j : Int) < (n : Int) := by omega
            have hwj : IntKind.i64.wrap ((j : Int) + 1) = (j : Int) + 1 := by have := HNL.out; rw [IntKind.wrap_i64]; omega
            have HAT := Lib.hid (at_take HP3.out.ck.nu hjR u)
            have HJ := Lib.hid hlt
            have q1 : wr.cell? ⟨p, 1, none⟩ = some (.int .i64 u) := cell_of_block (o := 1) ((HB.out.block p HQ3.out.lt).trans HQ3.out.blk) rfl
            generalize gA R' j = z at *
            obtain ⟨z1, z2⟩ := z
            dsimp only at y0 y1 HAT
            generalize hsm : atR (R'.take j) u = ao at *
            clear hj hlt hjR c0 c1 c2 hsm
            by_cases he : z2 = u
            · subst he
              have HAT2 := Lib.hid (show atR (R'.take (j + 1)) z2 = some z1 from by rw [HAT.out, if_pos rfl])
              go_upto_region 36 with fail
              go_quiet (fail)
              have HBq := Lib.hid (below_drewN HB.out nq)
              go_wp2_with fail
              go_roundw
              case rel => exact ⟨j + 1, by have := HJ.out; omega, by go_num, by rw [HAT2.out]; rfl, by rw [HAT2.out]; rfl, HBq.out⟩
              case measure => have := HJ.out; simp [intOf]; omega
            · have HAT2 := Lib.hid (show atR (R'.take (j + 1)) u = ao from by rw [HAT.out, if_neg he])
              have he2 : (z2 == u) = false := by simpa using he
              clear he
              go_upto_region 36 with fail
              go_quiet (fail)
              have HBq := Lib.hid (below_drewN HB.out nq)
              go_wp2_with fail
              go_roundw
              case rel => exact ⟨j + 1, by have := HJ.out; omega, by go_num, by rw [HAT2.out], by rw [HAT2.out], HBq.out⟩
              case measure => have := HJ.out; simp [intOf]; omega
          · have hjI : ¬ (j : Int) < (n : Int) := by omega
            rw [List.take_of_length_le (show R'.length ≤ j from by rw [← HN.out]; omega)]
            have HP9 := Lib.hid (HP3.out.below HB.out)
            have HQ9 := Lib.hid (HQ3.out.below HB.out)
            have KA := Lib.hid (ck_at HP9.out.ck HU.out)
            have kl := ck_len HP9.out.ck
            rw [← HN.out] at kl
            have KL := Lib.hid kl
            have kx := ck_next HP9.out.ck
            have hrc := HRC.out.below HB.out
            have HND := Lib.hid (show n = 0 ∧ nextR R' = 1099511627776 ∨ 0 < n ∧ nextR R' = (gA R' 0).1 from by
              rw [HN.out]
              cases R' with
              | nil => exact .inl ⟨rfl, rfl⟩
              | cons y S => exact .inr ⟨by simp, rfl⟩)
            have hcl := fun (h : 0 < R'.length) => hrc.cells h
            rw [← HN.out] at hcl
            generalize (atR R' u).getD 0 = x1 at *
            generalize (atR R' u).isSome = x2 at *
            generalize nextR R' = T at *
            have KX := Lib.hid kx
            clear kl kx hrc hj hlt HB HRC HP3 HQ3 c0 c1 c2
            have c1 : wr.cell? ⟨p, 1, none⟩ = some (.int .i64 u) := cell_of_block (o := 1) HQ9.out.blk rfl
            rcases HND.out with ⟨h0n, hT⟩ | ⟨h0n, hT⟩
            · subst hT
              have h0I : ¬ (0 : Int) < (n : Int) := by omega
              have h0N : ¬ 0 < n := by omega
              clear hcl HND h0n
              go_wp2_with fail
              refine KA.out.mono ?_
              rintro e w8 ⟨rfl, hw⟩
              obtain rfl := hw
              go_wp2_with fail
              refine KL.out.mono ?_
              rintro e w8 ⟨rfl, hw⟩
              obtain rfl := hw
              go_wp2_with fail
              refine KX.out.mono ?_
              rintro e w8 ⟨rfl, hw⟩
              obtain rfl := hw
              go_wp2_with fail
              go_roundw
              case rel => exact ⟨k + 1, R', v3, by have := HK.out; omega, by have := HK.out; omega, by go_num, by rw [HN.out]; exact HP9.out⟩
              case measure => have := HK.out; simp [intOf]; omega
            · obtain ⟨g, o, hv1, y0, _⟩ := hcl h0n
              subst hv1
              rw [Nat.zero_mul, Nat.add_zero, ← hT] at y0
              have h0I : (0 : Int) < (n : Int) := by omega
              clear hcl HND hT
              go_wp2_with fail
              refine KA.out.mono ?_
              rintro e w8 ⟨rfl, hw⟩
              obtain rfl := hw
              go_wp2_with fail
              refine KL.out.mono ?_
              rintro e w8 ⟨rfl, hw⟩
              obtain rfl := hw
              go_wp2_with fail
              refine KX.out.mono ?_
              rintro e w8 ⟨rfl, hw⟩
              obtain rfl := hw
              go_wp2_with fail
              go_roundw
              case rel => exact ⟨k + 1, R', v3, by have := HK.out; omega, by have := HK.out; omega, by go_num, by rw [HN.out]; exact HP9.out⟩
              case measure => have := HK.out; simp [intOf]; omega
      case neg =>
        have e0 : (K == 0) = false := by simpa using h0
        by_cases h1 : K = 1
        case pos =>
          subst h1
          have KD := Lib.hid (rdrop HP1.out.rc HP1.out.ck.len HP1.out.ck.nu u)
          clear e0 h0
          go_wp2_with fail
          refine KD.out.mono ?_
          rintro e w2 ⟨s, rfl, hs, hb, hor⟩
          have HP2 := Lib.hid (HP1.out.doc hs hb (fun g hg => by
            rcases hor with rfl | h1
            · exact .inl hg
            · exact .inr (h1 g hg)))
          have HQ2 := Lib.hid (HQ1.out.below hb)
          have KS := Lib.hid (ck_drop HP2.out.ck HU.out)
          generalize inR R u = z at *
          generalize delR R u = R2 at *
          clear hs hb hor KD HP1 HQ1 c0 c1 c2
          have c0 : w2.cell? ⟨p, 0, none⟩ = some (.int .i64 1) := cell_of_block (o := 0) HQ2.out.blk rfl
          have c1 : w2.cell? ⟨p, 1, none⟩ = some (.int .i64 u) := cell_of_block (o := 1) HQ2.out.blk rfl
          have c2 : w2.cell? ⟨p, 2, none⟩ = some (.int .i64 t) := cell_of_block (o := 2) HQ2.out.blk rfl
          go_wp2_with fail
          refine KS.out.mono ?_
          rintro e w3 ⟨rfl, v3, hK3, hF3, hR3⟩
          have HP3 := Lib.hid (HP2.out.clock hK3 hF3 hR3)
          have HQ3 := Lib.hid (HQ2.out.clock hF3 hR3)
          clear hK3 hF3 hR3 KS HP2 HQ2 c0 c1 c2
          have c0 : w3.cell? ⟨p, 0, none⟩ = some (.int .i64 1) := cell_of_block (o := 0) HQ3.out.blk rfl
          have c1 : w3.cell? ⟨p, 1, none⟩ = some (.int .i64 u) := cell_of_block (o := 1) HQ3.out.blk rfl
          have c2 : w3.cell? ⟨p, 2, none⟩ = some (.int .i64 t) := cell_of_block (o := 2) HQ3.out.blk rfl
          have HUX := Lib.hid (show c < c + 1 from Nat.lt_succ_self c)
          obtain ⟨sa, sc, rfl⟩ := HP3.out.rc.form
          obtain ⟨R', hR'⟩ : ∃ R', R' = R2 := ⟨_, rfl⟩
          rw [← hR'] at HP3 ⊢
          clear hR'
          obtain ⟨n, hn⟩ : ∃ n, n = R'.length := ⟨_, rfl⟩
          have HN := Lib.hid hn
          have hrc := HP3.out.rc
          rw [← hn] at hrc ⊢
          have HRC := Lib.hid hrc
          have HNL := Lib.hid (show n ≤ 4096 from by rw [hn]; exact HP3.out.ck.len)
          clear hn hrc
          go_wp2_with fail
          go_loopw [16, 17, 18] (fun x y i wz => ∃ j : Nat, j ≤ n ∧ i = .int .i64 (j : Int) ∧ x = .int .i64 ((atR (R'.take j) u).getD 0) ∧ y = .bool (atR (R'.take j) u).isSome ∧ Below w3.heap.size w3 wz) (fun _ _ i _ => n - (intOf i).toNat)
          case atStart => exact ⟨0, Nat.zero_le _, rfl, rfl, rfl, Below.refl _ _⟩
          case round =>
            obtain ⟨j, hj, rfl, rfl, rfl, hb⟩ := hrel
            have HB := Lib.hid hb
            clear hb
            by_cases hlt : j < n
            · have hjR : j < R'.length := by rw [← HN.out]; exact hlt
              obtain ⟨g, o, hv1, y0, y1⟩ := (HRC.out.below HB.out).cells hjR
              subst hv1
              have hjI : (j : Int) < (n : Int) := by omega
              have hwj : IntKind.i64.wrap ((j : Int) + 1) = (j : Int) + 1 := by have := HNL.out; rw [IntKind.wrap_i64]; omega
              have HAT := Lib.hid (at_take HP3.out.ck.nu hjR u)
              have HJ := Lib.hid hlt
              have q1 : wr.cell? ⟨p, 1, none⟩ = some (.int .i64 u) := cell_of_block (o := 1) ((HB.out.block p HQ3.out.lt).trans HQ3.out.blk) rfl
              generalize gA R' j = z at *
              obtain ⟨z1, z2⟩ := z
              dsimp only at y0 y1 HAT
              generalize hsm : atR (R'.take j) u = ao at *
              clear hj hlt hjR c0 c1 c2 hsm
              by_cases he : z2 = u
              · subst he
                have HAT2 := Lib.hid (show atR (R'.take (j + 1)) z2 = some z1 from by rw [HAT.out, if_pos rfl])
                go_upto_region 36 with fail
                go_quiet (fail)
                have HBq := Lib.hid (below_drewN HB.out nq)
                go_wp2_with fail
                go_roundw
                case rel => exact ⟨j + 1, by have := HJ.out; omega, by go_num, by rw [HAT2.out]; rfl, by rw [HAT2.out]; rfl, HBq.out⟩
                case measure => have := HJ.out; simp [intOf]; omega
              · have HAT2 := Lib.hid (show atR (R'.take (j + 1)) u = ao from by rw [HAT.out, if_neg he])
                have he2 : (z2 == u) = false := by simpa using he
                clear he
                go_upto_region 36 with fail
                go_quiet (fail)
                have HBq := Lib.hid (below_drewN HB.out nq)
                go_wp2_with fail
                go_roundw
                case rel => exact ⟨j + 1, by have := HJ.out; omega, by go_num, by rw [HAT2.out], by rw [HAT2.out], HBq.out⟩
                case measure => have := HJ.out; simp [intOf]; omega
            · have hjI : ¬ (j : Int) < (n : Int) := by omega
              rw [List.take_of_length_le (show R'.length ≤ j from by rw [← HN.out]; omega)]
              have HP9 := Lib.hid (HP3.out.below HB.out)
              have HQ9 := Lib.hid (HQ3.out.below HB.out)
              have KA := Lib.hid (ck_at HP9.out.ck HU.out)
              have kl := ck_len HP9.out.ck
              rw [← HN.out] at kl
              have KL := Lib.hid kl
              have kx := ck_next HP9.out.ck
              have hrc := HRC.out.below HB.out
              have HND := Lib.hid (show n = 0 ∧ nextR R' = 1099511627776 ∨ 0 < n ∧ nextR R' = (gA R' 0).1 from by
                rw [HN.out]
                cases R' with
                | nil => exact .inl ⟨rfl, rfl⟩
                | cons y S => exact .inr ⟨by simp, rfl⟩)
              have hcl := fun (h : 0 < R'.length) => hrc.cells h
              rw [← HN.out] at hcl
              generalize (atR R' u).getD 0 = x1 at *
              generalize (atR R' u).isSome = x2 at *
              generalize nextR R' = T at *
              have KX := Lib.hid kx
              clear kl kx hrc hj hlt HB HRC HP3 HQ3 c0 c1 c2
              have c1 : wr.cell? ⟨p, 1, none⟩ = some (.int .i64 u) := cell_of_block (o := 1) HQ9.out.blk rfl
              rcases HND.out with ⟨h0n, hT⟩ | ⟨h0n, hT⟩
              · subst hT
                have h0I : ¬ (0 : Int) < (n : Int) := by omega
                have h0N : ¬ 0 < n := by omega
                clear hcl HND h0n
                go_wp2_with fail
                refine KA.out.mono ?_
                rintro e w8 ⟨rfl, hw⟩
                obtain rfl := hw
                go_wp2_with fail
                refine KL.out.mono ?_
                rintro e w8 ⟨rfl, hw⟩
                obtain rfl := hw
                go_wp2_with fail
                refine KX.out.mono ?_
                rintro e w8 ⟨rfl, hw⟩
                obtain rfl := hw
                go_wp2_with fail
                go_roundw
                case rel => exact ⟨k + 1, R', v3, by have := HK.out; omega, by have := HK.out; omega, by go_num, by rw [HN.out]; exact HP9.out⟩
                case measure => have := HK.out; simp [intOf]; omega
              · obtain ⟨g, o, hv1, y0, _⟩ := hcl h0n
                subst hv1
                rw [Nat.zero_mul, Nat.add_zero, ← hT] at y0
                have h0I : (0 : Int) < (n : Int) := by omega
                clear hcl HND hT
                go_wp2_with fail
                refine KA.out.mono ?_
                rintro e w8 ⟨rfl, hw⟩
                obtain rfl := hw
                go_wp2_with fail
                refine KL.out.mono ?_
                rintro e w8 ⟨rfl, hw⟩
                obtain rfl := hw
                go_wp2_with fail
                refine KX.out.mono ?_
                rintro e w8 ⟨rfl, hw⟩
                obtain rfl := hw
                go_wp2_with fail
                go_roundw
                case rel => exact ⟨k + 1, R', v3, by have := HK.out; omega, by have := HK.out; omega, by go_num, by rw [HN.out]; exact HP9.out⟩
                case measure => have := HK.out; simp [intOf]; omega
        case neg =>
          have e1 : (K == 1) = false := by simpa using h1
          by_cases h2 : K = 2
          case pos =>
            subst h2
            have KD := Lib.hid (rdue HP1.out.rc HP1.out.ck.len t)
            clear e0 h0 e1 h1
            go_wp2_with fail
            refine KD.out.mono ?_
            rintro e w2 ⟨s, d, rfl, hs, hd, hb, hu1, hu2⟩
            have HDD := Lib.hid (And.intro hd (fun g hg => HP1.out.rne g (hu2 g hg)))
            have HP2 := Lib.hid (HP1.out.doc hs hb (fun g hg => .inl (hu1 g hg)))
            have HQ2 := Lib.hid (HQ1.out.below hb)
            have KS := Lib.hid (ck_due HP2.out.ck t)
            have HDL := Lib.hid (show (dueR R t).length ≤ 4096 from by have := due_len R t; have := HP1.out.ck.len; omega)
            generalize dueR R t = D at *
            generalize restR R t = R2 at *
            clear hs hb hu1 hu2 hd KD HP1 HQ1 c0 c1 c2
            have c0 : w2.cell? ⟨p, 0, none⟩ = some (.int .i64 2) := cell_of_block (o := 0) HQ2.out.blk rfl
            have c1 : w2.cell? ⟨p, 1, none⟩ = some (.int .i64 u) := cell_of_block (o := 1) HQ2.out.blk rfl
            have c2 : w2.cell? ⟨p, 2, none⟩ = some (.int .i64 t) := cell_of_block (o := 2) HQ2.out.blk rfl
            go_wp2_with fail
            refine KS.out.mono ?_
            rintro e w3 ⟨x, rfl, hx, v3, hK3, hF3, hR3, _⟩
            have HP3 := Lib.hid (HP2.out.clock hK3 hF3 hR3)
            have HQ3 := Lib.hid (HQ2.out.clock hF3 hR3)
            have HD3 := Lib.hid (show RC w3 d D from HDD.out.1.keep hF3.size fun g hg => hF3.blk g (HDD.out.1.lt g hg) (HDD.out.2 g hg).1 (HDD.out.2 g hg).2.1 (HDD.out.2 g hg).2.2)
            have HX3 := Lib.hid hx
            clear hK3 hF3 hR3 hx KS HP2 HQ2 HDD c0 c1 c2
            obtain ⟨xa, xc, rfl⟩ := HX3.out.form
            obtain ⟨da, dc, rfl⟩ := HD3.out.form
            obtain ⟨nd, hnd⟩ : ∃ nd, nd = D.length := ⟨_, rfl⟩
            rw [← hnd] at HDL ⊢
            have HND := Lib.hid hnd
            clear hnd
            go_wp2_with fail
            go_loopw [14] (fun i wz => ∃ j : Nat, j ≤ nd ∧ i = .int .i64 (j : Int) ∧ Below w3.heap.size w3 wz) (fun i _ => nd - (intOf i).toNat)
            case atStart => exact ⟨0, Nat.zero_le _, rfl, Below.refl _ _⟩
            case round =>
              obtain ⟨j, hj, rfl, hb⟩ := hrel
              have HB := Lib.hid hb
              clear hb
              by_cases hlt : j < nd
              · have hjR : j < D.length := by rw [← HND.out]; exact hlt
                obtain ⟨g, cap, hv, _, y0, y1⟩ := RowD.cells (Ap.own_below HX3.out HB.out) hjR
                obtain ⟨g', o', hv', z0, z1⟩ := (HD3.out.below HB.out).cells hjR
                injection hv with hv1 hv2 hv3
                subst hv1 hv'
                have hjI : (j : Int) < (nd : Int) := by omega
                have hwj : IntKind.i64.wrap ((j : Int) + 1) = (j : Int) + 1 := by have := HDL.out; rw [IntKind.wrap_i64]; omega
                have HJ := Lib.hid hlt
                generalize gA D j = y at *
                obtain ⟨a1, a2⟩ := y
                dsimp only at y0 y1 z0 z1
                clear hj hlt hjR hv2 hv3
                go_upto_region 28 with fail
                go_quiet (fail)
                have HBq := Lib.hid (below_drewN HB.out nq)
                go_wp2_with fail
                go_roundw
                case rel => exact ⟨j + 1, by have := HJ.out; omega, by go_num, HBq.out⟩
                case measure => have := HJ.out; simp [intOf]; omega
              · have hjI : ¬ (j : Int) < (nd : Int) := by omega
                have HP4 := Lib.hid (HP3.out.below HB.out)
                have HQ4 := Lib.hid (HQ3.out.below HB.out)
                clear hj hlt HP3 HQ3 HX3 HD3 HB
                generalize wr = w4 at *
                have c0 : w4.cell? ⟨p, 0, none⟩ = some (.int .i64 2) := cell_of_block (o := 0) HQ4.out.blk rfl
                have c1 : w4.cell? ⟨p, 1, none⟩ = some (.int .i64 u) := cell_of_block (o := 1) HQ4.out.blk rfl
                have c2 : w4.cell? ⟨p, 2, none⟩ = some (.int .i64 t) := cell_of_block (o := 2) HQ4.out.blk rfl
                have HUX := Lib.hid (show c < c + 1 from Nat.lt_succ_self c)
                obtain ⟨sa, sc, rfl⟩ := HP4.out.rc.form
                obtain ⟨R', hR'⟩ : ∃ R', R' = R2 := ⟨_, rfl⟩
                rw [← hR'] at HP4 ⊢
                clear hR'
                obtain ⟨n, hn⟩ : ∃ n, n = R'.length := ⟨_, rfl⟩
                have HN := Lib.hid hn
                have hrc := HP4.out.rc
                rw [← hn] at hrc ⊢
                have HRC := Lib.hid hrc
                have HNL := Lib.hid (show n ≤ 4096 from by rw [hn]; exact HP4.out.ck.len)
                clear hn hrc
                go_wp2_with fail
                go_loopw [16, 17, 18] (fun x y i wz => ∃ j : Nat, j ≤ n ∧ i = .int .i64 (j : Int) ∧ x = .int .i64 ((atR (R'.take j) u).getD 0) ∧ y = .bool (atR (R'.take j) u).isSome ∧ Below w4.heap.size w4 wz) (fun _ _ i _ => n - (intOf i).toNat)
                case atStart => exact ⟨0, Nat.zero_le _, rfl, rfl, rfl, Below.refl _ _⟩
                case round =>
                  obtain ⟨j, hj, rfl, rfl, rfl, hb⟩ := hrel
                  have HB := Lib.hid hb
                  clear hb
                  by_cases hlt : j < n
                  · have hjR : j < R'.length := by rw [← HN.out]; exact hlt
                    obtain ⟨g, o, hv1, y0, y1⟩ := (HRC.out.below HB.out).cells hjR
                    subst hv1
                    have hjI : (j : Int) < (n : Int) := by omega
                    have hwj : IntKind.i64.wrap ((j : Int) + 1) = (j : Int) + 1 := by have := HNL.out; rw [IntKind.wrap_i64]; omega
                    have HAT := Lib.hid (at_take HP4.out.ck.nu hjR u)
                    have HJ := Lib.hid hlt
                    have q1 : wr.cell? ⟨p, 1, none⟩ = some (.int .i64 u) := cell_of_block (o := 1) ((HB.out.block p HQ4.out.lt).trans HQ4.out.blk) rfl
                    generalize gA R' j = z at *
                    obtain ⟨z1, z2⟩ := z
                    dsimp only at y0 y1 HAT
                    generalize hsm : atR (R'.take j) u = ao at *
                    clear hj hlt hjR c0 c1 c2 hsm
                    by_cases he : z2 = u
                    · subst he
                      have HAT2 := Lib.hid (show atR (R'.take (j + 1)) z2 = some z1 from by rw [HAT.out, if_pos rfl])
                      go_upto_region 36 with fail
                      go_quiet (fail)
                      have HBq := Lib.hid (below_drewN HB.out nq)
                      go_wp2_with fail
                      go_roundw
                      case rel => exact ⟨j + 1, by have := HJ.out; omega, by go_num, by rw [HAT2.out]; rfl, by rw [HAT2.out]; rfl, HBq.out⟩
                      case measure => have := HJ.out; simp [intOf]; omega
                    · have HAT2 := Lib.hid (show atR (R'.take (j + 1)) u = ao from by rw [HAT.out, if_neg he])
                      have he2 : (z2 == u) = false := by simpa using he
                      clear he
                      go_upto_region 36 with fail
                      go_quiet (fail)
                      have HBq := Lib.hid (below_drewN HB.out nq)
                      go_wp2_with fail
                      go_roundw
                      case rel => exact ⟨j + 1, by have := HJ.out; omega, by go_num, by rw [HAT2.out], by rw [HAT2.out], HBq.out⟩
                      case measure => have := HJ.out; simp [intOf]; omega
                  · have hjI : ¬ (j : Int) < (n : Int) := by omega
                    rw [List.take_of_length_le (show R'.length ≤ j from by rw [← HN.out]; omega)]
                    have HP9 := Lib.hid (HP4.out.below HB.out)
                    have HQ9 := Lib.hid (HQ4.out.below HB.out)
                    have KA := Lib.hid (ck_at HP9.out.ck HU.out)
                    have kl := ck_len HP9.out.ck
                    rw [← HN.out] at kl
                    have KL := Lib.hid kl
                    have kx := ck_next HP9.out.ck
                    have hrc := HRC.out.below HB.out
                    have HND := Lib.hid (show n = 0 ∧ nextR R' = 1099511627776 ∨ 0 < n ∧ nextR R' = (gA R' 0).1 from by
                      rw [HN.out]
                      cases R' with
                      | nil => exact .inl ⟨rfl, rfl⟩
                      | cons y S => exact .inr ⟨by simp, rfl⟩)
                    have hcl := fun (h : 0 < R'.length) => hrc.cells h
                    rw [← HN.out] at hcl
                    generalize (atR R' u).getD 0 = x1 at *
                    generalize (atR R' u).isSome = x2 at *
                    generalize nextR R' = T at *
                    have KX := Lib.hid kx
                    clear kl kx hrc hj hlt HB HRC HP4 HQ4 c0 c1 c2
                    have c1 : wr.cell? ⟨p, 1, none⟩ = some (.int .i64 u) := cell_of_block (o := 1) HQ9.out.blk rfl
                    rcases HND.out with ⟨h0n, hT⟩ | ⟨h0n, hT⟩
                    · subst hT
                      have h0I : ¬ (0 : Int) < (n : Int) := by omega
                      have h0N : ¬ 0 < n := by omega
                      clear hcl HND h0n
                      go_wp2_with fail
                      refine KA.out.mono ?_
                      rintro e w8 ⟨rfl, hw⟩
                      obtain rfl := hw
                      go_wp2_with fail
                      refine KL.out.mono ?_
                      rintro e w8 ⟨rfl, hw⟩
                      obtain rfl := hw
                      go_wp2_with fail
                      refine KX.out.mono ?_
                      rintro e w8 ⟨rfl, hw⟩
                      obtain rfl := hw
                      go_wp2_with fail
                      go_roundw
                      case rel => exact ⟨k + 1, R', v3, by have := HK.out; omega, by have := HK.out; omega, by go_num, by rw [HN.out]; exact HP9.out⟩
                      case measure => have := HK.out; simp [intOf]; omega
                    · obtain ⟨g, o, hv1, y0, _⟩ := hcl h0n
                      subst hv1
                      rw [Nat.zero_mul, Nat.add_zero, ← hT] at y0
                      have h0I : (0 : Int) < (n : Int) := by omega
                      clear hcl HND hT
                      go_wp2_with fail
                      refine KA.out.mono ?_
                      rintro e w8 ⟨rfl, hw⟩
                      obtain rfl := hw
                      go_wp2_with fail
                      refine KL.out.mono ?_
                      rintro e w8 ⟨rfl, hw⟩
                      obtain rfl := hw
                      go_wp2_with fail
                      refine KX.out.mono ?_
                      rintro e w8 ⟨rfl, hw⟩
                      obtain rfl := hw
                      go_wp2_with fail
                      go_roundw
                      case rel => exact ⟨k + 1, R', v3, by have := HK.out; omega, by have := HK.out; omega, by go_num, by rw [HN.out]; exact HP9.out⟩
                      case measure => have := HK.out; simp [intOf]; omega
          case neg =>
            have e2 : (K == 2) = false := by simpa using h2
            clear h0 h1 h2
            have HUX := Lib.hid (show c < c + 1 from Nat.lt_succ_self c)

            obtain ⟨R', hR'⟩ : ∃ R', R' = R := ⟨_, rfl⟩
            rw [← hR'] at HP1 ⊢
            clear hR'
            obtain ⟨n, hn⟩ : ∃ n, n = R'.length := ⟨_, rfl⟩
            have HN := Lib.hid hn
            have hrc := HP1.out.rc
            rw [← hn] at hrc ⊢
            have HRC := Lib.hid hrc
            have HNL := Lib.hid (show n ≤ 4096 from by rw [hn]; exact HP1.out.ck.len)
            clear hn hrc
            go_wp2_with fail
            go_loopw [16, 17, 18] (fun x y i wz => ∃ j : Nat, j ≤ n ∧ i = .int .i64 (j : Int) ∧ x = .int .i64 ((atR (R'.take j) u).getD 0) ∧ y = .bool (atR (R'.take j) u).isSome ∧ Below X1.heap.size X1 wz) (fun _ _ i _ => n - (intOf i).toNat)
            case atStart => exact ⟨0, Nat.zero_le _, rfl, rfl, rfl, Below.refl _ _⟩
            case round =>
              obtain ⟨j, hj, rfl, rfl, rfl, hb⟩ := hrel
              have HB := Lib.hid hb
              clear hb
              by_cases hlt : j < n
              · have hjR : j < R'.length := by rw [← HN.out]; exact hlt
                obtain ⟨g, o, hv1, y0, y1⟩ := (HRC.out.below HB.out).cells hjR
                subst hv1
                have hjI : (j : Int) < (n : Int) := by omega
                have hwj : IntKind.i64.wrap ((j : Int) + 1) = (j : Int) + 1 := by have := HNL.out; rw [IntKind.wrap_i64]; omega
                have HAT := Lib.hid (at_take HP1.out.ck.nu hjR u)
                have HJ := Lib.hid hlt
                have q1 : wr.cell? ⟨p, 1, none⟩ = some (.int .i64 u) := cell_of_block (o := 1) ((HB.out.block p HQ1.out.lt).trans HQ1.out.blk) rfl
                generalize gA R' j = z at *
                obtain ⟨z1, z2⟩ := z
                dsimp only at y0 y1 HAT
                generalize hsm : atR (R'.take j) u = ao at *
                clear hj hlt hjR c0 c1 c2 hsm
                by_cases he : z2 = u
                · subst he
                  have HAT2 := Lib.hid (show atR (R'.take (j + 1)) z2 = some z1 from by rw [HAT.out, if_pos rfl])
                  go_upto_region 36 with fail
                  go_quiet (fail)
                  have HBq := Lib.hid (below_drewN HB.out nq)
                  go_wp2_with fail
                  go_roundw
                  case rel => exact ⟨j + 1, by have := HJ.out; omega, by go_num, by rw [HAT2.out]; rfl, by rw [HAT2.out]; rfl, HBq.out⟩
                  case measure => have := HJ.out; simp [intOf]; omega
                · have HAT2 := Lib.hid (show atR (R'.take (j + 1)) u = ao from by rw [HAT.out, if_neg he])
                  have he2 : (z2 == u) = false := by simpa using he
                  clear he
                  go_upto_region 36 with fail
                  go_quiet (fail)
                  have HBq := Lib.hid (below_drewN HB.out nq)
                  go_wp2_with fail
                  go_roundw
                  case rel => exact ⟨j + 1, by have := HJ.out; omega, by go_num, by rw [HAT2.out], by rw [HAT2.out], HBq.out⟩
                  case measure => have := HJ.out; simp [intOf]; omega
              · have hjI : ¬ (j : Int) < (n : Int) := by omega
                rw [List.take_of_length_le (show R'.length ≤ j from by rw [← HN.out]; omega)]
                have HP9 := Lib.hid (HP1.out.below HB.out)
                have HQ9 := Lib.hid (HQ1.out.below HB.out)
                have KA := Lib.hid (ck_at HP9.out.ck HU.out)
                have kl := ck_len HP9.out.ck
                rw [← HN.out] at kl
                have KL := Lib.hid kl
                have kx := ck_next HP9.out.ck
                have hrc := HRC.out.below HB.out
                have HND := Lib.hid (show n = 0 ∧ nextR R' = 1099511627776 ∨ 0 < n ∧ nextR R' = (gA R' 0).1 from by
                  rw [HN.out]
                  cases R' with
                  | nil => exact .inl ⟨rfl, rfl⟩
                  | cons y S => exact .inr ⟨by simp, rfl⟩)
                have hcl := fun (h : 0 < R'.length) => hrc.cells h
                rw [← HN.out] at hcl
                generalize (atR R' u).getD 0 = x1 at *
                generalize (atR R' u).isSome = x2 at *
                generalize nextR R' = T at *
                have KX := Lib.hid kx
                clear kl kx hrc hj hlt HB HRC HP1 HQ1 c0 c1 c2
                have c1 : wr.cell? ⟨p, 1, none⟩ = some (.int .i64 u) := cell_of_block (o := 1) HQ9.out.blk rfl
                rcases HND.out with ⟨h0n, hT⟩ | ⟨h0n, hT⟩
                · subst hT
                  have h0I : ¬ (0 : Int) < (n : Int) := by omega
                  have h0N : ¬ 0 < n := by omega
                  clear hcl HND h0n
                  go_wp2_with fail
                  refine KA.out.mono ?_
                  rintro e w8 ⟨rfl, hw⟩
                  obtain rfl := hw
                  go_wp2_with fail
                  refine KL.out.mono ?_
                  rintro e w8 ⟨rfl, hw⟩
                  obtain rfl := hw
                  go_wp2_with fail
                  refine KX.out.mono ?_
                  rintro e w8 ⟨rfl, hw⟩
                  obtain rfl := hw
                  go_wp2_with fail
                  go_roundw
                  case rel => exact ⟨k + 1, R', v, by have := HK.out; omega, by have := HK.out; omega, by go_num, by rw [HN.out]; exact HP9.out⟩
                  case measure => have := HK.out; simp [intOf]; omega
                · obtain ⟨g, o, hv1, y0, _⟩ := hcl h0n
                  subst hv1
                  rw [Nat.zero_mul, Nat.add_zero, ← hT] at y0
                  have h0I : (0 : Int) < (n : Int) := by omega
                  clear hcl HND hT
                  go_wp2_with fail
                  refine KA.out.mono ?_
                  rintro e w8 ⟨rfl, hw⟩
                  obtain rfl := hw
                  go_wp2_with fail
                  refine KL.out.mono ?_
                  rintro e w8 ⟨rfl, hw⟩
                  obtain rfl := hw
                  go_wp2_with fail
                  refine KX.out.mono ?_
                  rintro e w8 ⟨rfl, hw⟩
                  obtain rfl := hw
                  go_wp2_with fail
                  go_roundw
                  case rel => exact ⟨k + 1, R', v, by have := HK.out; omega, by have := HK.out; omega, by go_num, by rw [HN.out]; exact HP9.out⟩
                  case measure => have := HK.out; simp [intOf]; omega
end Go.Proofs.Ytfakejfpicjedaa
