/- Choose (layer 20): what is chosen. Condition: math/bits' table of trailing zeros lies as its text lays it; the sets that are preferred lie in memory. -/
import Derived.Test.YtkllhnfnkgkelaaDoorPick
import Derived.Test.YtkllhnfnkgkelaaDoorPickP
import Derived.Test.YtkllhnfnkgkelaaDoorBitsArg
import Derived.Test.YtkllhnfnkgkelaaDoorBitsText
import Derived.Test.YtkllhnfnkgkelaaDoorMarks
namespace Go.Proofs.YtkllhnfnkgkelaaDoor
set_option linter.unusedVariables false
open Go.RowKit Go.Shelf
attribute [local go_sem] Oper.semAt_some
attribute [local go_sem ↓] comesTo_value_eq comesTo_skip_eq comesTo_enter_eq

/-- what a round of the taking begins with -/
def ChInv (may : NSet) (m cm : Int) (a : Option Addr) (len cap : Nat) (zs : List NSet) (R : NSet) (w : World) (a' : Act) (W : World) : Prop :=
  ∃ (u10 u20 u21 u22 u23 u24 u25 u26 u27 u28 u29 u30 u31 u32 u33 u34 u35 u36 u37 u38 u39 u40 : Value) (ds : List Deferred) (i : Nat) (c : NSet), (Boxed W (w.heap.size + 1) 23 (.int .u64 (nv c)) ∧ Boxed W w.heap.size 3 (.int .i64 m) ∧ MarksAt w.heap.size W.heap.size ds W ∧ Below w.heap.size w W ∧
    (card c : Int) ≤ m ∧ i ≤ len + 1 ∧ ((i ≤ len ∧ chF may m (zs.drop i) c = R) ∨ (i = len + 1 ∧ c = R))) ∧
    a' = { tmps := #[.int .u64 (nv may), .int .i64 m, .slice a len cap, undef, .pointer (some ⟨w.heap.size, 0, none⟩), undef, .int .u64 0, .bool false, .pointer (some ⟨w.heap.size + 1, 0, none⟩), .int .i64 i, u10, undef, .int .i64 m, .bool false, .bool false, .int .u64 (nv may), .int .i64 cm, .int .i64 m, .bool false, .bool false, u20, u21, u22, u23, u24, u25, u26, u27, u28, u29, u30, u31, u32, u33, u34, u35, u36, u37, u38, u39, u40, undef, undef, undef, undef, undef, undef, undef, undef, undef], defers := ds }
def chMu (len : Nat) (a' : Act) (_ : World) : Nat := len + 1 - (intOf (a'.tmps.getD 9 undef)).toNat
set_option maxRecDepth 100000 in
set_option maxHeartbeats 4000000 in
theorem choose_yes (may : NSet) (m : Int) (a : Option Addr) (len cap : Nat) (zs : List NSet) (w : World) (hT : TabZ w) (hZ : SetsAt w a len cap zs) (h0 : 0 ≤ m) (h1 : m ≤ (card may : Int)) (hlen : len ≤ 1000) :
    Calls Tryd.prog 34 #[.int .u64 (nv may), .int .i64 m, .slice a len cap] w fun e w' => e = .returned (.tuple #[.int .u64 (nv (chF may m zs 0#64)), .bool true]) ∧ Below w.heap.size w w' := by
  have hmx : Tryd.prog.follows .mixedOrders = true := by kernel_rfl
  have KLen := Lib.hid (fun s W => len_any s W)
  have hm1 : decide (m < 0) = false := by simp; omega
  have hm2 : decide ((card may : Int) < m) = false := by simp; omega
  have KM := Lib.hid (KLen.out may)
  have hc64 := card_le may
  generalize hR : chF may m zs 0#64 = R
  have HR := Lib.hid hR
  clear hR
  generalize hcm : (card may : Int) = cm at *
  have HCM := Lib.hid hcm
  clear hcm
  refine (callsIn_wide (n := 6)).1 ?_
  refine callsIn_of_wp_marks Tryd.func34 rfl trivial ?_ rfl
  simp only [Tryd.ntmps34, List.size_toArray, List.length_cons, List.length_nil, Nat.reduceAdd, Nat.reduceSub, Array.replicate_succ, Array.replicate_zero, List.push_toArray, List.append_toArray, List.nil_append, List.cons_append]
  gi_wp2
  refine wpIn_scope ?_
  refine wpIn_seq_k (fun K1 hK1 => ?_)
  refine wpIn_seq_k (fun K2 hK2 => ?_)
  refine wpIn_region_grow WideF.wide (fun w' => w' = (w.alloc (.cells #[.int .i64 m] 3)).drew) hmx (by kernel_rfl) (by kernel_rfl) rfl ?_
  (refine textS_run ?_ ?_ (fun W hS => ?_) ?_; rotate_left; (focus go_simp); (focus (subst hS; go_simp; all_goals (first | exact ⟨rfl, rfl⟩ | rfl | (refine ⟨?_, rfl⟩; rfl)))); (try go_simp))
  (refine textS_run ?_ ?_ (fun W hS => ?_) ?_; rotate_left; (focus go_simp); (focus (subst hS; go_simp; all_goals (first | exact ⟨rfl, rfl⟩ | rfl | (refine ⟨?_, rfl⟩; rfl)))); (try go_simp))
  (refine textS_run ?_ ?_ (fun W hS => ?_) ?_; rotate_left; (focus go_simp); (focus (subst hS; go_simp; all_goals (first | exact ⟨rfl, rfl⟩ | rfl | (refine ⟨?_, rfl⟩; rfl)))); (try go_simp))
  (refine textS_run ?_ ?_ (fun W hS => ?_) ?_; rotate_left; (focus go_simp); (focus (subst hS; go_simp; all_goals (first | exact ⟨rfl, rfl⟩ | rfl | (refine ⟨?_, rfl⟩; rfl)))); (try go_simp))
  (refine textS_run ?_ ?_ (fun W hS => ?_) ?_; rotate_left; (focus go_simp); (focus (subst hS; go_simp; refine (KM.out _).mono ?_; rintro e w1 ⟨rfl, rfl⟩; refine ⟨?_, ?_⟩; (focus rfl); (focus rfl))); (try go_simp))
  (refine textS_run ?_ ?_ (fun W hS => ?_) ?_; rotate_left; (focus go_simp); (focus (subst hS; go_simp; all_goals (first | exact ⟨rfl, rfl⟩ | rfl | (refine ⟨?_, rfl⟩; rfl)))); (try go_simp))
  (refine textS_run ?_ ?_ (fun W hS => ?_) ?_; rotate_left; (focus go_simp); (focus (subst hS; go_simp; all_goals (first | exact ⟨rfl, rfl⟩ | rfl | (refine ⟨?_, rfl⟩; rfl)))); (try go_simp))
  (refine textS_run ?_ ?_ (fun W hS => ?_) ?_; rotate_left; (focus go_simp); (focus (subst hS; go_simp; all_goals (first | exact ⟨rfl, rfl⟩ | rfl | (refine ⟨?_, rfl⟩; rfl)))); (try go_simp))
  refine textS_nil ?_
  refine hK2 _ _ ?_
  clear hK2 K2
  gi_wp2
  refine wpIn_label ?_
  gi_wp2
  have b4 := Boxed.new w 3 (.int .i64 m)
  have b8 := Boxed.new (w.alloc (.cells #[.int .i64 m] 3)) 23 (.int .u64 0)
  rw [World.size_alloc] at b8
  have hB0 : Below w.heap.size w ((w.alloc (.cells #[.int .i64 m] 3)).alloc (.cells #[.int .u64 0] 23)).drew := (((Below.refl _ w).alloc (Nat.le_refl _) _).alloc (by simp) _).drew
  have hZl := hZ.same
  refine wpIn_loop (ChInv may m cm a len cap zs R w) (chMu len) ?_ ?_
  · exact ⟨_, _, _, _, _, _, _, _, _, _, _, _, _, _, _, _, _, _, _, _, _, _, _, 0, 0#64, ⟨b8, b4.alloc _, MarksAt.nil _ _ _, hB0, by rw [card_zero]; exact h0, by omega, .inl ⟨by omega, by rw [List.drop_zero]; exact HR.out⟩⟩, rfl⟩
  · rintro a' wr ⟨u10, u20, u21, u22, u23, u24, u25, u26, u27, u28, u29, u30, u31, u32, u33, u34, u35, u36, u37, u38, u39, u40, ds, i, c, ⟨hC, hM, hMk, hB, hcm', hi1, hi⟩, rfl⟩
    dsimp only
    have hTr := hT.below hB
    have hcC := hC.cell
    have KLs := Lib.hid (fun W => less_any may c W)
    by_cases hil : i ≤ len
    · have hch : chF may m (zs.drop i) c = R := by
        rcases hi with h | h
        · exact h.2
        · omega
      clear hi
      by_cases hlt : i < len
      · obtain ⟨b, off, rfl, hcell⟩ := hZ.cell (by omega)
        have hp := (hB.cell (p := ⟨b, off + i, none⟩) (World.block_lt_of_cell? w _ (hcell i hlt))).trans (hcell i hlt)
        have hdr : zs.drop i = zs.getD i 0#64 :: zs.drop (i + 1) := by
          rw [List.drop_eq_getElem_cons (by omega)]
          simp [List.getD, List.getElem?_eq_getElem (show i < zs.length by omega)]
        rw [hdr, chF] at hch
        have HCH := Lib.hid hch
        clear hch hdr hcell
        generalize zs.getD i 0#64 = p at *
        have KAn := Lib.hid (fun W => and_any (may &&& ~~~c) p W)
        have hap := good_apart may c p
        have hlti : (i : Int) < (len : Int) := by omega
        have hlei : (i : Int) ≤ (len : Int) := by omega
        generalize (may &&& ~~~c) &&& p = good at *
        generalize may &&& ~~~c = less at *
        gi_wp2_with (first | (refine ⟨trivial, ?_⟩; gi_at_call 30; refine (callsIn_wide.2 (KLs.out _)).mono ?_; rintro e w' ⟨rfl, rfl⟩) | (refine ⟨trivial, ?_⟩; gi_at_call 28; refine (callsIn_wide.2 (KAn.out _)).mono ?_; rintro e w' ⟨rfl, rfl⟩) | (refine ⟨trivial, ?_⟩; gi_at_call 48; refine (callsIn_wide.2 (all_any _ _)).mono ?_; rintro e w' ⟨rfl, rfl⟩))
        have bA := Boxed.new wr 23 (.int .u64 (nv good))
        have hB1 : Below w.heap.size w (wr.alloc (.cells #[.int .u64 (nv good)] 23)) := hB.alloc hB.size _
        have hlw : w.heap.size ≤ wr.heap.size := hB.size
        have hcg := card_le good
        refine wpIn_rangeFunc_ownG rfl (by omega) (gf := 61) (lb := #[.pointer (some ⟨wr.heap.size, 0, none⟩)]) rfl trivial (enters_of Tryd.func61 (by kernel_rfl) rfl)
          (all1_nodes _ (by omega) wr.heap.size w.heap.size good hT.1 _ bA.cell (hT.below hB1)) belowK_t (belowK_b (by simp; omega)) (Below.refl _ _) (fun _ => rfl)
          (fun (pre : List Nd) W => ((Boxed W (w.heap.size + 1) 23 (.int .u64 (nv (addL c (vals pre)))) ∧ Boxed W w.heap.size 3 (.int .i64 m)) ∧ MarksAt w.heap.size wr.heap.size ds W ∧ (∀ j, j < pre.length → ¬ (card (addL c ((vals pre).take j)) : Int) = m)) ∧ Below w.heap.size w W)
          (fun cc (pre : List Nd) W => (cc = .exit 0 ∧ ∃ pre' x, pre = pre' ++ [x] ∧ (card (addL c (vals pre')) : Int) = m ∧ Boxed W (w.heap.size + 1) 23 (.int .u64 (nv (addL c (vals pre')))) ∧ MarksAt w.heap.size wr.heap.size ds W) ∧ Below w.heap.size w W)
          (OwnFrom.and (OwnFrom.and (Own.from (fun s' X Y row hs' hg hr => ⟨boxed_own (w.heap.size + 1) 23 (fun pre : List Nd => .int .u64 (nv (addL c (vals pre)))) s' X Y row hs'.1 hg hr, boxed_own w.heap.size 3 (fun _ : List Nd => .int .i64 m) s' X Y row hs'.2 hg hr⟩) _)
            (OwnFrom.and (MarksAt.ownFrom (by simp)) (ownFrom_pure _ _))) (ownFrom_below (Nat.le_refl _) (by simp; omega)))
          (fun cc s' X Y row hs' hg hr => by
            obtain ⟨⟨hcc, pre', x, hpre, hcard, hbx, hmk⟩, hbel⟩ := hs'
            refine ⟨⟨hcc, pre', x, hpre, hcard, boxed_own (w.heap.size + 1) 23 (fun _ : List Nd => .int .u64 (nv (addL c (vals pre')))) s' X Y row hbx hg (fun r e => (hr r e).2), MarksAt.ownFrom (β := List Nd) (by simp) s' X Y row hmk hg hr⟩, ownFrom_below (β := List Nd) (Nat.le_refl _) (by simp; omega) s' X Y row hbel hg hr⟩)
          ⟨⟨⟨hC.alloc _, hM.alloc _⟩, hMk.below ((Below.refl _ wr).alloc (Nat.le_refl _) _), fun j hj => absurd hj (Nat.not_lt_zero _)⟩, hB1⟩
          (fun x => { tmps := #[.int .u64 (nv may), .int .i64 m, .slice (some ⟨b, off, none⟩) len cap, undef, .pointer (some ⟨w.heap.size, 0, none⟩), undef, .int .u64 0, .bool false, .pointer (some ⟨w.heap.size + 1, 0, none⟩), .int .i64 i, .int .u64 (nv good), .int .i64 x.1, .int .i64 m, .bool false, .bool false, .int .u64 (nv may), .int .i64 cm, .int .i64 m, .bool false, .bool false, .int .i64 i, .slice (some ⟨b, off, none⟩) len cap, .int .i64 len, .bool true, u24, u25, .int .u64 (nv may), .int .u64 (nv c), .int .u64 (nv less), .int .i64 i, .slice (some ⟨b, off, none⟩) len cap, .int .i64 len, .bool true, .int .u64 (nv less), .slice (some ⟨b, off, none⟩) len cap, .int .i64 i, .pointer (some ⟨b, off + i, none⟩), .int .u64 (nv p), .int .u64 (nv good), .int .u64 (nv good), .func (.func 61) #[] #[.pointer (some ⟨wr.heap.size, 0, none⟩)], .int .i64 x.1, undef, undef, undef, undef, undef, undef, undef, undef], defers := [] }) ?assign ?body ?done ?stop
        case assign =>
          intro l x W K hK
          gi_wp2
          exact hK
        case body =>
          rintro l pre x W ⟨⟨⟨hCW, hMW⟩, hMkW, hok⟩, hBW⟩ hltW
          obtain ⟨x, hx0, hx1⟩ := x
          dsimp only
          have hcC2 := hCW.cell
          have hcM2 := hMW.cell
          have hfC2 := hCW.frozen
          have KLn := Lib.hid (fun W => len_any (addL c (vals pre)) W)
          have KWi := Lib.hid (fun W => with_any (addL c (vals pre)) x W)
          have EV := Lib.hid (addL_snoc c (vals pre) x)
          gi_wp2
          by_cases hcm2 : (card (addL c (vals pre)) : Int) = m
          · have hb : ((card (addL c (vals pre)) : Int) == m) = true := by simpa using hcm2
            have HCM2 := Lib.hid hcm2
            clear hcm2
            refine wpIn_region_grow (WideF.round l) (fun w' => w' = W.drew) hmx (by kernel_rfl) (by kernel_rfl) rfl ?_
            (refine textS_run ?_ ?_ (fun W hS => ?_) ?_; rotate_left; (focus go_simp); (focus (subst hS; go_simp; all_goals (first | exact ⟨rfl, rfl⟩ | rfl | (refine ⟨?_, rfl⟩; rfl)))); (try go_simp))
            (refine textS_run ?_ ?_ (fun W hS => ?_) ?_; rotate_left; (focus go_simp); (focus (subst hS; go_simp; refine (KLn.out _).mono ?_; rintro e w1 ⟨rfl, rfl⟩; refine ⟨?_, ?_⟩; (focus rfl); (focus rfl))); (try go_simp))
            (refine textS_run ?_ ?_ (fun W hS => ?_) ?_; rotate_left; (focus go_simp); (focus (subst hS; go_simp; all_goals (first | exact ⟨rfl, rfl⟩ | rfl | (refine ⟨?_, rfl⟩; rfl)))); (try go_simp))
            (refine textS_run ?_ ?_ (fun W hS => ?_) ?_; rotate_left; (focus go_simp); (focus (subst hS; go_simp; all_goals (first | exact ⟨rfl, rfl⟩ | rfl | (refine ⟨?_, rfl⟩; rfl)))); (try go_simp))
            refine textS_nil ?_
            gi_wp2
            refine ⟨(KeepsOthers.drew _).from _, ⟨rfl, pre, ⟨x, hx0, hx1⟩, rfl, HCM2.out, hCW, hMkW⟩, hBW.drew⟩
          · have hb : ((card (addL c (vals pre)) : Int) == m) = false := by simpa using hcm2
            have HCM2 := Lib.hid hcm2
            clear hcm2
            refine wpIn_region_grow (WideF.round l) (fun w' => w' = W.drew) hmx (by kernel_rfl) (by kernel_rfl) rfl ?_
            (refine textS_run ?_ ?_ (fun W hS => ?_) ?_; rotate_left; (focus go_simp); (focus (subst hS; go_simp; all_goals (first | exact ⟨rfl, rfl⟩ | rfl | (refine ⟨?_, rfl⟩; rfl)))); (try go_simp))
            (refine textS_run ?_ ?_ (fun W hS => ?_) ?_; rotate_left; (focus go_simp); (focus (subst hS; go_simp; refine (KLn.out _).mono ?_; rintro e w1 ⟨rfl, rfl⟩; refine ⟨?_, ?_⟩; (focus rfl); (focus rfl))); (try go_simp))
            (refine textS_run ?_ ?_ (fun W hS => ?_) ?_; rotate_left; (focus go_simp); (focus (subst hS; go_simp; all_goals (first | exact ⟨rfl, rfl⟩ | rfl | (refine ⟨?_, rfl⟩; rfl)))); (try go_simp))
            (refine textS_run ?_ ?_ (fun W hS => ?_) ?_; rotate_left; (focus go_simp); (focus (subst hS; go_simp; all_goals (first | exact ⟨rfl, rfl⟩ | rfl | (refine ⟨?_, rfl⟩; rfl)))); (try go_simp))
            refine textS_nil ?_
            gi_wp2_with (refine ⟨trivial, ?_⟩; gi_at_call 15; refine (CallsIn.inRound l (callsIn_wide.2 (KWi.out _))).mono ?_; rintro e w' ⟨rfl, rfl⟩)
            have hKo := (KeepsOthers.drew W).trans (KeepsOthers.setCell W.drew ⟨w.heap.size + 1, 0, none⟩ (.int .u64 (nv (addL c (vals pre) ||| oneI x))))
            have hBo := (Below.refl w.heap.size W.drew).setCell (p := ⟨w.heap.size + 1, 0, none⟩) (by simp) (.int .u64 (nv (addL c (vals pre) ||| oneI x)))
            have hC2 := Boxed.set (W := W.drew) (.int .u64 (nv (addL c (vals pre) ||| oneI x))) hCW
            have hM2 := Boxed.other (W := W.drew) (B' := w.heap.size + 1) hMW (by omega) (.int .u64 (nv (addL c (vals pre) ||| oneI x)))
            refine ⟨hKo.from _, (Below.refl _ W).drew.trans hBo, ⟨⟨?_, hM2⟩, hMkW.others hKo, ?_⟩, hBW.drew.trans hBo⟩
            · rw [vals_snoc, EV.out]; exact hC2
            · intro j hj
              rw [List.length_append, List.length_singleton] at hj
              rw [vals_snoc]
              by_cases hjl : j < pre.length
              · rw [List.take_append_of_le_length (by rw [vals_length]; omega)]
                exact hok j hjl
              · obtain rfl : j = pre.length := by omega
                rw [List.take_left' (vals_length pre)]
                exact HCM2.out
        case done =>
          rintro D ys W hD hys ⟨⟨⟨hCW, hMW⟩, hMkW, hok⟩, hBW⟩ hK
          rw [hys] at hCW hok
          rw [show ys.length = card good by rw [← vals_length, hys, nodes_length _ good rfl]] at hok
          obtain ⟨e1, e2⟩ := fill_done hap hcm' hok
          rw [e1] at hCW e2
          clear hok hys
          gi_wp2
          rw [show ((i : Int) + 1) = ((i + 1 : Nat) : Int) by omega]
          refine ⟨⟨_, _, _, _, _, _, _, _, _, _, _, _, _, _, _, _, _, _, _, _, _, _, _, i + 1, fillC m c good, ⟨hCW, hMW, hMkW.cons (by simp at hD; omega) (by simp at hD; omega) (Array.getElem?_eq_some_iff.1 hK).1 hK, hBW, e2, by omega, .inl ⟨by omega, HCH.out⟩⟩, rfl⟩, ?_⟩
          show len + 1 - (intOf (.int .i64 ((i + 1 : Nat) : Int))).toNat < len + 1 - (intOf (.int .i64 (i : Int))).toNat
          simp [intOf]
          try omega
        case stop =>
          rintro D cc pre W hD hSp ⟨⟨rfl, pre', x, rfl, hcard, hCW, hMkW⟩, hBW⟩ hK
          rw [vals_snoc] at hSp
          have e1 := fill_stop hap hSp hcard
          rw [e1] at hcard hCW
          have hch2 := HCH.out
          rw [chF_full _ _ _ _ hcard] at hch2
          rw [hch2] at hCW
          have hcC3 := hCW.cell
          gi_wp2
          refine (show LeavesInM Fence.wide 6 Tryd.prog Tryd.f34 _ _ ({ target := .collected D, args := #[] } :: ds) .returning W from ?_)
          refine MarksAt.leaves _ W (hMkW.cons (by simp at hD; omega) (by simp at hD; omega) (Array.getElem?_eq_some_iff.1 hK).1 hK) hBW.size ?_
          intro W' hb
          exact ⟨_, results_tmp2 rfl _ _ _, rfl, hBW.trans hb⟩
      · obtain rfl : i = len := by omega
        have hch2 := hch
        rw [← hZl, List.drop_length, chF] at hch2
        have HCH := Lib.hid hch2
        clear hch hch2
        have hap := less_apart may c
        have hnl : decide ((i : Int) < (i : Int)) = false := by simp
        generalize may &&& ~~~c = good at *
        gi_wp2_with (first | (refine ⟨trivial, ?_⟩; gi_at_call 30; refine (callsIn_wide.2 (KLs.out _)).mono ?_; rintro e w' ⟨rfl, rfl⟩) | (refine ⟨trivial, ?_⟩; gi_at_call 48; refine (callsIn_wide.2 (all_any _ _)).mono ?_; rintro e w' ⟨rfl, rfl⟩))
        have bA := Boxed.new wr 23 (.int .u64 (nv good))
        have hB1 : Below w.heap.size w (wr.alloc (.cells #[.int .u64 (nv good)] 23)) := hB.alloc hB.size _
        have hlw : w.heap.size ≤ wr.heap.size := hB.size
        have hcg := card_le good
        refine wpIn_rangeFunc_ownG rfl (by omega) (gf := 61) (lb := #[.pointer (some ⟨wr.heap.size, 0, none⟩)]) rfl trivial (enters_of Tryd.func61 (by kernel_rfl) rfl)
          (all1_nodes _ (by omega) wr.heap.size w.heap.size good hT.1 _ bA.cell (hT.below hB1)) belowK_t (belowK_b (by simp; omega)) (Below.refl _ _) (fun _ => rfl)
          (fun (pre : List Nd) W => ((Boxed W (w.heap.size + 1) 23 (.int .u64 (nv (addL c (vals pre)))) ∧ Boxed W w.heap.size 3 (.int .i64 m)) ∧ MarksAt w.heap.size wr.heap.size ds W ∧ (∀ j, j < pre.length → ¬ (card (addL c ((vals pre).take j)) : Int) = m)) ∧ Below w.heap.size w W)
          (fun cc (pre : List Nd) W => (cc = .exit 0 ∧ ∃ pre' x, pre = pre' ++ [x] ∧ (card (addL c (vals pre')) : Int) = m ∧ Boxed W (w.heap.size + 1) 23 (.int .u64 (nv (addL c (vals pre')))) ∧ MarksAt w.heap.size wr.heap.size ds W) ∧ Below w.heap.size w W)
          (OwnFrom.and (OwnFrom.and (Own.from (fun s' X Y row hs' hg hr => ⟨boxed_own (w.heap.size + 1) 23 (fun pre : List Nd => .int .u64 (nv (addL c (vals pre)))) s' X Y row hs'.1 hg hr, boxed_own w.heap.size 3 (fun _ : List Nd => .int .i64 m) s' X Y row hs'.2 hg hr⟩) _)
            (OwnFrom.and (MarksAt.ownFrom (by simp)) (ownFrom_pure _ _))) (ownFrom_below (Nat.le_refl _) (by simp; omega)))
          (fun cc s' X Y row hs' hg hr => by
            obtain ⟨⟨hcc, pre', x, hpre, hcard, hbx, hmk⟩, hbel⟩ := hs'
            refine ⟨⟨hcc, pre', x, hpre, hcard, boxed_own (w.heap.size + 1) 23 (fun _ : List Nd => .int .u64 (nv (addL c (vals pre')))) s' X Y row hbx hg (fun r e => (hr r e).2), MarksAt.ownFrom (β := List Nd) (by simp) s' X Y row hmk hg hr⟩, ownFrom_below (β := List Nd) (Nat.le_refl _) (by simp; omega) s' X Y row hbel hg hr⟩)
          ⟨⟨⟨hC.alloc _, hM.alloc _⟩, hMk.below ((Below.refl _ wr).alloc (Nat.le_refl _) _), fun j hj => absurd hj (Nat.not_lt_zero _)⟩, hB1⟩
          (fun x => { tmps := #[.int .u64 (nv may), .int .i64 m, .slice a i cap, undef, .pointer (some ⟨w.heap.size, 0, none⟩), undef, .int .u64 0, .bool false, .pointer (some ⟨w.heap.size + 1, 0, none⟩), .int .i64 i, .int .u64 (nv good), .int .i64 x.1, .int .i64 m, .bool false, .bool false, .int .u64 (nv may), .int .i64 cm, .int .i64 m, .bool false, .bool false, .int .i64 i, .slice a i cap, .int .i64 i, .bool true, u24, u25, .int .u64 (nv may), .int .u64 (nv c), .int .u64 (nv good), .int .i64 i, .slice a i cap, .int .i64 i, .bool false, u33, u34, u35, u36, u37, u38, .int .u64 (nv good), .func (.func 61) #[] #[.pointer (some ⟨wr.heap.size, 0, none⟩)], .int .i64 x.1, undef, undef, undef, undef, undef, undef, undef, undef], defers := [] }) ?assign ?body ?done ?stop
        case assign =>
          intro l x W K hK
          gi_wp2
          exact hK
        case body =>
          rintro l pre x W ⟨⟨⟨hCW, hMW⟩, hMkW, hok⟩, hBW⟩ hltW
          obtain ⟨x, hx0, hx1⟩ := x
          dsimp only
          have hcC2 := hCW.cell
          have hcM2 := hMW.cell
          have hfC2 := hCW.frozen
          have KLn := Lib.hid (fun W => len_any (addL c (vals pre)) W)
          have KWi := Lib.hid (fun W => with_any (addL c (vals pre)) x W)
          have EV := Lib.hid (addL_snoc c (vals pre) x)
          gi_wp2
          by_cases hcm2 : (card (addL c (vals pre)) : Int) = m
          · have hb : ((card (addL c (vals pre)) : Int) == m) = true := by simpa using hcm2
            have HCM2 := Lib.hid hcm2
            clear hcm2
            refine wpIn_region_grow (WideF.round l) (fun w' => w' = W.drew) hmx (by kernel_rfl) (by kernel_rfl) rfl ?_
            (refine textS_run ?_ ?_ (fun W hS => ?_) ?_; rotate_left; (focus go_simp); (focus (subst hS; go_simp; all_goals (first | exact ⟨rfl, rfl⟩ | rfl | (refine ⟨?_, rfl⟩; rfl)))); (try go_simp))
            (refine textS_run ?_ ?_ (fun W hS => ?_) ?_; rotate_left; (focus go_simp); (focus (subst hS; go_simp; refine (KLn.out _).mono ?_; rintro e w1 ⟨rfl, rfl⟩; refine ⟨?_, ?_⟩; (focus rfl); (focus rfl))); (try go_simp))
            (refine textS_run ?_ ?_ (fun W hS => ?_) ?_; rotate_left; (focus go_simp); (focus (subst hS; go_simp; all_goals (first | exact ⟨rfl, rfl⟩ | rfl | (refine ⟨?_, rfl⟩; rfl)))); (try go_simp))
            (refine textS_run ?_ ?_ (fun W hS => ?_) ?_; rotate_left; (focus go_simp); (focus (subst hS; go_simp; all_goals (first | exact ⟨rfl, rfl⟩ | rfl | (refine ⟨?_, rfl⟩; rfl)))); (try go_simp))
            refine textS_nil ?_
            gi_wp2
            refine ⟨(KeepsOthers.drew _).from _, ⟨rfl, pre, ⟨x, hx0, hx1⟩, rfl, HCM2.out, hCW, hMkW⟩, hBW.drew⟩
          · have hb : ((card (addL c (vals pre)) : Int) == m) = false := by simpa using hcm2
            have HCM2 := Lib.hid hcm2
            clear hcm2
            refine wpIn_region_grow (WideF.round l) (fun w' => w' = W.drew) hmx (by kernel_rfl) (by kernel_rfl) rfl ?_
            (refine textS_run ?_ ?_ (fun W hS => ?_) ?_; rotate_left; (focus go_simp); (focus (subst hS; go_simp; all_goals (first | exact ⟨rfl, rfl⟩ | rfl | (refine ⟨?_, rfl⟩; rfl)))); (try go_simp))
            (refine textS_run ?_ ?_ (fun W hS => ?_) ?_; rotate_left; (focus go_simp); (focus (subst hS; go_simp; refine (KLn.out _).mono ?_; rintro e w1 ⟨rfl, rfl⟩; refine ⟨?_, ?_⟩; (focus rfl); (focus rfl))); (try go_simp))
            (refine textS_run ?_ ?_ (fun W hS => ?_) ?_; rotate_left; (focus go_simp); (focus (subst hS; go_simp; all_goals (first | exact ⟨rfl, rfl⟩ | rfl | (refine ⟨?_, rfl⟩; rfl)))); (try go_simp))
            (refine textS_run ?_ ?_ (fun W hS => ?_) ?_; rotate_left; (focus go_simp); (focus (subst hS; go_simp; all_goals (first | exact ⟨rfl, rfl⟩ | rfl | (refine ⟨?_, rfl⟩; rfl)))); (try go_simp))
            refine textS_nil ?_
            gi_wp2_with (refine ⟨trivial, ?_⟩; gi_at_call 15; refine (CallsIn.inRound l (callsIn_wide.2 (KWi.out _))).mono ?_; rintro e w' ⟨rfl, rfl⟩)
            have hKo := (KeepsOthers.drew W).trans (KeepsOthers.setCell W.drew ⟨w.heap.size + 1, 0, none⟩ (.int .u64 (nv (addL c (vals pre) ||| oneI x))))
            have hBo := (Below.refl w.heap.size W.drew).setCell (p := ⟨w.heap.size + 1, 0, none⟩) (by simp) (.int .u64 (nv (addL c (vals pre) ||| oneI x)))
            have hC2 := Boxed.set (W := W.drew) (.int .u64 (nv (addL c (vals pre) ||| oneI x))) hCW
            have hM2 := Boxed.other (W := W.drew) (B' := w.heap.size + 1) hMW (by omega) (.int .u64 (nv (addL c (vals pre) ||| oneI x)))
            refine ⟨hKo.from _, (Below.refl _ W).drew.trans hBo, ⟨⟨?_, hM2⟩, hMkW.others hKo, ?_⟩, hBW.drew.trans hBo⟩
            · rw [vals_snoc, EV.out]; exact hC2
            · intro j hj
              rw [List.length_append, List.length_singleton] at hj
              rw [vals_snoc]
              by_cases hjl : j < pre.length
              · rw [List.take_append_of_le_length (by rw [vals_length]; omega)]
                exact hok j hjl
              · obtain rfl : j = pre.length := by omega
                rw [List.take_left' (vals_length pre)]
                exact HCM2.out
        case done =>
          rintro D ys W hD hys ⟨⟨⟨hCW, hMW⟩, hMkW, hok⟩, hBW⟩ hK
          rw [hys] at hCW hok
          rw [show ys.length = card good by rw [← vals_length, hys, nodes_length _ good rfl]] at hok
          obtain ⟨e1, e2⟩ := fill_done hap hcm' hok
          rw [e1] at hCW e2
          clear hok hys
          gi_wp2
          rw [show ((i : Int) + 1) = ((i + 1 : Nat) : Int) by omega]
          refine ⟨⟨_, _, _, _, _, _, _, _, _, _, _, _, _, _, _, _, _, _, _, _, _, _, _, i + 1, fillC m c good, ⟨hCW, hMW, hMkW.cons (by simp at hD; omega) (by simp at hD; omega) (Array.getElem?_eq_some_iff.1 hK).1 hK, hBW, e2, by omega, .inr ⟨rfl, HCH.out⟩⟩, rfl⟩, ?_⟩
          show i + 1 - (intOf (.int .i64 ((i + 1 : Nat) : Int))).toNat < i + 1 - (intOf (.int .i64 (i : Int))).toNat
          simp [intOf]
          try omega
        case stop =>
          rintro D cc pre W hD hSp ⟨⟨rfl, pre', x, rfl, hcard, hCW, hMkW⟩, hBW⟩ hK
          rw [vals_snoc] at hSp
          have e1 := fill_stop hap hSp hcard
          rw [e1] at hcard hCW
          have hch2 := HCH.out
          rw [hch2] at hCW
          have hcC3 := hCW.cell
          gi_wp2
          refine (show LeavesInM Fence.wide 6 Tryd.prog Tryd.f34 _ _ ({ target := .collected D, args := #[] } :: ds) .returning W from ?_)
          refine MarksAt.leaves _ W (hMkW.cons (by simp at hD; omega) (by simp at hD; omega) (Array.getElem?_eq_some_iff.1 hK).1 hK) hBW.size ?_
          intro W' hb
          exact ⟨_, results_tmp2 rfl _ _ _, rfl, hBW.trans hb⟩
    · obtain rfl : i = len + 1 := by omega
      have hcR : c = R := by
        rcases hi with h | h
        · omega
        · exact h.2
      subst hcR
      clear hi hil
      gi_wp2
      refine (show LeavesInM Fence.wide 6 Tryd.prog Tryd.f34 _ _ ds .returning wr from ?_)
      refine MarksAt.leaves _ wr hMk hB.size ?_
      intro W' hb
      exact ⟨_, results_tmp2 rfl _ _ _, rfl, hB.trans hb⟩
end Go.Proofs.YtkllhnfnkgkelaaDoor
