/- The reference's choice (layer 20) walked: Choose. No condition but that the sets that are preferred may be read. -/
import Derived.Test.YtkllhnfnkgkelaaDoorOfExact
import Derived.Test.YtkllhnfnkgkelaaDoorOwnU
import Derived.Test.YtkllhnfnkgkelaaDoorPickRefP
import Derived.Test.YtkllhnfnkgkelaaDoorGrowTwo
namespace Go.Proofs.YtkllhnfnkgkelaaDoor
set_option linter.unusedVariables false
open Go.ChangeShapes Go.WideShapes Go.ChangeAt Go.RowKit Go.Shelf
attribute [local go_sem ↓] Go.wp_at_zero Go.wp_at_succ comesTo_value_eq comesTo_skip_eq comesTo_enter_eq

theorem rset_outs {v : Value} {l : List Int} (w : World) (h : ReadsI w v l) (ho : Outs l) :
    Calls Tryd.prog 14 #[v] w fun e w' => e = .returned (.int .u64 (nv (addL 0#64 l))) ∧ w = w' := by
  rcases h with ⟨rfl, a, c, rfl⟩ | ⟨h0, h1, g, o, c, rfl, _, hc⟩
  · exact rset_none a c w
  · exact rset_row g o c l w h1 hc ho.range ho.new
/-- what a round of the choosing begins with -/
def RoundI (may : NSet) (m : Int) (zs : List NSet) (len : Nat) (R : NSet) (k : Nat) (out : List Int) : Prop :=
  Outs out ∧ (out.length : Int) ≤ m ∧ k ≤ len + 1 ∧ ((k ≤ len ∧ chF may m (zs.drop k) (addL 0#64 out) = R) ∨ (k = len + 1 ∧ addL 0#64 out = R))
set_option maxRecDepth 100000 in
theorem rchoose_no (may : NSet) (m : Int) (v : Value) (w : World) (h : m < 0 ∨ (card may : Int) < m) :
    Calls Tryd.prog 35 #[.int .u64 (nv may), .int .i64 m, v] w fun e w' => e = .returned (.tuple #[.int .u64 0, .bool false]) ∧ Below w.heap.size w w' := by
  have KO := Lib.hid (fun W => rof_any may W)
  have hnl := nodes_length (card may) may rfl
  by_cases h0 : m < 0
  · have hm1 : decide (m < 0) = true := by simpa using h0
    clear h h0 hnl
    go_enter Tryd.func35, Tryd.ntmps35
    go_wp2_with fail
    refine (KO.out _).mono ?_
    rintro e w1 ⟨u, rfl, hO, hb⟩
    go_wp2
    go_ret2
    exact ⟨rfl, hb⟩
  · have hm1 : decide (m < 0) = false := by simpa using h0
    have hm2 : decide (((nodes may).length : Int) < m) = true := by rw [hnl]; simp; omega
    clear h h0 hnl
    go_enter Tryd.func35, Tryd.ntmps35
    go_wp2_with fail
    refine (KO.out _).mono ?_
    rintro e w1 ⟨u, rfl, hO, hb⟩
    obtain ⟨av, cv, rfl⟩ := hO.form
    go_wp2
    go_ret2
    exact ⟨rfl, hb⟩
set_option maxRecDepth 100000 in
set_option maxHeartbeats 8000000 in
theorem rchoose_yes (may : NSet) (m : Int) (a : Option Addr) (len cap : Nat) (zs : List NSet) (w : World) (hP : ReadsU w (.slice a len cap) (zs.map nv)) (hzl : zs.length = len) (h0 : 0 ≤ m) (h1 : m ≤ (card may : Int)) (hlen : len ≤ 1000) :
    Calls Tryd.prog 35 #[.int .u64 (nv may), .int .i64 m, .slice a len cap] w fun e w' => e = .returned (.tuple #[.int .u64 (nv (chF may m zs 0#64)), .bool true]) ∧ Below w.heap.size w w' := by
  have hmx : Tryd.prog.follows .mixedOrders = true := by kernel_rfl
  have hcm := card_le may
  have hnl := nodes_length (card may) may rfl
  have hm1 : decide (m < 0) = false := by simp; omega
  have hm2 : decide (((nodes may).length : Int) < m) = false := by rw [hnl]; simp; omega
  have hL64 : (nodes may).length ≤ 64 := by omega
  have hmL : m ≤ ((nodes may).length : Int) := by omega
  have KO := Lib.hid (fun W => rof_any may W)
  generalize hR : chF may m zs 0#64 = R
  have HR := Lib.hid hR
  have HZL := Lib.hid hzl
  clear hR hzl hnl h1
  go_enter Tryd.func35, Tryd.ntmps35
  go_wp2_with fail
  refine (KO.out _).mono ?_
  rintro e w1 ⟨u, rfl, hO, hb1⟩
  obtain ⟨av, cv, rfl⟩ := hO.form
  have hRl := hO.ints
  have hP1 := hP.below hb1
  clear hO hP
  go_wp2_with fail
  go_loopw [9, 10] (fun r k wr => ∃ (q : Nat) (u : Value) (out : List Int), k = .int .i64 q ∧ r = u ∧ OwnI wr w1.heap.size u out ∧ Below w1.heap.size w1 wr ∧ RoundI may m zs len R q out) (fun _ k _ => len + 1 - (intOf k).toNat)
  case atStart => exact ⟨0, _, [], rfl, rfl, OwnI.nil, Below.refl _ _, Outs.nil, by simpa using h0, by omega, .inl ⟨by omega, by rw [List.drop_zero]; exact HR.out⟩⟩
  case round =>
    obtain ⟨q, u, out, rfl, rfl, hOu, hBu, hRo, hRm, hRq, hRc⟩ := hrel
    by_cases hql : q ≤ len
    · have hch : chF may m (zs.drop q) (addL 0#64 out) = R := by
        rcases hRc with h | h
        · exact h.2
        · omega
      clear hRc
      have hqi : (q : Int) ≤ (len : Int) := by omega
      -- the nodes that are good in this round
      obtain ⟨good, hgd, hgs, hgc, hgr, _⟩ : ∃ good : NSet, addL 0#64 out &&& good = 0#64 ∧ Sub good may ∧
          (∀ x, hasI may x = true → hasI (addL 0#64 out) x = false → hasI good x = if q = len then true else hasI (zs.getD q 0#64) x) ∧
          (∀ c', c' = fillC m (addL 0#64 out) good → (q + 1 ≤ len ∧ chF may m (zs.drop (q + 1)) c' = R) ∨ (q + 1 = len + 1 ∧ c' = R)) ∧ True := by
        by_cases hqe : q = len
        · refine ⟨may &&& ~~~ addL 0#64 out, less_apart _ _, and_subl _ _, fun x hx hn => ?_, fun c' hc' => ?_, trivial⟩
          · rw [if_pos hqe, good_of, hx, hn]; rfl
          · refine .inr ⟨by omega, ?_⟩
            rw [hqe, ← HZL.out, List.drop_length, chF] at hch
            rw [hc']; exact hch
        · have hqlt : q < zs.length := by have := HZL.out; omega
          have hdr : zs.drop q = zs.getD q 0#64 :: zs.drop (q + 1) := by
            rw [List.drop_eq_getElem_cons hqlt]
            simp [List.getD, List.getElem?_eq_getElem hqlt]
          rw [hdr, chF] at hch
          refine ⟨(may &&& ~~~ addL 0#64 out) &&& zs.getD q 0#64, good_apart _ _ _, sub_trans (and_subl _ _) (and_subl _ _), fun x hx hn => ?_, fun c' hc' => ?_, trivial⟩
          · rw [if_neg hqe, hasI_and', good_of, hx, hn]; simp
          · refine .inl ⟨by omega, ?_⟩
            rw [hc']; exact hch
      clear hch hRq
      go_wp2_with fail
      obtain ⟨w2, hw2⟩ : ∃ x, x = wr := ⟨_, rfl⟩
      subst hw2
      go_loopw [9, 11] (fun r k wr => ∃ (i : Nat) (u : Value), i ≤ (nodes may).length ∧ k = .int .i64 i ∧ r = u ∧ OwnI wr w1.heap.size u (out ++ goodT may good i) ∧ Below w1.heap.size w1 wr ∧ ((out ++ goodT may good i).length : Int) ≤ m) (fun _ k _ => (nodes may).length - (intOf k).toNat)
      case atStart => exact ⟨0, _, Nat.zero_le _, rfl, rfl, by simpa [goodT] using hOu, hBu, by simpa [goodT] using hRm⟩
      case round =>
        obtain ⟨i, u, hi, rfl, rfl, hOi, hBi, him⟩ := hrel
        obtain ⟨au, cu, hu⟩ := hOi.form
        subst hu
        by_cases hiL : i < (nodes may).length
        · have hiL' : (i : Int) < ((nodes may).length : Int) := by omega
          by_cases hfull : ((out ++ goodT may good i).length : Int) < m
          · have hfb : decide (((out ++ goodT may good i).length : Int) < m) = true := by simpa using hfull
            rcases hRl.below hBi with ⟨he, _⟩ | ⟨_, _, g, o, c, hv, _, hc⟩
            · rw [he] at hiL; exact absurd hiL (Nat.not_lt_zero _)
            · cases hv
              have hcell := hc i hiL
              have hpc := pick_cond (may := may) (good := good) hRo rfl hiL
              have hxm : hasI may ((nodes may).getD i 0) = true := by
                have e : (nodes may).getD i 0 = (nodes may)[i] := by simp [List.getD, List.getElem?_eq_getElem hiL]
                rw [e]; exact (nodes_mem (card may) may rfl _).1 (List.getElem_mem hiL)
              have hgx := hgc _ hxm
              have GY := Lib.hid (goodT_yes (may := may) (good := good) hiL)
              have GN := Lib.hid (goodT_no (may := may) (good := good) hiL)
              have hgn : hasI (addL 0#64 out) ((nodes may).getD i 0) = true → hasI good ((nodes may).getD i 0) = false := fun h1 => by
                cases hg : hasI good ((nodes may).getD i 0) with
                | false => rfl
                | true =>
                  have h2 := hasI_and' (addL 0#64 out) good ((nodes may).getD i 0)
                  rw [hgd, h1, hg] at h2
                  simp [hasI] at h2
              have khs := fun W (h : Below wr.heap.size wr W) => rhas_any ((nodes may).getD i 0) W (hOi.ints.below h)
              rw [hpc] at khs
              have KHs := Lib.hid khs
              clear khs hpc hxm hc hgc
              generalize (nodes may).getD i 0 = x at *
              have hOdr : OwnI wr.drew w1.heap.size (.slice au (out ++ goodT may good i).length cu) (out ++ goodT may good i) := hOi
              have hBdr : Below w1.heap.size w1 wr.drew := hBi.drew
              generalize hLO : (out ++ goodT may good i).length = lo at *
              have HLO := Lib.hid hLO
              clear hLO
              cases hh : hasI (addL 0#64 out) x with
              | true =>
                have HG := Lib.hid (GN.out (hgn hh))
                rw [hh] at KHs
                clear hgx hgn GY GN
                go_wp2
                have HB0 := Lib.hid ((Below.refl wr.heap.size wr).drew)
                refine wp_region_grow (fun w' => w' = wr.drew) hmx (by kernel_rfl) rfl ?_
                (refine textS_run ?_ ?_ (fun W hS => ?_) ?_; rotate_left; (focus go_simp); (focus (subst hS; go_simp; all_goals (first | exact ⟨rfl, rfl⟩ | rfl | (refine ⟨?_, rfl⟩; rfl)))); (try go_simp))
                (refine textS_run ?_ ?_ (fun W hS => ?_) ?_; rotate_left; (focus go_simp); (focus (subst hS; go_simp; all_goals (first | exact ⟨rfl, rfl⟩ | rfl | (refine ⟨?_, rfl⟩; rfl)))); (try go_simp))
                (refine textS_run ?_ ?_ (fun W hS => ?_) ?_; rotate_left; (focus go_simp); (focus (subst hS; go_simp; all_goals (first | exact ⟨rfl, rfl⟩ | rfl | (refine ⟨?_, rfl⟩; rfl)))); (try go_simp))
                (refine textS_run ?_ ?_ (fun W hS => ?_) ?_; rotate_left; (focus go_simp); (focus (subst hS; go_simp; all_goals (first | exact ⟨rfl, rfl⟩ | rfl | (refine ⟨?_, rfl⟩; rfl)))); (try go_simp))
                (refine textS_run ?_ ?_ (fun W hS => ?_) ?_; rotate_left; (focus go_simp); (focus (subst hS; go_simp; all_goals (first | exact ⟨rfl, rfl⟩ | rfl | (refine ⟨?_, rfl⟩; rfl)))); (try go_simp))
                (refine textS_run ?_ ?_ (fun W hS => ?_) ?_; rotate_left; (focus go_simp); (focus (subst hS; go_simp; refine (KHs.out _ HB0.out).mono ?_; rintro e w1 ⟨rfl, rfl⟩; refine ⟨?_, ?_⟩; (focus rfl); (focus rfl))); (try go_simp))
                (refine textS_run ?_ ?_ (fun W hS => ?_) ?_; rotate_left; (focus go_simp); (focus (subst hS; go_simp; all_goals (first | exact ⟨rfl, rfl⟩ | rfl | (refine ⟨?_, rfl⟩; rfl)))); (try go_simp))
                (refine textS_run ?_ ?_ (fun W hS => ?_) ?_; rotate_left; (focus go_simp); (focus (subst hS; go_simp; all_goals (first | exact ⟨rfl, rfl⟩ | rfl | (refine ⟨?_, rfl⟩; rfl)))); (try go_simp))
                (refine textS_skip ?_ ?_; (focus (first | rfl | (go_simp; done) | (go_simp; rfl))); (try go_simp))
                (refine textS_skip ?_ ?_; (focus (first | rfl | (go_simp; done) | (go_simp; rfl))); (try go_simp))
                (refine textS_skip ?_ ?_; (focus (first | rfl | (go_simp; done) | (go_simp; rfl))); (try go_simp))
                (refine textS_skip ?_ ?_; (focus (first | rfl | (go_simp; done) | (go_simp; rfl))); (try go_simp))
                (refine textS_skip ?_ ?_; (focus (first | rfl | (go_simp; done) | (go_simp; rfl))); (try go_simp))
                (refine textS_skip ?_ ?_; (focus (first | rfl | (go_simp; done) | (go_simp; rfl))); (try go_simp))
                (refine textS_skip ?_ ?_; (focus (first | rfl | (go_simp; done) | (go_simp; rfl))); (try go_simp))
                (refine textS_skip ?_ ?_; (focus (first | rfl | (go_simp; done) | (go_simp; rfl))); (try go_simp))
                (refine textS_skip ?_ ?_; (focus (first | rfl | (go_simp; done) | (go_simp; rfl))); (try go_simp))
                (refine textS_skip ?_ ?_; (focus (first | rfl | (go_simp; done) | (go_simp; rfl))); (try go_simp))
                (refine textS_skip ?_ ?_; (focus (first | rfl | (go_simp; done) | (go_simp; rfl))); (try go_simp))
                (refine textS_skip ?_ ?_; (focus (first | rfl | (go_simp; done) | (go_simp; rfl))); (try go_simp))
                (refine textS_skip ?_ ?_; (focus (first | rfl | (go_simp; done) | (go_simp; rfl))); (try go_simp))
                (refine textS_skip ?_ ?_; (focus (first | rfl | (go_simp; done) | (go_simp; rfl))); (try go_simp))
                (refine textS_skip ?_ ?_; (focus (first | rfl | (go_simp; done) | (go_simp; rfl))); (try go_simp))
                (refine textS_skip ?_ ?_; (focus (first | rfl | (go_simp; done) | (go_simp; rfl))); (try go_simp))
                (refine textS_run ?_ ?_ (fun W hS => ?_) ?_; rotate_left; (focus go_simp); (focus (subst hS; go_simp; all_goals (first | exact ⟨rfl, rfl⟩ | rfl | (refine ⟨?_, rfl⟩; rfl)))); (try go_simp))
                refine textS_nil ?_
                go_wp2
                go_roundw
                case rel => exact ⟨i + 1, _, by omega, by go_num, rfl, by rw [HG.out]; exact hOdr, hBdr, by rw [HG.out, HLO.out]; exact him⟩
                case measure => simp [intOf]; omega
              | false =>
                rw [hh] at KHs hgx
                replace hgx := hgx rfl
                by_cases hq : q = len
                · skip
                  have hqb : ((q : Int) == (len : Int)) = true := by rw [hq]; exact beq_self_eq_true _
                  have HG := Lib.hid (GY.out (hgx.trans (if_pos hq)))
                  have HB0 := Lib.hid ((Below.refl wr.heap.size wr).drew)
                  clear hgx hgn GY GN hq
                  go_wp2
                  refine wp_region_grow (fun w' => w' = wr.drew) hmx (by kernel_rfl) rfl ?_
                  (refine textS_run ?_ ?_ (fun W hS => ?_) ?_; rotate_left; (focus go_simp); (focus (subst hS; go_simp; all_goals (first | exact ⟨rfl, rfl⟩ | rfl | (refine ⟨?_, rfl⟩; rfl)))); (try go_simp))
                  (refine textS_run ?_ ?_ (fun W hS => ?_) ?_; rotate_left; (focus go_simp); (focus (subst hS; go_simp; all_goals (first | exact ⟨rfl, rfl⟩ | rfl | (refine ⟨?_, rfl⟩; rfl)))); (try go_simp))
                  (refine textS_run ?_ ?_ (fun W hS => ?_) ?_; rotate_left; (focus go_simp); (focus (subst hS; go_simp; all_goals (first | exact ⟨rfl, rfl⟩ | rfl | (refine ⟨?_, rfl⟩; rfl)))); (try go_simp))
                  (refine textS_run ?_ ?_ (fun W hS => ?_) ?_; rotate_left; (focus go_simp); (focus (subst hS; go_simp; all_goals (first | exact ⟨rfl, rfl⟩ | rfl | (refine ⟨?_, rfl⟩; rfl)))); (try go_simp))
                  (refine textS_run ?_ ?_ (fun W hS => ?_) ?_; rotate_left; (focus go_simp); (focus (subst hS; go_simp; all_goals (first | exact ⟨rfl, rfl⟩ | rfl | (refine ⟨?_, rfl⟩; rfl)))); (try go_simp))
                  (refine textS_run ?_ ?_ (fun W hS => ?_) ?_; rotate_left; (focus go_simp); (focus (subst hS; go_simp; refine (KHs.out _ HB0.out).mono ?_; rintro e w1 ⟨rfl, rfl⟩; refine ⟨?_, ?_⟩; (focus rfl); (focus rfl))); (try go_simp))
                  (refine textS_run ?_ ?_ (fun W hS => ?_) ?_; rotate_left; (focus go_simp); (focus (subst hS; go_simp; all_goals (first | exact ⟨rfl, rfl⟩ | rfl | (refine ⟨?_, rfl⟩; rfl)))); (try go_simp))
                  (refine textS_run ?_ ?_ (fun W hS => ?_) ?_; rotate_left; (focus go_simp); (focus (subst hS; go_simp; all_goals (first | exact ⟨rfl, rfl⟩ | rfl | (refine ⟨?_, rfl⟩; rfl)))); (try go_simp))
                  (refine textS_run ?_ ?_ (fun W hS => ?_) ?_; rotate_left; (focus go_simp); (focus (subst hS; go_simp; all_goals (first | exact ⟨rfl, rfl⟩ | rfl | (refine ⟨?_, rfl⟩; rfl)))); (try go_simp))
                  (refine textS_run ?_ ?_ (fun W hS => ?_) ?_; rotate_left; (focus go_simp); (focus (subst hS; go_simp; all_goals (first | exact ⟨rfl, rfl⟩ | rfl | (refine ⟨?_, rfl⟩; rfl)))); (try go_simp))
                  (refine textS_run ?_ ?_ (fun W hS => ?_) ?_; rotate_left; (focus go_simp); (focus (subst hS; go_simp; all_goals (first | exact ⟨rfl, rfl⟩ | rfl | (refine ⟨?_, rfl⟩; rfl)))); (try go_simp))
                  (refine textS_run ?_ ?_ (fun W hS => ?_) ?_; rotate_left; (focus go_simp); (focus (subst hS; go_simp; all_goals (first | exact ⟨rfl, rfl⟩ | rfl | (refine ⟨?_, rfl⟩; rfl)))); (try go_simp))
                  (refine textS_run ?_ ?_ (fun W hS => ?_) ?_; rotate_left; (focus go_simp); (focus (subst hS; go_simp; all_goals (first | exact ⟨rfl, rfl⟩ | rfl | (refine ⟨?_, rfl⟩; rfl)))); (try go_simp))
                  (refine textS_skip ?_ ?_; (focus (first | rfl | (go_simp; done) | (go_simp; rfl))); (try go_simp))
                  (refine textS_skip ?_ ?_; (focus (first | rfl | (go_simp; done) | (go_simp; rfl))); (try go_simp))
                  (refine textS_skip ?_ ?_; (focus (first | rfl | (go_simp; done) | (go_simp; rfl))); (try go_simp))
                  (refine textS_skip ?_ ?_; (focus (first | rfl | (go_simp; done) | (go_simp; rfl))); (try go_simp))
                  (refine textS_skip ?_ ?_; (focus (first | rfl | (go_simp; done) | (go_simp; rfl))); (try go_simp))
                  (refine textS_skip ?_ ?_; (focus (first | rfl | (go_simp; done) | (go_simp; rfl))); (try go_simp))
                  (refine textS_skip ?_ ?_; (focus (first | rfl | (go_simp; done) | (go_simp; rfl))); (try go_simp))
                  (refine textS_skip ?_ ?_; (focus (first | rfl | (go_simp; done) | (go_simp; rfl))); (try go_simp))
                  (refine textS_skip ?_ ?_; (focus (first | rfl | (go_simp; done) | (go_simp; rfl))); (try go_simp))
                  (refine textS_skip ?_ ?_; (focus (first | rfl | (go_simp; done) | (go_simp; rfl))); (try go_simp))
                  (refine textS_run ?_ ?_ (fun W hS => ?_) ?_; rotate_left; (focus go_simp); (focus (subst hS; go_simp; all_goals (first | exact ⟨rfl, rfl⟩ | rfl | (refine ⟨?_, rfl⟩; rfl)))); (try go_simp))
                  (refine textS_run ?_ ?_ (fun W hS => ?_) ?_; rotate_left; (focus go_simp); (focus (subst hS; go_simp; all_goals (first | exact ⟨rfl, rfl⟩ | rfl | (refine ⟨?_, rfl⟩; rfl)))); (try go_simp))
                  refine textS_nil ?_
                  go_wp2_with (at_builtin; refine wpList_append_int 25 Tryd.underlying25 rfl _ _ rfl w1.heap.size _ _ rfl (hOdr.below (below_alloc (Below.refl _ _) _)) _ 1 x rfl (by simp) (by rw [HLO.out]; omega) (by simp; have := hBdr.size; simp at this; omega) ?_; intro v' w' hO' hB')
                  go_roundw
                  case rel => exact ⟨i + 1, _, by omega, by go_num, rfl, by rw [HG.out, ← List.append_assoc]; exact hO', hBdr.trans ((Below.alloc (Below.refl _ _) hBdr.size _).trans hB'), by rw [HG.out, ← List.append_assoc, List.length_append, HLO.out, List.length_singleton]; omega⟩
                  case measure => simp [intOf]; omega
                · skip
                  have hqb : ((q : Int) == (len : Int)) = false := by simp; omega
                  have hqlt : q < zs.length := by have := HZL.out; omega
                  rcases hP1.below hBi with ⟨he, _⟩ | ⟨_, _, pg, po, pc, hpv, _, hpcell⟩
                  · rw [List.map_eq_nil_iff] at he
                    rw [he] at hqlt; exact absurd hqlt (Nat.not_lt_zero _)
                  · obtain ⟨rfl, hl2⟩ : a = some ⟨pg, po, none⟩ ∧ len = (zs.map nv).length := by cases hpv; exact ⟨rfl, rfl⟩
                    have hpc := hpcell q (by rw [List.length_map]; exact hqlt)
                    rw [show (zs.map nv).getD q 0 = nv (zs.getD q 0#64) by simp [List.getD, hqlt]] at hpc
                    have hql' : (q : Int) < (len : Int) := by have := HZL.out; omega
                    have hgx2 := hgx.trans (if_neg hq)
                    generalize zs.getD q 0#64 = p at *
                    obtain ⟨hO9, hB9⟩ := of_own p wr.drew
                    have KOf := Lib.hid (rof_exact p wr.drew)
                    generalize ofV p wr.drew = V9 at *
                    generalize ofW p wr.drew = W9 at *
                    have HB0 := Lib.hid ((Below.refl wr.heap.size wr).drew)
                    have HB9 := Lib.hid (HB0.out.trans hB9)
                    have kh2 := rhas_any x W9 hO9.ints
                    rw [show decide (x ∈ nodes p) = hasI p x by rw [Bool.eq_iff_iff, decide_eq_true_eq]; exact nodes_mem (card p) p rfl x] at kh2
                    have KH2 := Lib.hid kh2
                    have hcell9 := (HB9.out.cell (p := ⟨g, o + i, none⟩) (World.block_lt_of_cell? wr _ hcell)).trans hcell
                    have hpc9 := (HB9.out.cell (p := ⟨pg, po + q, none⟩) (World.block_lt_of_cell? wr _ hpc)).trans hpc
                    have hOdr := hOdr.below hB9
                    have hBdr := hBdr.trans (hB9.mono hBdr.size)
                    have HZ2 := Lib.hid hgx2
                    have HCP := Lib.hid hpcell
                    clear hgx hgn hq kh2 hO9 hB9 hgx2 hpcell hqlt hl2 hpv
                    cases hp : hasI p x with
                    | true =>
                      have HG := Lib.hid (GY.out (HZ2.out.trans hp))
                      rw [hp] at KH2
                      clear HZ2 GY GN
                      go_wp2
                      refine (wpIn_wide (n := 0)).1 ?_
                      refine wpIn_region_twoA WideF.wide 17 (fun b w' => w' = bif b then W9 else wr.drew) hmx (by kernel_rfl) (by kernel_rfl) (by decide) rfl ?_
                      (refine textT2_run ?_ (by decide) ?_ (fun p W hS => ?_) ?_; rotate_left; (focus go_simp); (focus (cases p <;> (simp only [cond_true, cond_false] at hS; subst hS; go_simp; all_goals (first | exact ⟨rfl, rfl⟩ | rfl | (refine ⟨?_, rfl⟩; rfl))))); (try go_simp))
                      (refine textT2_run ?_ (by decide) ?_ (fun p W hS => ?_) ?_; rotate_left; (focus go_simp); (focus (cases p <;> (simp only [cond_true, cond_false] at hS; subst hS; go_simp; all_goals (first | exact ⟨rfl, rfl⟩ | rfl | (refine ⟨?_, rfl⟩; rfl))))); (try go_simp))
                      (refine textT2_run ?_ (by decide) ?_ (fun p W hS => ?_) ?_; rotate_left; (focus go_simp); (focus (cases p <;> (simp only [cond_true, cond_false] at hS; subst hS; go_simp; all_goals (first | exact ⟨rfl, rfl⟩ | rfl | (refine ⟨?_, rfl⟩; rfl))))); (try go_simp))
                      (refine textT2_run ?_ (by decide) ?_ (fun p W hS => ?_) ?_; rotate_left; (focus go_simp); (focus (cases p <;> (simp only [cond_true, cond_false] at hS; subst hS; go_simp; all_goals (first | exact ⟨rfl, rfl⟩ | rfl | (refine ⟨?_, rfl⟩; rfl))))); (try go_simp))
                      (refine textT2_run ?_ (by decide) ?_ (fun p W hS => ?_) ?_; rotate_left; (focus go_simp); (focus (cases p <;> (simp only [cond_true, cond_false] at hS; subst hS; go_simp; all_goals (first | exact ⟨rfl, rfl⟩ | rfl | (refine ⟨?_, rfl⟩; rfl))))); (try go_simp))
                      (refine textT2_run ?_ (by decide) ?_ (fun p W hS => ?_) ?_; rotate_left; (focus go_simp); (focus (cases p <;> (simp only [cond_true, cond_false] at hS; subst hS; go_simp; first | (refine (KHs.out _ HB0.out).mono ?_; rintro e w1 ⟨rfl, rfl⟩; refine ⟨?_, ?_⟩; (focus rfl); (focus rfl)) | (refine (KHs.out _ HB9.out).mono ?_; rintro e w1 ⟨rfl, rfl⟩; refine ⟨?_, ?_⟩; (focus rfl); (focus rfl))))); (try go_simp))
                      (refine textT2_run ?_ (by decide) ?_ (fun p W hS => ?_) ?_; rotate_left; (focus go_simp); (focus (cases p <;> (simp only [cond_true, cond_false] at hS; subst hS; go_simp; all_goals (first | exact ⟨rfl, rfl⟩ | rfl | (refine ⟨?_, rfl⟩; rfl))))); (try go_simp))
                      (refine textT2_run ?_ (by decide) ?_ (fun p W hS => ?_) ?_; rotate_left; (focus go_simp); (focus (cases p <;> (simp only [cond_true, cond_false] at hS; subst hS; go_simp; all_goals (first | exact ⟨rfl, rfl⟩ | rfl | (refine ⟨?_, rfl⟩; rfl))))); (try go_simp))
                      (refine textT2_run ?_ (by decide) ?_ (fun p W hS => ?_) ?_; rotate_left; (focus go_simp); (focus (cases p <;> (simp only [cond_true, cond_false] at hS; subst hS; go_simp; all_goals (first | exact ⟨rfl, rfl⟩ | rfl | (refine ⟨?_, rfl⟩; rfl))))); (try go_simp))
                      (refine textT2_run ?_ (by decide) ?_ (fun p W hS => ?_) ?_; rotate_left; (focus go_simp); (focus (cases p <;> (simp only [cond_true, cond_false] at hS; subst hS; go_simp; all_goals (first | exact ⟨rfl, rfl⟩ | rfl | (refine ⟨?_, rfl⟩; rfl))))); (try go_simp))
                      (refine textT2_run ?_ (by decide) ?_ (fun p W hS => ?_) ?_; rotate_left; (focus go_simp); (focus (cases p <;> (simp only [cond_true, cond_false] at hS; subst hS; go_simp; all_goals (first | exact ⟨rfl, rfl⟩ | rfl | (refine ⟨?_, rfl⟩; rfl))))); (try go_simp))
                      (refine textT2_run ?_ (by decide) ?_ (fun p W hS => ?_) ?_; rotate_left; (focus go_simp); (focus (cases p <;> (simp only [cond_true, cond_false] at hS; subst hS; go_simp; all_goals (first | exact ⟨rfl, rfl⟩ | rfl | (refine ⟨?_, rfl⟩; rfl))))); (try go_simp))
                      (refine textT2_run ?_ (by decide) ?_ (fun p W hS => ?_) ?_; rotate_left; (focus go_simp); (focus (cases p <;> (simp only [cond_true, cond_false] at hS; subst hS; go_simp; all_goals (first | exact ⟨rfl, rfl⟩ | rfl | (refine ⟨?_, rfl⟩; rfl))))); (try go_simp))
                      (refine textT2_run ?_ (by decide) ?_ (fun p W hS => ?_) ?_; rotate_left; (focus go_simp); (focus (cases p <;> (simp only [cond_true, cond_false] at hS; subst hS; go_simp; all_goals (first | exact ⟨rfl, rfl⟩ | rfl | (refine ⟨?_, rfl⟩; rfl))))); (try go_simp))
                      (refine textT2_run ?_ (by decide) ?_ (fun p W hS => ?_) ?_; rotate_left; (focus go_simp); (focus (cases p <;> (simp only [cond_true, cond_false] at hS; subst hS; go_simp; all_goals (first | exact ⟨rfl, rfl⟩ | rfl | (refine ⟨?_, rfl⟩; rfl))))); (try go_simp))
                      (refine textT2_run ?_ (by decide) ?_ (fun p W hS => ?_) ?_; rotate_left; (focus go_simp); (focus (cases p <;> (simp only [cond_true, cond_false] at hS; subst hS; go_simp; all_goals (first | exact ⟨rfl, rfl⟩ | rfl | (refine ⟨?_, rfl⟩; rfl))))); (try go_simp))
                      (refine textT2_run ?_ (by decide) ?_ (fun p W hS => ?_) ?_; rotate_left; (focus go_simp); (focus (cases p <;> (simp only [cond_true, cond_false] at hS; subst hS; go_simp; all_goals (first | exact ⟨rfl, rfl⟩ | rfl | (refine ⟨?_, rfl⟩; rfl))))); (try go_simp))
                      (refine textT2_call ?_ rfl ?_ (fun W hS => ?_) ?_; rotate_left; (focus go_simp); (focus (simp only [cond_true, cond_false] at hS; subst hS; go_simp; refine (KOf.out).mono ?_; rintro e w1 ⟨rfl, rfl⟩; refine ⟨?_, ?_⟩; (focus rfl); (focus rfl))); (try go_simp))
                      (refine textT2_run ?_ (by decide) ?_ (fun p W hS => ?_) ?_; rotate_left; (focus go_simp); (focus (cases p <;> (simp only [cond_true, cond_false] at hS; subst hS; go_simp; all_goals (first | exact ⟨rfl, rfl⟩ | rfl | (refine ⟨?_, rfl⟩; rfl))))); (try go_simp))
                      (refine textT2_run ?_ (by decide) ?_ (fun p W hS => ?_) ?_; rotate_left; (focus go_simp); (focus (cases p <;> (simp only [cond_true, cond_false] at hS; subst hS; go_simp; all_goals (first | exact ⟨rfl, rfl⟩ | rfl | (refine ⟨?_, rfl⟩; rfl))))); (try go_simp))
                      (refine textT2_run ?_ (by decide) ?_ (fun p W hS => ?_) ?_; rotate_left; (focus go_simp); (focus (cases p <;> (simp only [cond_true, cond_false] at hS; subst hS; go_simp; all_goals (first | exact ⟨rfl, rfl⟩ | rfl | (refine ⟨?_, rfl⟩; rfl))))); (try go_simp))
                      (refine textT2_run ?_ (by decide) ?_ (fun p W hS => ?_) ?_; rotate_left; (focus go_simp); (focus (cases p <;> (simp only [cond_true, cond_false] at hS; subst hS; go_simp; all_goals (first | exact ⟨rfl, rfl⟩ | rfl | (refine ⟨?_, rfl⟩; rfl))))); (try go_simp))
                      (refine textT2_after ?_ (by decide) (by kernel_rfl) ?_ (fun W hS => ?_) ?_; rotate_left; (focus go_simp); (focus (simp only [cond_true, cond_false] at hS; subst hS; go_simp; refine (KH2.out).mono ?_; rintro e w1 ⟨rfl, rfl⟩; refine ⟨?_, ?_⟩; (focus rfl); (focus rfl))); (try go_simp))
                      (refine textT2_run ?_ (by decide) ?_ (fun p W hS => ?_) ?_; rotate_left; (focus go_simp); (focus (cases p <;> (simp only [cond_true, cond_false] at hS; subst hS; go_simp; all_goals (first | exact ⟨rfl, rfl⟩ | rfl | (refine ⟨?_, rfl⟩; rfl))))); (try go_simp))
                      (refine textT2_run ?_ (by decide) ?_ (fun p W hS => ?_) ?_; rotate_left; (focus go_simp); (focus (cases p <;> (simp only [cond_true, cond_false] at hS; subst hS; go_simp; all_goals (first | exact ⟨rfl, rfl⟩ | rfl | (refine ⟨?_, rfl⟩; rfl))))); (try go_simp))
                      refine textT2_nil ?_
                      go_wp2_with (at_builtin; refine wpList_append_int 25 Tryd.underlying25 rfl _ _ rfl w1.heap.size _ _ rfl (hOdr.below (below_alloc (Below.refl _ _) _)) _ 1 x rfl (by simp) (by rw [HLO.out]; omega) (by simp; have := hBdr.size; omega) ?_; intro v' w' hO' hB')
                      go_roundw
                      case rel => exact ⟨i + 1, _, by omega, by go_num, rfl, by rw [HG.out, ← List.append_assoc]; exact hO', hBdr.trans ((Below.alloc (Below.refl _ _) hBdr.size _).trans hB'), by rw [HG.out, ← List.append_assoc, List.length_append, HLO.out, List.length_singleton]; omega⟩
                      case measure => simp [intOf]; omega
                    | false =>
                      have HG := Lib.hid (GN.out (HZ2.out.trans hp))
                      rw [hp] at KH2
                      clear HZ2 GY GN
                      go_wp2
                      refine (wpIn_wide (n := 0)).1 ?_
                      refine wpIn_region_twoA WideF.wide 17 (fun b w' => w' = bif b then W9 else wr.drew) hmx (by kernel_rfl) (by kernel_rfl) (by decide) rfl ?_
                      (refine textT2_run ?_ (by decide) ?_ (fun p W hS => ?_) ?_; rotate_left; (focus go_simp); (focus (cases p <;> (simp only [cond_true, cond_false] at hS; subst hS; go_simp; all_goals (first | exact ⟨rfl, rfl⟩ | rfl | (refine ⟨?_, rfl⟩; rfl))))); (try go_simp))
                      (refine textT2_run ?_ (by decide) ?_ (fun p W hS => ?_) ?_; rotate_left; (focus go_simp); (focus (cases p <;> (simp only [cond_true, cond_false] at hS; subst hS; go_simp; all_goals (first | exact ⟨rfl, rfl⟩ | rfl | (refine ⟨?_, rfl⟩; rfl))))); (try go_simp))
                      (refine textT2_run ?_ (by decide) ?_ (fun p W hS => ?_) ?_; rotate_left; (focus go_simp); (focus (cases p <;> (simp only [cond_true, cond_false] at hS; subst hS; go_simp; all_goals (first | exact ⟨rfl, rfl⟩ | rfl | (refine ⟨?_, rfl⟩; rfl))))); (try go_simp))
                      (refine textT2_run ?_ (by decide) ?_ (fun p W hS => ?_) ?_; rotate_left; (focus go_simp); (focus (cases p <;> (simp only [cond_true, cond_false] at hS; subst hS; go_simp; all_goals (first | exact ⟨rfl, rfl⟩ | rfl | (refine ⟨?_, rfl⟩; rfl))))); (try go_simp))
                      (refine textT2_run ?_ (by decide) ?_ (fun p W hS => ?_) ?_; rotate_left; (focus go_simp); (focus (cases p <;> (simp only [cond_true, cond_false] at hS; subst hS; go_simp; all_goals (first | exact ⟨rfl, rfl⟩ | rfl | (refine ⟨?_, rfl⟩; rfl))))); (try go_simp))
                      (refine textT2_run ?_ (by decide) ?_ (fun p W hS => ?_) ?_; rotate_left; (focus go_simp); (focus (cases p <;> (simp only [cond_true, cond_false] at hS; subst hS; go_simp; first | (refine (KHs.out _ HB0.out).mono ?_; rintro e w1 ⟨rfl, rfl⟩; refine ⟨?_, ?_⟩; (focus rfl); (focus rfl)) | (refine (KHs.out _ HB9.out).mono ?_; rintro e w1 ⟨rfl, rfl⟩; refine ⟨?_, ?_⟩; (focus rfl); (focus rfl))))); (try go_simp))
                      (refine textT2_run ?_ (by decide) ?_ (fun p W hS => ?_) ?_; rotate_left; (focus go_simp); (focus (cases p <;> (simp only [cond_true, cond_false] at hS; subst hS; go_simp; all_goals (first | exact ⟨rfl, rfl⟩ | rfl | (refine ⟨?_, rfl⟩; rfl))))); (try go_simp))
                      (refine textT2_run ?_ (by decide) ?_ (fun p W hS => ?_) ?_; rotate_left; (focus go_simp); (focus (cases p <;> (simp only [cond_true, cond_false] at hS; subst hS; go_simp; all_goals (first | exact ⟨rfl, rfl⟩ | rfl | (refine ⟨?_, rfl⟩; rfl))))); (try go_simp))
                      (refine textT2_run ?_ (by decide) ?_ (fun p W hS => ?_) ?_; rotate_left; (focus go_simp); (focus (cases p <;> (simp only [cond_true, cond_false] at hS; subst hS; go_simp; all_goals (first | exact ⟨rfl, rfl⟩ | rfl | (refine ⟨?_, rfl⟩; rfl))))); (try go_simp))
                      (refine textT2_run ?_ (by decide) ?_ (fun p W hS => ?_) ?_; rotate_left; (focus go_simp); (focus (cases p <;> (simp only [cond_true, cond_false] at hS; subst hS; go_simp; all_goals (first | exact ⟨rfl, rfl⟩ | rfl | (refine ⟨?_, rfl⟩; rfl))))); (try go_simp))
                      (refine textT2_run ?_ (by decide) ?_ (fun p W hS => ?_) ?_; rotate_left; (focus go_simp); (focus (cases p <;> (simp only [cond_true, cond_false] at hS; subst hS; go_simp; all_goals (first | exact ⟨rfl, rfl⟩ | rfl | (refine ⟨?_, rfl⟩; rfl))))); (try go_simp))
                      (refine textT2_run ?_ (by decide) ?_ (fun p W hS => ?_) ?_; rotate_left; (focus go_simp); (focus (cases p <;> (simp only [cond_true, cond_false] at hS; subst hS; go_simp; all_goals (first | exact ⟨rfl, rfl⟩ | rfl | (refine ⟨?_, rfl⟩; rfl))))); (try go_simp))
                      (refine textT2_run ?_ (by decide) ?_ (fun p W hS => ?_) ?_; rotate_left; (focus go_simp); (focus (cases p <;> (simp only [cond_true, cond_false] at hS; subst hS; go_simp; all_goals (first | exact ⟨rfl, rfl⟩ | rfl | (refine ⟨?_, rfl⟩; rfl))))); (try go_simp))
                      (refine textT2_run ?_ (by decide) ?_ (fun p W hS => ?_) ?_; rotate_left; (focus go_simp); (focus (cases p <;> (simp only [cond_true, cond_false] at hS; subst hS; go_simp; all_goals (first | exact ⟨rfl, rfl⟩ | rfl | (refine ⟨?_, rfl⟩; rfl))))); (try go_simp))
                      (refine textT2_run ?_ (by decide) ?_ (fun p W hS => ?_) ?_; rotate_left; (focus go_simp); (focus (cases p <;> (simp only [cond_true, cond_false] at hS; subst hS; go_simp; all_goals (first | exact ⟨rfl, rfl⟩ | rfl | (refine ⟨?_, rfl⟩; rfl))))); (try go_simp))
                      (refine textT2_run ?_ (by decide) ?_ (fun p W hS => ?_) ?_; rotate_left; (focus go_simp); (focus (cases p <;> (simp only [cond_true, cond_false] at hS; subst hS; go_simp; all_goals (first | exact ⟨rfl, rfl⟩ | rfl | (refine ⟨?_, rfl⟩; rfl))))); (try go_simp))
                      (refine textT2_run ?_ (by decide) ?_ (fun p W hS => ?_) ?_; rotate_left; (focus go_simp); (focus (cases p <;> (simp only [cond_true, cond_false] at hS; subst hS; go_simp; all_goals (first | exact ⟨rfl, rfl⟩ | rfl | (refine ⟨?_, rfl⟩; rfl))))); (try go_simp))
                      (refine textT2_call ?_ rfl ?_ (fun W hS => ?_) ?_; rotate_left; (focus go_simp); (focus (simp only [cond_true, cond_false] at hS; subst hS; go_simp; refine (KOf.out).mono ?_; rintro e w1 ⟨rfl, rfl⟩; refine ⟨?_, ?_⟩; (focus rfl); (focus rfl))); (try go_simp))
                      (refine textT2_run ?_ (by decide) ?_ (fun p W hS => ?_) ?_; rotate_left; (focus go_simp); (focus (cases p <;> (simp only [cond_true, cond_false] at hS; subst hS; go_simp; all_goals (first | exact ⟨rfl, rfl⟩ | rfl | (refine ⟨?_, rfl⟩; rfl))))); (try go_simp))
                      (refine textT2_run ?_ (by decide) ?_ (fun p W hS => ?_) ?_; rotate_left; (focus go_simp); (focus (cases p <;> (simp only [cond_true, cond_false] at hS; subst hS; go_simp; all_goals (first | exact ⟨rfl, rfl⟩ | rfl | (refine ⟨?_, rfl⟩; rfl))))); (try go_simp))
                      (refine textT2_run ?_ (by decide) ?_ (fun p W hS => ?_) ?_; rotate_left; (focus go_simp); (focus (cases p <;> (simp only [cond_true, cond_false] at hS; subst hS; go_simp; all_goals (first | exact ⟨rfl, rfl⟩ | rfl | (refine ⟨?_, rfl⟩; rfl))))); (try go_simp))
                      (refine textT2_run ?_ (by decide) ?_ (fun p W hS => ?_) ?_; rotate_left; (focus go_simp); (focus (cases p <;> (simp only [cond_true, cond_false] at hS; subst hS; go_simp; all_goals (first | exact ⟨rfl, rfl⟩ | rfl | (refine ⟨?_, rfl⟩; rfl))))); (try go_simp))
                      (refine textT2_after ?_ (by decide) (by kernel_rfl) ?_ (fun W hS => ?_) ?_; rotate_left; (focus go_simp); (focus (simp only [cond_true, cond_false] at hS; subst hS; go_simp; refine (KH2.out).mono ?_; rintro e w1 ⟨rfl, rfl⟩; refine ⟨?_, ?_⟩; (focus rfl); (focus rfl))); (try go_simp))
                      (refine textT2_run ?_ (by decide) ?_ (fun p W hS => ?_) ?_; rotate_left; (focus go_simp); (focus (cases p <;> (simp only [cond_true, cond_false] at hS; subst hS; go_simp; all_goals (first | exact ⟨rfl, rfl⟩ | rfl | (refine ⟨?_, rfl⟩; rfl))))); (try go_simp))
                      (refine textT2_run ?_ (by decide) ?_ (fun p W hS => ?_) ?_; rotate_left; (focus go_simp); (focus (cases p <;> (simp only [cond_true, cond_false] at hS; subst hS; go_simp; all_goals (first | exact ⟨rfl, rfl⟩ | rfl | (refine ⟨?_, rfl⟩; rfl))))); (try go_simp))
                      refine textT2_nil ?_
                      go_wp2
                      go_roundw
                      case rel => exact ⟨i + 1, _, by omega, by go_num, rfl, by rw [HG.out]; exact hOdr, hBdr, by rw [HG.out, HLO.out]; exact him⟩
                      case measure => simp [intOf]; omega
          · skip
            have hfb : decide (((out ++ goodT may good i).length : Int) < m) = false := by simpa using hfull
            have hnext := hgr _ (round_done hRo rfl hgd hgs (i := i) (.inr (by omega)))
            have hout := outs_grow hRo rfl hgd hgs i
            have HN := Lib.hid hnext
            clear hnext hgr hgc hgd hgs hRo hRm
            generalize out ++ goodT may good i = out2 at *
            go_wp2
            go_roundw
            case rel => exact ⟨q + 1, _, out2, by go_num, rfl, hOi, hBi, hout, him, by omega, HN.out⟩
            case measure => simp [intOf]; omega
        · skip
          have hiL' : ¬ (i : Int) < ((nodes may).length : Int) := by omega
          have hnext := hgr _ (round_done hRo rfl hgd hgs (i := i) (.inl ⟨by omega, him⟩))
          have hout := outs_grow hRo rfl hgd hgs i
          have HN := Lib.hid hnext
          clear hnext hgr hgc hgd hgs hRo hRm
          generalize out ++ goodT may good i = out2 at *
          go_wp2
          go_roundw
          case rel => exact ⟨q + 1, _, out2, by go_num, rfl, hOi, hBi, hout, him, by omega, HN.out⟩
          case measure => simp [intOf]; omega
    · obtain rfl : q = len + 1 := by omega
      have hcR : addL 0#64 out = R := by
        rcases hRc with h | h
        · omega
        · exact h.2
      have hqi : ¬ ((len + 1 : Nat) : Int) ≤ (len : Int) := by omega
      have KS := Lib.hid (rset_outs wr hOu.ints hRo)
      rw [hcR] at KS
      clear hRc hcR hRo
      go_wp2_with fail
      refine KS.out.mono ?_
      rintro e w' ⟨rfl, rfl⟩
      go_wp2
      go_ret2
      exact ⟨rfl, hb1.trans (hBu.mono hb1.size)⟩
end Go.Proofs.YtkllhnfnkgkelaaDoor
