/- Levels (layer 10): UsageAreas walked. Conditions: the acts that came in. -/
import Derived.Deep.CutBlock
import Derived.Test.YthdljigcfhjikaaRelT
import Derived.Test.YthdljigcfhjikaaRelL
import Derived.Test.YthdljigcfhjikaaUsx
import Derived.Test.YthdljigcfhjikaaMask
namespace Go.Proofs.Ythdljigcfhjikaa
set_option linter.unusedVariables false
open Go.ChangeShapes Go.WideShapes Go.ChangeAt Go.RowKit
def mmMin (x y : Int) : Int := if y < x then y else x
def mmMax (x y : Int) : Int := if x < y then y else x
theorem run_mmMin {P : Program} (w : World) (ts : Array TypeId) (t : TypeId) (k k' : IntKind) (x y : Int) : (Builtin.min_ ts t #[.int k x, .int k' y]).run P w = .ok (.int k (mmMin x y)) w := run_min_int2 w ts t k k' x y
theorem run_mmMax {P : Program} (w : World) (ts : Array TypeId) (t : TypeId) (k k' : IntKind) (x y : Int) : (Builtin.max_ ts t #[.int k x, .int k' y]).run P w = .ok (.int k (mmMax x y)) w := run_max_int2 w ts t k k' x y
attribute [local go_sem high] run_mmMin run_mmMax
attribute [local go_sem ↓] Go.wp_at_zero Go.wp_at_succ comesTo_value_eq comesTo_skip_eq comesTo_enter_eq Rl.comesToR_value_eq Rl.comesToR_skip_eq Rl.comesToR_enter_eq

set_option maxRecDepth 100000 in
set_option maxHeartbeats 16000000 in
theorem areas_any (lad : Option Addr) (ll lcap : Nat) (A : Nat → ActU) (f t cut : Int) (w : World) (hA : ActsU w lad ll A) :
    Calls Try.prog 7 #[.slice lad ll lcap, .agg #[.int .i64 f, .int .i64 t], .int .i64 cut] w fun e w' => e = .returned (.bool true) ∧ Below w.heap.size w w' := by
  have hmx : Try.prog.follows .mixedOrders = true := by kernel_rfl
  have KP := Lib.hid (fun W => flat_row 0 W)
  have K1 := Lib.hid (fun W => usage_one W)
  have HA := Lib.hid hA
  clear hA
  have hb0 := below_alloc (Below.refl _ w) (.cells #[.int .i64 f, .int .i64 t] 25)
  have n0 := World.alloc_heap_new w (.cells #[.int .i64 f, .int .i64 t] 25)
  have HB0 := Lib.hid hb0
  have N0 := Lib.hid n0
  clear hb0 n0
  go_enter Try.func7, Try.ntmps7
  go_upto_region 1 with fail
  generalize w.alloc (.cells #[.int .i64 f, .int .i64 t] 25) = W0 at *
  go_wp2_with fail
  refine (KP.out _).mono ?_
  rintro e W2 ⟨S, rfl, hS, hu, hb1, hrn⟩
  have hw0 := (Array.getElem?_eq_some_iff.1 N0.out).1
  have HU := Lib.hid hu
  have HB := Lib.hid (below_next HB0.out hb1)
  have HN := Lib.hid ((hb1.block _ hw0).trans N0.out)
  have hSw : w.heap.size < S := by omega
  have HRN := Lib.hid (hrn w.heap.size hw0)
  clear hu hb1 hrn HB0 N0
  go_upto_block 0 with fail
  go_cut [] (fun wx => ∃ L : List (Int × Int), USt wx S L ∧ RightU L ∧ L.length ≤ 43046721 ∧ SmallU L 84 ∧ Below w.heap.size w wx ∧ wx.heap[w.heap.size]? = some (.cells #[.int .i64 f, .int .i64 t] 25 (0, 0)) ∧ RowNe wx S w.heap.size)
  case first =>
    go_wp2_with fail
    go_loopw [8] (fun i wr => ∃ (q : Nat) (L : List (Int × Int)), q ≤ 12 ∧ q ≤ ll ∧ i = .int .i64 q ∧ USt wr S L ∧ RightU L ∧ L.length ≤ 3 ^ q ∧ SmallU L (7 * (q : Int)) ∧ Below w.heap.size w wr ∧ wr.heap[w.heap.size]? = some (.cells #[.int .i64 f, .int .i64 t] 25 (0, 0)) ∧ RowNe wr S w.heap.size) (fun i _ => 12 - (intOf i).toNat)
    case atStart => exact ⟨0, [(0, 0)], by omega, by omega, rfl, HU.out, right_flat 0, by simp, fun x h0 _ => by simp only [lvl]; rw [if_neg (by omega)]; omega, HB.out, HN.out, HRN.out⟩
    case round =>
      obtain ⟨q, L, hq, hql, rfl, hu, hr, hl, hv, hb, hn, hrn⟩ := hrel
      have HUq := Lib.hid hu
      have HRq := Lib.hid hr
      have HLq := Lib.hid hl
      have HVq := Lib.hid hv
      have HBq := Lib.hid hb
      have HNq := Lib.hid hn
      have HRNq := Lib.hid hrn
      clear hu hr hl hv hb hn hrn HU HB HN HRN
      have hll := HA.out.1
      by_cases hlt : q < ll ∧ q < 12
      case pos =>
        have hd1 : decide (q < ll) = true := decide_eq_true hlt.1
        have hd2 : decide ((q : Int) < 12) = true := decide_eq_true (by omega)
        have hix : (q : Int) < (ll : Int) := by omega
        have hw1 : IntKind.i64.wrap ((q : Int) + 1) = (q : Int) + 1 := by rw [IntKind.wrap_i64]; omega
        obtain ⟨ab, off, rfl, hrow⟩ := HA.out.2 (by omega)
        have hc := hrow q hlt.1
        clear hrow
        generalize A q = a at hc
        go_upto_region 5 with fail
        have w1 := (HBq.out.cell (p := ⟨ab, off + q * 4 + 1, none⟩) (World.block_lt_of_cell? w _ hc.c1)).trans hc.c1
        have w2 := (HBq.out.cell (p := ⟨ab, off + q * 4 + 2, none⟩) (World.block_lt_of_cell? w _ hc.c2)).trans hc.c2
        have w3 := (HBq.out.cell (p := ⟨ab, off + q * 4 + 3, none⟩) (World.block_lt_of_cell? w _ hc.c3)).trans hc.c3
        have hql' : q ≤ 16 := by omega
        have hwt : bits .and .i64 a.n 7 = a.n % 8 := mask_7 a.n
        have hu9 : USt wr.drew S L := HUq.out.below (Below.refl _ wr).drew
        refine wp_region_held (S := fun X => X.cell? ⟨ab, off + q * 4 + 1, none⟩ = some (.int .i64 a.fr) ∧ X.cell? ⟨ab, off + q * 4 + 2, none⟩ = some (.int .i64 a.to_) ∧ X.cell? ⟨ab, off + q * 4 + 3, none⟩ = some (.int .i64 a.n)) hmx ?_
        change wpAnyH _ _ _ _ _ 13 _ _ wr.drew
        have hSS : (fun X : World => X.cell? ⟨ab, off + q * 4 + 1, none⟩ = some (.int .i64 a.fr) ∧ X.cell? ⟨ab, off + q * 4 + 2, none⟩ = some (.int .i64 a.to_) ∧ X.cell? ⟨ab, off + q * 4 + 3, none⟩ = some (.int .i64 a.n)) wr.drew := ⟨w1, w2, w3⟩
        clear w1 w2 w3
        refine wpAnyH_take (i := 0) (v := .pointer (some ⟨S, 0, none⟩)) rfl (by decide +kernel) (by decide +kernel) (by decide +kernel) (fun _ _ _ h => h) (.inl ⟨by first | rfl | (go_simp; done), fun X hX => by have hx1 := hX.1; have hx2 := hX.2.1; have hx3 := hX.2.2; clear hX; first | (go_simp; done) | (go_simp; rfl)⟩) hSS ?_
        refine wpAnyH_take (i := 1) (v := .slice (some ⟨ab, off, none⟩) ll lcap) rfl (by decide +kernel) (by decide +kernel) (by decide +kernel) (fun _ _ _ h => h) (.inl ⟨by first | rfl | (go_simp; done), fun X hX => by have hx1 := hX.1; have hx2 := hX.2.1; have hx3 := hX.2.2; clear hX; first | (go_simp; done) | (go_simp; rfl)⟩) hSS ?_
        refine wpAnyH_take (i := 2) (v := .int .i64 q) rfl (by decide +kernel) (by decide +kernel) (by decide +kernel) (fun _ _ _ h => h) (.inl ⟨by first | rfl | (go_simp; done), fun X hX => by have hx1 := hX.1; have hx2 := hX.2.1; have hx3 := hX.2.2; clear hX; first | (go_simp; done) | (go_simp; rfl)⟩) hSS ?_
        refine wpAnyH_take (i := 3) (v := .pointer (some ⟨ab, off + q * 4, none⟩)) rfl (by decide +kernel) (by decide +kernel) (by decide +kernel) (fun _ _ _ h => h) (.inl ⟨by first | rfl | (go_simp; done), fun X hX => by have hx1 := hX.1; have hx2 := hX.2.1; have hx3 := hX.2.2; clear hX; first | (go_simp; done) | (go_simp; rfl)⟩) hSS ?_
        refine wpAnyH_take (i := 4) (v := .pointer (some ⟨ab, off + q * 4 + 1, none⟩)) rfl (by decide +kernel) (by decide +kernel) (by decide +kernel) (fun _ _ _ h => h) (.inl ⟨by first | rfl | (go_simp; done), fun X hX => by have hx1 := hX.1; have hx2 := hX.2.1; have hx3 := hX.2.2; clear hX; first | (go_simp; done) | (go_simp; rfl)⟩) hSS ?_
        refine wpAnyH_take (i := 5) (v := .agg #[.int .i64 a.fr, .int .i64 a.to_]) rfl (by decide +kernel) (by decide +kernel) (by decide +kernel) (fun _ _ _ h => h) (.inl ⟨by first | rfl | (go_simp; done), fun X hX => by have hx1 := hX.1; have hx2 := hX.2.1; have hx3 := hX.2.2; clear hX; first | (go_simp; done) | (go_simp; rfl)⟩) hSS ?_
        refine wpAnyH_take (i := 6) (v := .slice (some ⟨ab, off, none⟩) ll lcap) rfl (by decide +kernel) (by decide +kernel) (by decide +kernel) (fun _ _ _ h => h) (.inl ⟨by first | rfl | (go_simp; done), fun X hX => by have hx1 := hX.1; have hx2 := hX.2.1; have hx3 := hX.2.2; clear hX; first | (go_simp; done) | (go_simp; rfl)⟩) hSS ?_
        refine wpAnyH_take (i := 7) (v := .int .i64 q) rfl (by decide +kernel) (by decide +kernel) (by decide +kernel) (fun _ _ _ h => h) (.inl ⟨by first | rfl | (go_simp; done), fun X hX => by have hx1 := hX.1; have hx2 := hX.2.1; have hx3 := hX.2.2; clear hX; first | (go_simp; done) | (go_simp; rfl)⟩) hSS ?_
        refine wpAnyH_take (i := 8) (v := .pointer (some ⟨ab, off + q * 4, none⟩)) rfl (by decide +kernel) (by decide +kernel) (by decide +kernel) (fun _ _ _ h => h) (.inl ⟨by first | rfl | (go_simp; done), fun X hX => by have hx1 := hX.1; have hx2 := hX.2.1; have hx3 := hX.2.2; clear hX; first | (go_simp; done) | (go_simp; rfl)⟩) hSS ?_
        refine wpAnyH_take (i := 9) (v := .pointer (some ⟨ab, off + q * 4 + 3, none⟩)) rfl (by decide +kernel) (by decide +kernel) (by decide +kernel) (fun _ _ _ h => h) (.inl ⟨by first | rfl | (go_simp; done), fun X hX => by have hx1 := hX.1; have hx2 := hX.2.1; have hx3 := hX.2.2; clear hX; first | (go_simp; done) | (go_simp; rfl)⟩) hSS ?_
        refine wpAnyH_take (i := 10) (v := .int .i64 a.n) rfl (by decide +kernel) (by decide +kernel) (by decide +kernel) (fun _ _ _ h => h) (.inl ⟨by first | rfl | (go_simp; done), fun X hX => by have hx1 := hX.1; have hx2 := hX.2.1; have hx3 := hX.2.2; clear hX; first | (go_simp; done) | (go_simp; rfl)⟩) hSS ?_
        refine wpAnyH_take (i := 11) (v := .int .i64 (a.n % 8)) rfl (by decide +kernel) (by decide +kernel) (by decide +kernel) (fun _ _ _ h => h) (.inl ⟨by first | rfl | (go_simp; done), fun X hX => by have hx1 := hX.1; have hx2 := hX.2.1; have hx3 := hX.2.2; clear hX; first | (go_simp; done) | (go_simp; rfl)⟩) hSS ?_
        refine anyH_call (i := 12) (by decide +kernel) rfl (by first | rfl | (go_simp; done)) (by go_simp) (add_r hu9 HRq.out (by have := HLq.out; have := pow_small hql'; omega) a.fr a.to_ (a.n % 8)) ?_
        rintro e W7 ⟨rfl, hu7, hf7⟩
        have hab := World.block_lt_of_cell? w _ hc.c1
        have hwS := HBq.out.size
        have hb7 : Below w.heap.size w W7 := Below.trans (Below.drew HBq.out) (hf7.below hwS (fun j hj => by have hj' : j = S := hj; omega))
        have hcc : ∀ o v, w.cell? ⟨ab, o, none⟩ = some v → W7.cell? ⟨ab, o, none⟩ = some v := fun o v h => (hb7.cell (p := ⟨ab, o, none⟩) hab).trans h
        have hl9 := (Array.getElem?_eq_some_iff.1 HNq.out).1
        have hn7 := (hf7.block w.heap.size hl9 (by show ¬ (w.heap.size = S); omega)).trans HNq.out
        have HN7 := Lib.hid hn7
        have HRN7 := Lib.hid (hf7.row w.heap.size hl9 (HRNq.out.below (Below.refl _ wr).drew))
        have HB7 := Lib.hid hb7
        have hch := change_right HRq.out (addF_in (byU (a.n % 8))) a.fr a.to_
        have hlen := changeU_len (addF (byU (a.n % 8))) L (a.fr, a.to_)
        have HU7 := Lib.hid hu7
        have HCH := Lib.hid hch
        have hlq := HLq.out
        have h3 : 3 ^ (q + 1) = 3 * 3 ^ q := by rw [Nat.pow_succ]; omega
        have hV : SmallU (changeU (addF (byU (a.n % 8))) L (a.fr, a.to_)) (7 * ((q + 1 : Nat) : Int)) := fun x h0 h1 => by
          have hv := HVq.out x h0 h1
          rw [HCH.out.2 x h0 h1]
          split
          · rw [add_small (by omega) (by omega)]; omega
          · omega
        have HV7 := Lib.hid hV
        clear hn7 hb7 hch hV hu7
        refine ⟨_, rfl, ⟨hcc _ _ hc.c1, hcc _ _ hc.c2, hcc _ _ hc.c3⟩, ?_⟩
        refine wpAnyH_done (by decide +kernel) ?_ _
        go_wp2_with fail
        go_wp2_with fail
        exact ⟨⟨q + 1, _, by omega, by omega, rfl, HU7.out, HCH.out.1, by omega, HV7.out, HB7.out, HN7.out, HRN7.out⟩, by show 12 - ((q : Int) + 1).toNat < 12 - ((q : Int)).toNat; omega⟩
      case neg =>
        have hsm : SmallU L 84 := fun x h0 h1 => by have := HVq.out x h0 h1; omega
        have hpw := pow_small (show q ≤ 16 by omega)
        by_cases hl1 : q < ll
        case pos =>
          have hd1 : decide (q < ll) = true := decide_eq_true hl1
          have hd2 : decide ((q : Int) < 12) = false := decide_eq_false (by omega)
          go_wp2_with fail
          go_meet
          exact ⟨L, HUq.out, HRq.out, Nat.le_trans HLq.out hpw, hsm, HBq.out, HNq.out, HRNq.out⟩
        case neg =>
          have hd1 : decide (q < ll) = false := decide_eq_false hl1
          go_wp2_with fail
          go_meet
          exact ⟨L, HUq.out, HRq.out, Nat.le_trans HLq.out hpw, hsm, HBq.out, HNq.out, HRNq.out⟩
  case rest =>
  obtain ⟨L, hu, hr, hl, hv, hb, hn, hrn⟩ := hcut
  have HR := Lib.hid hr
  have HLn := Lib.hid hl
  have HV := Lib.hid hv
  have HBc := Lib.hid hb
  have HUc := Lib.hid hu
  clear hr hl hv hu HU HB HN
  have c0 := cell_of_block (o := 0) hn rfl
  have c1 := cell_of_block (o := 1) hn rfl
  have v0 := free_of_block 0 hn
  have v1 := free_of_block 1 hn
  have hlc := (Array.getElem?_eq_some_iff.1 hn).1
  have KCl := Lib.hid (fun n W => clamp_any n W)
  have m1 : bits .and .i64 (clampI f) 65535 = clampI f % 65536 := mask_65535 _
  have m2 : bits .and .i64 (clampI t) 65535 = clampI t % 65536 := mask_65535 _
  obtain ⟨F, hF⟩ : ∃ F, F = clampI f % 65536 := ⟨_, rfl⟩
  obtain ⟨T, hT⟩ : ∃ T, T = clampI t % 65536 := ⟨_, rfl⟩
  rw [← hF] at m1
  rw [← hT] at m2
  have hFb : 0 ≤ F ∧ F ≤ 65535 := by omega
  have hTb : 0 ≤ T ∧ T ≤ 65535 := by omega
  have HN := Lib.hid hn
  clear hF hT hb HRN
  have hwr := ((wrote_refl hn).set 0 (.int .i64 F)).set 1 (.int .i64 T)
  have hn7 := (((Below.refl _ _).drew : Below _ _ ((wc.setCell ⟨w.heap.size, 0, none⟩ (.int .i64 F)).setCell ⟨w.heap.size, 1, none⟩ (.int .i64 T)).drew).block _ (Array.getElem?_eq_some_iff.1 hwr.there).1).trans hwr.there
  have h7 := (HUc.out.wrote hrn (by omega) (fun k hk => hwr.rest k hk) (by rw [hwr.size]; exact Nat.le_refl _)).1.below (Below.refl _ _).drew
  have HB7 := Lib.hid (Below.drew (hwr.below HBc.out (by omega)))
  have HU7 := Lib.hid h7
  have HN7 := Lib.hid hn7
  clear hwr h7 hn7 hn hrn
  go_upto_region 6 with fail
  refine wp_region_grow_tail 9 (fun w' => w' = wc.drew) hmx (by kernel_rfl) rfl ?_
  simp only [List.take_succ_cons, List.take_zero, List.drop_succ_cons, List.drop_zero]
  iterate 2 (refine textS_run ?_ ?_ (fun W hS => ?_) ?_; rotate_left; (focus go_simp); (focus (subst hS; go_simp; all_goals (first | exact ⟨rfl, rfl⟩ | rfl | (refine ⟨?_, rfl⟩; rfl)))); (try go_simp))
  (refine textS_run ?_ ?_ (fun W hS => ?_) ?_; rotate_left; (focus go_simp); (focus (subst hS; go_simp; refine (KCl.out f _).mono ?_; rintro e w1 ⟨rfl, rfl⟩; refine ⟨?_, ?_⟩; (focus rfl); (focus rfl))); (try go_simp))
  iterate 3 (refine textS_run ?_ ?_ (fun W hS => ?_) ?_; rotate_left; (focus go_simp); (focus (subst hS; go_simp; all_goals (first | exact ⟨rfl, rfl⟩ | rfl | (refine ⟨?_, rfl⟩; rfl)))); (try go_simp))
  (refine textS_run ?_ ?_ (fun W hS => ?_) ?_; rotate_left; (focus go_simp); (focus (subst hS; go_simp; refine (KCl.out t _).mono ?_; rintro e w1 ⟨rfl, rfl⟩; refine ⟨?_, ?_⟩; (focus rfl); (focus rfl))); (try go_simp))
  iterate 2 (refine textS_run ?_ ?_ (fun W hS => ?_) ?_; rotate_left; (focus go_simp); (focus (subst hS; go_simp; all_goals (first | exact ⟨rfl, rfl⟩ | rfl | (refine ⟨?_, rfl⟩; rfl)))); (try go_simp))
  refine textS_nil ?_
  go_upto_region 7 with fail
  clear c0 c1 v0 v1
  generalize ((wc.setCell ⟨w.heap.size, 0, none⟩ (.int .i64 F)).setCell ⟨w.heap.size, 1, none⟩ (.int .i64 T)).drew = W7 at *
  have d0 := cell_of_block (o := 0) HN7.out rfl
  have d1 := cell_of_block (o := 1) HN7.out rfl
  have hw7 := (Array.getElem?_eq_some_iff.1 HN7.out).1
  have hcb := clampI_bounds cut
  go_cut [2] (fun s wx => ∃ c : Int, s = .int .i64 c ∧ ((F ≤ c ∧ c ≤ T) ∨ (T ≤ F ∧ c = F)) ∧ Below W7.heap.size W7 wx)
  case first =>
    refine Rl.wp_region_rel (fun a b => Below a.heap.size a b) W7 (fun a b c h h' => below_next h h') (fun a => Below.refl _ _) hmx (by kernel_rfl) (Below.refl _ _).drew ?_
    (refine Rl.textR_run ?_ (fun ρ => ?_) (fun ρ W hS hd => ?_) ?_; rotate_left; (focus go_simp); (focus (obtain ⟨hc, hf⟩ := bcell hS; go_simp; first | exact ⟨rfl, Below.refl _ _⟩ | (refine ⟨?_, Below.refl _ _⟩; rfl))); (try go_simp))
    (refine Rl.textR_run ?_ (fun ρ => ?_) (fun ρ W hS hd => ?_) ?_; rotate_left; (focus go_simp); (focus (obtain ⟨hc, hf⟩ := bcell hS; go_simp; refine (KCl.out cut _).mono ?_; rintro e w1 ⟨rfl, rfl⟩; refine ⟨_, rfl, ?_, Below.refl _ _⟩; rfl)); (try go_simp))
    iterate 10 (refine Rl.textR_run ?_ (fun ρ => ?_) (fun ρ W hS hd => ?_) ?_; rotate_left; (focus go_simp); (focus (obtain ⟨hc, hf⟩ := bcell hS; go_simp; first | exact ⟨rfl, Below.refl _ _⟩ | (refine ⟨?_, Below.refl _ _⟩; rfl))); (try go_simp))
    refine Rl.textR_nil ?_
    intro ρ w1 hg hk1
    dsimp only
    go_wp2_with fail
    go_meet
    refine ⟨_, rfl, ?_, hg⟩
    unfold mmMin mmMax
    repeat' split
    all_goals omega
  case rest =>
  obtain ⟨c, rfl, hc, hb8⟩ := hcut
  rename_i W8
  have hcF : 0 ≤ c ∧ c ≤ 65535 := by omega
  have HU8 := Lib.hid (HU7.out.below hb8)
  have HB8 := Lib.hid (below_next HB7.out hb8)
  have n8 := (hb8.block _ hw7).trans HN7.out
  have hw8 := (Array.getElem?_eq_some_iff.1 n8).1
  have HN8 := Lib.hid n8
  have e0 := cell_of_block (o := 0) n8 rfl
  have e1 := cell_of_block (o := 1) n8 rfl
  have hsm : SmallU L 1000 := fun x h0 h1 => by have := HV.out x h0 h1; omega
  have hpart := areas_part HR.out hsm (F := F) (T := T) (c := c) hFb hTb hc
  have hA0 := area_small HR.out hsm (F := F) (T := T) (by omega) (by omega)
  have hA1 := area_small HR.out hsm (F := F) (T := c) (by omega) (by omega)
  have hA2 := area_small HR.out hsm (F := c) (T := T) (by omega) (by omega)
  have KA0 := Lib.hid (fun W S (h : USt W S L) f t => area_any h f t)
  obtain ⟨a1, ha1⟩ : ∃ a, a = areaU L (F, c) := ⟨_, rfl⟩
  obtain ⟨a2, ha2⟩ : ∃ a, a = areaU L (c, T) := ⟨_, rfl⟩
  have hb1 : 0 ≤ a1 ∧ a1 ≤ 65536000 := by rw [ha1, hA1.1]; exact hA1.2
  have hb2 : 0 ≤ a2 ∧ a2 ≤ 65536000 := by rw [ha2, hA2.1]; exact hA2.2
  have HP := Lib.hid (show areaU L (F, T) = a1 + a2 by rw [ha1, ha2]; exact hpart)
  have HA1 := Lib.hid ha1.symm
  have HA2 := Lib.hid ha2.symm
  have hwa : IntKind.i64.wrap (a1 + a2) = a1 + a2 := by rw [IntKind.wrap_i64]; omega
  clear hpart hA0 hA1 hA2 ha1 ha2 n8 d0 d1 hb8
  have k8 := area_any HU8.out F T
  rw [HP.out] at k8
  have K8 := Lib.hid k8
  clear k8
  go_wp2_with fail
  refine K8.out.mono ?_
  rintro e W9 ⟨rfl, hb9⟩
  have HU9 := Lib.hid (HU8.out.below hb9)
  have HB9 := Lib.hid (below_next HB8.out hb9)
  have n9 := (hb9.block _ hw8).trans HN8.out
  have hw9 := (Array.getElem?_eq_some_iff.1 n9).1
  have HN9 := Lib.hid n9
  have f0 := cell_of_block (o := 0) n9 rfl
  have f1 := cell_of_block (o := 1) n9 rfl
  clear n9 e0 e1 hb9
  have KF := Lib.hid (fun W (hb : Below W9.heap.size W9 W) => (show Calls Try.prog 20 #[.pointer (some ⟨S, 0, none⟩), .agg #[.int .i64 F, .int .i64 c]] W fun e w' => e = .returned (.int .i64 a1) ∧ Below W.heap.size W w' from HA1.out ▸ area_any (HU9.out.below hb) F c))
  have KG := Lib.hid (fun W (hb : Below W9.heap.size W9 W) => (show Calls Try.prog 20 #[.pointer (some ⟨S, 0, none⟩), .agg #[.int .i64 c, .int .i64 T]] W fun e w' => e = .returned (.int .i64 a2) ∧ Below W.heap.size W w' from HA2.out ▸ area_any (HU9.out.below hb) c T))
  go_upto_region 9 with fail
  refine Rl.wp_region_rel (fun a b => Below a.heap.size a b) W9 (fun a b c h h' => below_next h h') (fun a => Below.refl _ _) hmx (by kernel_rfl) (Below.refl _ _).drew ?_
  iterate 6 (refine Rl.textR_run ?_ (fun ρ => ?_) (fun ρ W hS hd => ?_) ?_; rotate_left; (focus go_simp); (focus (obtain ⟨hc, hf⟩ := bcell hS; go_simp; first | exact ⟨rfl, Below.refl _ _⟩ | (refine ⟨?_, Below.refl _ _⟩; rfl))); (try go_simp))
  (refine Rl.textR_run ?_ (fun ρ => ?_) (fun ρ W hS hd => ?_) ?_; rotate_left; (focus go_simp); (focus (obtain ⟨hc, hf⟩ := bcell hS; go_simp; refine (KF.out _ hS).mono ?_; rintro e w1 ⟨rfl, hb⟩; refine ⟨_, rfl, ?_, hb⟩; rfl)); (try go_simp))
  iterate 5 (refine Rl.textR_run ?_ (fun ρ => ?_) (fun ρ W hS hd => ?_) ?_; rotate_left; (focus go_simp); (focus (obtain ⟨hc, hf⟩ := bcell hS; go_simp; first | exact ⟨rfl, Below.refl _ _⟩ | (refine ⟨?_, Below.refl _ _⟩; rfl))); (try go_simp))
  (refine Rl.textR_run ?_ (fun ρ => ?_) (fun ρ W hS hd => ?_) ?_; rotate_left; (focus go_simp); (focus (obtain ⟨hc, hf⟩ := bcell hS; go_simp; refine (KG.out _ hS).mono ?_; rintro e w1 ⟨rfl, hb⟩; refine ⟨_, rfl, ?_, hb⟩; rfl)); (try go_simp))
  iterate 2 (refine Rl.textR_run ?_ (fun ρ => ?_) (fun ρ W hS hd => ?_) ?_; rotate_left; (focus go_simp); (focus (obtain ⟨hc, hf⟩ := bcell hS; go_simp; first | exact ⟨rfl, Below.refl _ _⟩ | (refine ⟨?_, Below.refl _ _⟩; rfl))); (try go_simp))
  refine Rl.textR_nil ?_
  intro ρ W10 hg10 hk10
  dsimp only
  have HU10 := Lib.hid (HU9.out.below hg10)
  have HB10 := Lib.hid (below_next HB9.out hg10)
  have n10 := (hg10.block _ hw9).trans HN9.out
  have hw10 := (Array.getElem?_eq_some_iff.1 n10).1
  have HN10 := Lib.hid n10
  clear hg10 hk10 f0 f1 n10 KF KG
  go_wp2_with fail
  refine (clone_any HU10.out).mono ?_
  rintro e W11 ⟨M, rfl, hM, hm11, hb11⟩
  have HM11 := Lib.hid hm11
  have HU11 := Lib.hid (HU10.out.below hb11)
  have HB11 := Lib.hid (below_next HB10.out hb11)
  have n11 := (hb11.block _ hw10).trans HN10.out
  have hSM : S ≠ M := by
    obtain ⟨g, cc, _, hs, _⟩ := HU10.out.at_
    have := (Array.getElem?_eq_some_iff.1 hs).1
    omega
  have hwM : w.heap.size < M := by have := HB10.out.size; omega
  have HN11 := Lib.hid n11
  have e0 := cell_of_block (o := 0) n11 rfl
  have e1 := cell_of_block (o := 1) n11 rfl
  clear hm11 hb11 n11
  go_wp2_with fail
  refine (add_r HM11.out HR.out (by have := HLn.out; omega) F T 1).mono ?_
  rintro e W12 ⟨rfl, hm12, hf12⟩
  have HU12 := Lib.hid (HM11.out.other HU11.out hSM hf12.toFr)
  have hs11 := HB11.out.size
  have HB12 := Lib.hid (Below.trans HB11.out (hf12.below hs11 (fun j hj => by have hj' : j = M := hj; omega)))
  have n12 := (hf12.block w.heap.size (Array.getElem?_eq_some_iff.1 HN11.out).1 (by show ¬ (w.heap.size = M); omega)).trans HN11.out
  have hw12 := (Array.getElem?_eq_some_iff.1 n12).1
  have hch := change_right HR.out (addF_in (byU 1)) F T
  have hmo : MoreU L (changeU (addF (byU 1)) L (F, T)) F T 1 := fun x h0 h1 => by
    rw [hch.2 x h0 h1]
    have := HV.out x h0 h1
    rw [add_small (by omega) (by omega)]
  have hmore := areas_more HR.out hch.1 (fun x h0 h1 => by have := HV.out x h0 h1; omega) hFb hTb hmo
  rw [HP.out] at hmore
  obtain ⟨ln, hln⟩ : ∃ l, l = lenI (F, T) := ⟨_, rfl⟩
  have hlb : 0 ≤ ln ∧ ln ≤ 65536 := by
    rw [hln]
    unfold lenI subI
    simp only
    rw [clampI_of hFb.1 (by omega), clampI_of hTb.1 (by omega)]
    split
    · omega
    · rw [if_neg (by omega), if_neg (by omega), clampI_of (by omega) (by omega)]; omega
  rw [← hln] at hmore
  have HLN := Lib.hid hln.symm
  have HMO := Lib.hid hmore
  have HM12 := Lib.hid hm12
  have HN12 := Lib.hid n12
  have f0 := cell_of_block (o := 0) n12 rfl
  have f1 := cell_of_block (o := 1) n12 rfl
  clear hm12 hf12 n12 hmo hmore hch hln e0 e1
  have hwl : IntKind.i64.wrap (a1 + a2 + ln) = a1 + a2 + ln := by rw [IntKind.wrap_i64]; omega
  have KF := Lib.hid (fun W (hb : Below W12.heap.size W12 W) => (show Calls Try.prog 20 #[.pointer (some ⟨M, 0, none⟩), .agg #[.int .i64 F, .int .i64 T]] W fun e w' => e = .returned (.int .i64 (a1 + a2 + ln)) ∧ Below W.heap.size W w' from HMO.out ▸ area_any (HM12.out.below hb) F T))
  have KG := Lib.hid (fun W => (show Calls Try.prog 33 #[.agg #[.int .i64 F, .int .i64 T]] W fun e w' => e = .returned (.int .i64 ln) ∧ Below W.heap.size W w' from HLN.out ▸ len_any F T W))
  generalize changeU (addF (byU 1)) L (F, T) = B2 at *
  go_upto_region 13 with fail
  refine Rl.wp_region_rel (fun a b => Below a.heap.size a b) W12 (fun a b c h h' => below_next h h') (fun a => Below.refl _ _) hmx (by kernel_rfl) (Below.refl _ _).drew ?_
  iterate 2 (refine Rl.textR_run ?_ (fun ρ => ?_) (fun ρ W hS hd => ?_) ?_; rotate_left; (focus go_simp); (focus (obtain ⟨hc, hf⟩ := bcell hS; go_simp; first | exact ⟨rfl, Below.refl _ _⟩ | (refine ⟨?_, Below.refl _ _⟩; rfl))); (try go_simp))
  (refine Rl.textR_run ?_ (fun ρ => ?_) (fun ρ W hS hd => ?_) ?_; rotate_left; (focus go_simp); (focus (obtain ⟨hc, hf⟩ := bcell hS; go_simp; refine (KF.out _ hS).mono ?_; rintro e w1 ⟨rfl, hb⟩; refine ⟨_, rfl, ?_, hb⟩; rfl)); (try go_simp))
  iterate 2 (refine Rl.textR_run ?_ (fun ρ => ?_) (fun ρ W hS hd => ?_) ?_; rotate_left; (focus go_simp); (focus (obtain ⟨hc, hf⟩ := bcell hS; go_simp; first | exact ⟨rfl, Below.refl _ _⟩ | (refine ⟨?_, Below.refl _ _⟩; rfl))); (try go_simp))
  (refine Rl.textR_run ?_ (fun ρ => ?_) (fun ρ W hS hd => ?_) ?_; rotate_left; (focus go_simp); (focus (obtain ⟨hc, hf⟩ := bcell hS; go_simp; refine (KG.out _).mono ?_; rintro e w1 ⟨rfl, hb⟩; refine ⟨_, rfl, ?_, hb⟩; rfl)); (try go_simp))
  iterate 2 (refine Rl.textR_run ?_ (fun ρ => ?_) (fun ρ W hS hd => ?_) ?_; rotate_left; (focus go_simp); (focus (obtain ⟨hc, hf⟩ := bcell hS; go_simp; first | exact ⟨rfl, Below.refl _ _⟩ | (refine ⟨?_, Below.refl _ _⟩; rfl))); (try go_simp))
  refine Rl.textR_nil ?_
  intro ρ W13 hg13 hk13
  dsimp only
  have HU13 := Lib.hid (HU12.out.below hg13)
  have HB13 := Lib.hid (below_next HB12.out hg13)
  clear hg13 hk13 f0 f1 KF KG
  obtain ⟨v, hv⟩ : ∃ v, v = atU L c := ⟨_, rfl⟩
  obtain ⟨v9, hv9⟩ : ∃ v, v = atU L (c + 9) := ⟨_, rfl⟩
  have hfo := forget_at HR.out hcF.1 hcF.2
  rw [← hv, ← hv9] at hfo
  have HFO := Lib.hid hfo
  have k1 := at_any HU13.out c
  rw [← hv] at k1
  have K13 := Lib.hid k1
  have hw9 : IntKind.i64.wrap (c + 9) = c + 9 := by rw [IntKind.wrap_i64]; omega
  have hw1 : IntKind.i64.wrap (c + 1) = c + 1 := by rw [IntKind.wrap_i64]; omega
  have HV9 := Lib.hid hv9.symm
  clear hv hv9 hfo k1
  go_wp2_with fail
  refine K13.out.mono ?_
  rintro e W14 ⟨rfl, hb14⟩
  have HU14 := Lib.hid (HU13.out.below hb14)
  have HB14 := Lib.hid (below_next HB13.out hb14)
  have K14 := Lib.hid (show Calls Try.prog 16 #[.pointer (some ⟨S, 0, none⟩), .int .i64 (c + 9)] W14 fun e w' => e = .returned (.int .i64 v9) ∧ Below W14.heap.size W14 w' from HV9.out ▸ at_any HU14.out (c + 9))
  clear hb14
  go_wp2_with fail
  refine K14.out.mono ?_
  rintro e W15 ⟨rfl, hb15⟩
  have HU15 := Lib.hid (HU14.out.below hb15)
  have HB15 := Lib.hid (below_next HB14.out hb15)
  clear hb15
  go_wp2_with fail
  refine (forget_any HU15.out HR.out (by have := HLn.out; omega) c).mono ?_
  rintro e W16 ⟨rfl, hu16, hf16⟩
  have hs15 := HB15.out.size
  have HU16 := Lib.hid hu16
  have HB16 := Lib.hid (Below.trans HB15.out (hf16.below hs15 (fun j hj => by have hj' : j = S := hj; omega)))
  clear hu16 hf16
  have KQ0 := Lib.hid (fun W (h : USt W S (forgetU L c)) => (show Calls Try.prog 16 #[.pointer (some ⟨S, 0, none⟩), .int .i64 0] W fun e w' => e = .returned (.int .i64 v) ∧ Below W.heap.size W w' from HFO.out.1 ▸ at_any h 0))
  have KQ1 := Lib.hid (fun W (h : USt W S (forgetU L c)) => (show Calls Try.prog 16 #[.pointer (some ⟨S, 0, none⟩), .int .i64 c] W fun e w' => e = .returned (.int .i64 v) ∧ Below W.heap.size W w' from HFO.out.2.1 ▸ at_any h c))
  have KQ2 := Lib.hid (fun W (h : USt W S (forgetU L c)) => (show Calls Try.prog 16 #[.pointer (some ⟨S, 0, none⟩), .int .i64 (c + 9)] W fun e w' => e = .returned (.int .i64 v9) ∧ Below W.heap.size W w' from HFO.out.2.2.1 ▸ at_any h (c + 9)))
  have KQ3 := Lib.hid (fun W (h : USt W S (forgetU L c)) => (show Calls Try.prog 19 #[.pointer (some ⟨S, 0, none⟩), .agg #[.int .i64 0, .int .i64 (c + 1)]] W fun e w' => e = .returned (.int .i64 v) ∧ Below W.heap.size W w' from HFO.out.2.2.2 ▸ most_any h 0 (c + 1)))
  generalize forgetU L c = L2 at *
  go_wp2_with fail
  refine (KQ0.out _ HU16.out).mono ?_
  rintro e W17 ⟨rfl, hb17⟩
  have HU17 := Lib.hid (HU16.out.below hb17)
  have HB17 := Lib.hid (below_next HB16.out hb17)
  clear hb17
  go_wp2_with fail
  refine (KQ1.out _ HU17.out).mono ?_
  rintro e W18 ⟨rfl, hb18⟩
  have HU18 := Lib.hid (HU17.out.below hb18)
  have HB18 := Lib.hid (below_next HB17.out hb18)
  clear hb18
  go_wp2_with fail
  refine (KQ2.out _ HU18.out).mono ?_
  rintro e W19 ⟨rfl, hb19⟩
  have HU19 := Lib.hid (HU18.out.below hb19)
  have HB19 := Lib.hid (below_next HB18.out hb19)
  clear hb19
  go_wp2_with fail
  refine (KQ3.out _ HU19.out).mono ?_
  rintro e W20 ⟨rfl, hb20⟩
  have HB20 := Lib.hid (below_next HB19.out hb20)
  clear hb20
  go_wp2_with fail
  refine (K1.out _).mono ?_
  rintro e W21 ⟨rfl, hb21⟩
  have HB21 := Lib.hid (below_next HB20.out hb21)
  clear hb21
  go_wp2_with fail
  go_ret
  exact ⟨rfl, HB21.out⟩
end Go.Proofs.Ythdljigcfhjikaa
