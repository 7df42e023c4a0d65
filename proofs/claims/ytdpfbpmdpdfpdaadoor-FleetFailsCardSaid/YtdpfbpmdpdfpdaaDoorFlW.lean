/- The nodes of a fleet that are as a visitor asks (where), and those of a state. Condition: math/bits' table of trailing zeros lies as its text lays it. -/
import Derived.Test.YtdpfbpmdpdfpdaaDoorFlA
import Derived.Test.YtdpfbpmdpdfpdaaDoorBitsText
namespace Go.Proofs.YtdpfbpmdpdfpdaaDoor
set_option linter.unusedVariables false
open Go.RowKit Go.Shelf
attribute [local go_sem] Oper.semAt_some
attribute [local go_sem ↓] comesTo_value_eq comesTo_skip_eq comesTo_enter_eq

/-- one of the first m -/
abbrev Nm (m : Nat) := { x : Int // 0 ≤ x ∧ x < (m : Int) }
def valm {m : Nat} (l : List (Nm m)) : List Int := l.map (·.1)
theorem valm_snoc {m : Nat} (l : List (Nm m)) (x : Nm m) : valm (l ++ [x]) = valm l ++ [x.1] := by simp [valm]
theorem valm_length {m : Nat} (l : List (Nm m)) : (valm l).length = l.length := by simp [valm]
theorem lowI_first {m : Nat} {r : NSet} (hr : r ≠ 0#64) (hs : Sub r (firstI m)) : 0 ≤ lowI r ∧ lowI r < (m : Int) := by
  obtain ⟨i, e, hi, hg⟩ := low_get hr
  have := sub_iff.1 hs i hi hg
  rw [firstI_get _ _ hi, decide_eq_true_eq] at this
  omega
theorem restS_sub (r : NSet) : Sub (restS r) r := sub_iff.2 fun i hi h => by
  unfold restS at h
  rw [get_diff _ _ _ hi, Bool.and_eq_true] at h
  exact h.1
theorem all1_nm (n : Nat) (hn : 1 ≤ n) (l Bn n₀ m : Nat) (hg : 1 < n₀) (J Jx : List (Nm m) → World → Prop)
    (hY : ∀ pre (x : Nm m) W, J pre W → pre.length < card (firstI m) → YieldAt Fence.wide (n - 1) Tryd.prog l #[.int .i64 x.1] W fun e W' =>
      (e = .returned (.bool true) ∧ J (pre ++ [x]) W' ∧ Below n₀ W W') ∨ (e = .returned (.bool false) ∧ Jx (pre ++ [x]) W'))
    (W : World) (hBn : W.cell? ⟨Bn, 0, none⟩ = some (.int .u64 (nv (firstI m)))) (hT : TabZ W) (h0 : J [] W) :
    CallsIn Fence.wide n Tryd.prog 108 #[.func (.yield l) #[] #[], .pointer (some ⟨Bn, 0, none⟩)] W fun e W' => (∃ v, e = .returned v) ∧
      ((∃ ys, valm ys = nodes (firstI m) ∧ J ys W') ∨ (∃ pre, valm pre <+: nodes (firstI m) ∧ Jx pre W')) := by
  refine callsIn_of_wp Tryd.func108 rfl trivial ?_ rfl
  simp only [Tryd.ntmps108, List.size_toArray, List.length_cons, List.length_nil, Nat.reduceAdd, Nat.reduceSub, Array.replicate_succ, Array.replicate_zero, List.push_toArray, List.append_toArray, List.nil_append, List.cons_append]
  gi_wp2
  gi_loopw [3] (fun p wr => ∃ (pre : List (Nm m)) (r : NSet), p = .int .u64 (nv r) ∧ nodes (firstI m) = valm pre ++ nodes r ∧ Sub r (firstI m) ∧ TabZ wr ∧ J pre wr)
    (fun p _ => (card (BitVec.ofInt 64 (intOf p))))
  case atStart => exact ⟨[], firstI m, rfl, rfl, sub_refl _, hT, h0⟩
  case round =>
    obtain ⟨pre, r, rfl, hx, hsb, hTr, hJs⟩ := hrel
    by_cases hr : r = 0#64
    · have hb : (nv r == 0) = true := by rw [nv_is0]; simpa using hr
      rw [hr, nodes_zero, List.append_nil] at hx
      gi_wp2
      go_end0
      exact ⟨⟨_, rfl⟩, .inl ⟨pre, hx.symm, hJs⟩⟩
    · have hb : (nv r == 0) = false := by rw [nv_is0]; simpa using hr
      have hlen : pre.length < card (firstI m) := by
        have h1 := congrArg List.length hx
        rw [nodes_length _ (firstI m) rfl, List.length_append, nodes_cons hr, List.length_cons, valm_length] at h1
        omega
      obtain ⟨fn, tmps, assign, body, hy, hR⟩ := hY pre ⟨lowI r, lowI_first hr hsb⟩ wr hJs hlen
      dsimp only at hy
      gi_wp2_with (refine ⟨trivial, ?_⟩; gi_at_call 98; refine (callsIn_wide.2 (lowest_any r _ hTr)).mono ?_; rintro e w' ⟨rfl, rfl⟩)
      refine hR.mono ?_
      rintro e W3 (⟨rfl, hJ3, hk3⟩ | ⟨rfl, hJx3⟩)
      · have hT3 := TabZ.kept hTr hg hk3
        gi_wp2_with (first | (refine ⟨trivial, ?_⟩; gi_at_call 98; refine (callsIn_wide.2 (lowest_any r _ hT3)).mono ?_; rintro e w' ⟨rfl, rfl⟩) | (refine ⟨trivial, ?_⟩; gi_at_call 93; refine (callsIn_wide.2 (without_any r (lowI r) _)).mono ?_; rintro e w' ⟨rfl, rfl⟩))
        go_roundw
        case rel => exact ⟨pre ++ [⟨lowI r, lowI_first hr hsb⟩], restS r, rfl, by rw [hx, nodes_cons hr, valm_snoc]; simp, sub_trans (restS_sub r) hsb, hT3, hJ3⟩
        case measure =>
          have := card_rest hr
          simp only [intOf, nv, BitVec.ofInt_natCast, BitVec.ofNat_toNat, BitVec.setWidth_eq]
          unfold restS at this
          omega
      · gi_wp2
        refine bodyPost_ret (results_none rfl _ _ _) rfl ?_
        exact ⟨⟨_, rfl⟩, .inr ⟨pre ++ [⟨lowI r, lowI_first hr hsb⟩], ⟨nodes (restS r), by rw [hx, nodes_cons hr, valm_snoc]; simp⟩, hJx3⟩⟩
theorem all1_first (n : Nat) (hn : 1 ≤ n) (Bn n₀ m : Nat) (hg : 1 < n₀) (w : World) (hBn : w.cell? ⟨Bn, 0, none⟩ = some (.int .u64 (nv (firstI m)))) (hT : TabZ w) :
    SeqStopsK Fence.wide n Tryd.prog 108 #[.pointer (some ⟨Bn, 0, none⟩)] (fun x : Nm m => #[.int .i64 x.1]) (Below n₀) (fun ys => valm ys = nodes (firstI m)) (fun pre => valm pre <+: nodes (firstI m)) (card (firstI m)) w := by
  intro l J Jx W hW _ _ hY h0
  exact all1_nm n hn l Bn n₀ m hg J Jx hY W ((hW.cell (p := ⟨Bn, 0, none⟩) (World.block_lt_of_cell? w _ hBn)).trans hBn) (hT.below hW) h0
theorem keepsFrom_below {W W' : World} (B : Nat) (h : Below W.heap.size W W') : KeepsFrom B W W' := ⟨h.size, fun k o _ hk _ => (h.block k (Array.getElem?_eq_some_iff.1 hk).1).trans hk⟩
theorem boxed_low {W W' : World} {B : Nat} {T : TypeId} {v : Value} (h : Boxed W B T v) (hb : Below W.heap.size W W') : Boxed W' B T v := (hb.block B h.lt).trans h
set_option maxRecDepth 100000 in
set_option maxHeartbeats 4000000 in
theorem where_any {w : World} {F G : Nat} {f : FV} (h : Fl w F G f) (hT : TabZ w) (fn : FuncId) (caps : Array Value) (p : N3 → Bool) (hE : Go.Proofs.Enters Tryd.prog fn)
    (hC : ∀ x W, Below w.heap.size w W → Calls Tryd.prog fn (#[nodeA x] ++ caps) W fun e w' => e = .returned (.bool (p x)) ∧ Below W.heap.size W w') :
    Calls Tryd.prog 77 #[.pointer (some ⟨F, 0, none⟩), .func (.func fn) #[] caps] w fun e w' => e = .returned (.int .u64 (nv (sel p f.ns))) ∧ Below w.heap.size w w' := by
  have hmx : Tryd.prog.follows .mixedOrders = true := by kernel_rfl
  have hb0 : Below w.heap.size w (((w.alloc (.cells #[.pointer (some ⟨F, 0, none⟩)] 47)).alloc (.cells #[.func (.func fn) #[] caps] 117)).alloc (.cells #[.int .u64 0] 24)) :=
    below_alloc (below_alloc (below_alloc (Below.refl _ w) _) _) _
  have bP := Boxed.new w 47 (.pointer (some ⟨F, 0, none⟩))
  have bF := Boxed.new (w.alloc (.cells #[.pointer (some ⟨F, 0, none⟩)] 47)) 117 (.func (.func fn) #[] caps)
  rw [World.size_alloc] at bF
  have bS := Boxed.new ((w.alloc (.cells #[.pointer (some ⟨F, 0, none⟩)] 47)).alloc (.cells #[.func (.func fn) #[] caps] 117)) 24 (.int .u64 0)
  rw [World.size_alloc, World.size_alloc] at bS
  have bP2 := (bP.alloc (.cells #[.func (.func fn) #[] caps] 117)).alloc (.cells #[.int .u64 0] 24)
  have bF2 := bF.alloc (.cells #[.int .u64 0] 24)
  have hz : (((w.alloc (.cells #[.pointer (some ⟨F, 0, none⟩)] 47)).alloc (.cells #[.func (.func fn) #[] caps] 117)).alloc (.cells #[.int .u64 0] 24)).heap.size = w.heap.size + 1 + 1 + 1 := by simp
  clear bP bF
  refine (callsIn_wide (n := 3)).1 ?_
  refine callsIn_of_wp_marks Tryd.func77 rfl trivial ?_ rfl
  simp only [Tryd.ntmps77, List.size_toArray, List.length_cons, List.length_nil, Nat.reduceAdd, Nat.reduceSub, Array.replicate_succ, Array.replicate_zero, List.push_toArray, List.append_toArray, List.nil_append, List.cons_append]
  have hcP := bP2.cell
  have KL := Lib.hid (flen_fl (h.below hb0))
  have KFi := Lib.hid (fun W => first_any f.ns.length W)
  have KAl := Lib.hid (fun W => all_any (firstI f.ns.length) W)
  gi_wp2_with (first | (refine ⟨trivial, ?_⟩; gi_at_call 36; refine (callsIn_wide.2 KL.out).mono ?_; rintro e w' ⟨rfl, rfl⟩) | (refine ⟨trivial, ?_⟩; gi_at_call 56; refine (callsIn_wide.2 (KFi.out _)).mono ?_; rintro e w' ⟨rfl, rfl⟩) | (refine ⟨trivial, ?_⟩; gi_at_call 100; refine (callsIn_wide.2 (KAl.out _)).mono ?_; rintro e w' ⟨rfl, rfl⟩))
  have bA := Boxed.new (((w.alloc (.cells #[.pointer (some ⟨F, 0, none⟩)] 47)).alloc (.cells #[.func (.func fn) #[] caps] 117)).alloc (.cells #[.int .u64 0] 24)) 24 (.int .u64 (nv (firstI f.ns.length)))
  rw [hz] at bA
  have hB1 := below_alloc hb0 (.cells #[.int .u64 (nv (firstI f.ns.length))] 24)
  have H := Lib.hid h
  have HC := Lib.hid hC
  have HE := hE
  unfold Go.Proofs.Enters at HE
  refine wpIn_rangeFunc_ownG rfl (by omega) (gf := 108) (lb := #[.pointer (some ⟨w.heap.size + 1 + 1 + 1, 0, none⟩)]) rfl trivial (enters_of Tryd.func108 (by kernel_rfl) rfl)
    (all1_first _ (by omega) (w.heap.size + 1 + 1 + 1) w.heap.size f.ns.length hT.1 _ bA.cell (hT.below hB1)) belowK_t (belowK_b (by simp; omega)) (Below.refl _ _) (fun _ => rfl)
    (fun (pre : List (Nm f.ns.length)) X => (Boxed X (w.heap.size + 1 + 1) 24 (.int .u64 (nv (selL p f.ns (valm pre)))) ∧ Boxed X w.heap.size 47 (.pointer (some ⟨F, 0, none⟩)) ∧ Boxed X (w.heap.size + 1) 117 (.func (.func fn) #[] caps)) ∧ Below w.heap.size w X)
    (fun _ _ _ => False)
    (OwnFrom.and (Own.from (fun s' X Y row hs' hg hr => ⟨boxed_own (w.heap.size + 1 + 1) 24 (fun pre : List (Nm f.ns.length) => .int .u64 (nv (selL p f.ns (valm pre)))) s' X Y row hs'.1 hg hr, boxed_own w.heap.size 47 (fun _ : List (Nm f.ns.length) => .pointer (some ⟨F, 0, none⟩)) s' X Y row hs'.2.1 hg hr, boxed_own (w.heap.size + 1) 117 (fun _ : List (Nm f.ns.length) => .func (.func fn) #[] caps) s' X Y row hs'.2.2 hg hr⟩) _) (ownFrom_below (Nat.le_refl _) (by simp; omega)))
    (fun _ _ _ _ _ hs _ _ => hs)
    ⟨⟨bS.alloc _, bP2.alloc _, bF2.alloc _⟩, hB1⟩
    (fun x => { tmps := #[.pointer (some ⟨F, 0, none⟩), .func (.func fn) #[] caps, .pointer (some ⟨w.heap.size, 0, none⟩), .pointer (some ⟨w.heap.size + 1, 0, none⟩), .int .u64 0, .pointer (some ⟨w.heap.size + 1 + 1, 0, none⟩), .int .i64 x.1, .pointer (some ⟨F, 0, none⟩), .int .i64 f.ns.length, .int .u64 (nv (firstI f.ns.length)), .func (.func 108) #[] #[.pointer (some ⟨w.heap.size + 1 + 1 + 1, 0, none⟩)], .int .i64 x.1, undef, undef, undef, undef, undef, undef, undef, undef, undef, undef, undef, undef, undef], defers := [] }) ?assign ?body ?done ?stop
  case assign =>
    intro l x W K hK
    gi_wp2
    exact hK
  case body =>
    clear hb0 bS bP2 bF2 hz hcP KL KFi KAl bA hB1 h hC hT
    rintro l pre x X ⟨⟨hS, hP, hFb⟩, hB⟩ hlt
    obtain ⟨x, hx0, hx1⟩ := x
    obtain ⟨k, rfl⟩ : ∃ k : Nat, x = (k : Int) := ⟨x.toNat, by omega⟩
    have hk : k < f.ns.length := by omega
    have hX := H.out.below hB
    have hFlt := hX.lt.1
    have hGlt := hX.lt.2
    have c3 := hX.c3
    obtain ⟨n0, n1, n2⟩ := hX.node hk
    have EV := Lib.hid (selL_snoc p f.ns (valm pre) k)
    unfold selF at EV
    rw [show ((k : Int)).toNat = k from rfl] at EV
    have KV := Lib.hid (fun W (hW : Below X.heap.size X W) => HC.out (f.ns.getD k (0, 0, 0)) W (below_next hB hW))
    unfold nodeA at KV
    generalize f.ns.getD k (0, 0, 0) = nd at *
    obtain ⟨t, m, b⟩ := nd
    dsimp only at n0 n1 n2 EV KV
    have KWi := Lib.hid (fun W => with_any (selL p f.ns (valm pre)) k W)
    have hcS := hS.cell
    have hcP := hP.cell
    have hcF := hFb.cell
    have hltP := hP.lt
    have hltF := hFb.lt
    have hltS := hS.lt
    clear hX H HC
    generalize f.ns.length = nn at *
    gi_wp2_with fail
    refine wpIn_region_grow (WideF.round l) (fun w' => Below X.heap.size X w') hmx (by kernel_rfl) (by kernel_rfl) (Below.refl _ _).drew ?_
    iterate 8 (refine textS_run ?_ ?_ (fun W hS => ?_) ?_; rotate_left; (focus go_simp); (focus (obtain ⟨hc, hf⟩ := bcell hS; go_simp; first | rfl | exact ⟨rfl, hS⟩ | exact hS)); (try go_simp))
    (refine textS_run ?_ ?_ (fun W hS => ?_) ?_; rotate_left; (focus go_simp); (focus (obtain ⟨hc, hf⟩ := bcell hS; go_simp; refine (KV.out W hS).mono ?_; rintro e w1 ⟨rfl, hb⟩; refine ⟨?_, hS.trans (hb.mono hS.size)⟩; rfl)); (try go_simp))
    refine textS_nil ?_
    intro X2 hX2
    have hS2 := boxed_low hS hX2
    have hP2 := boxed_low hP hX2
    have hF2 := boxed_low hFb hX2
    have hbw : Below w.heap.size w X2 := below_next hB hX2
    have HX2 := Lib.hid hX2
    clear c3 n0 n1 n2 hcS hcP hcF hX2
    have hcS := hS2.cell
    have hfS := hS2.frozen
    obtain ⟨bp, hbp⟩ : ∃ bp, bp = p (t, m, b) := ⟨_, rfl⟩
    rw [← hbp] at EV ⊢
    clear hbp
    cases bp with
    | true =>
      gi_wp2_with (refine ⟨trivial, ?_⟩; gi_at_call 91; refine (CallsIn.inRound l (callsIn_wide.2 (KWi.out _))).mono ?_; rintro e w' ⟨rfl, rfl⟩)
      have hKo := KeepsOthers.setCell X2 ⟨w.heap.size + 1 + 1, 0, none⟩ (.int .u64 (nv (selL p f.ns (valm pre) ||| oneI k)))
      have hBo := (Below.refl w.heap.size X2).setCell (p := ⟨w.heap.size + 1 + 1, 0, none⟩) (by simp; omega) (.int .u64 (nv (selL p f.ns (valm pre) ||| oneI k)))
      have hS3 := Boxed.set (.int .u64 (nv (selL p f.ns (valm pre) ||| oneI k))) hS2
      have hP3 := Boxed.other (B' := w.heap.size + 1 + 1) hP2 (by omega) (.int .u64 (nv (selL p f.ns (valm pre) ||| oneI k)))
      have hF3 := Boxed.other (B' := w.heap.size + 1 + 1) hF2 (by omega) (.int .u64 (nv (selL p f.ns (valm pre) ||| oneI k)))
      refine ⟨(keepsFrom_below _ HX2.out).trans (hKo.from _), (HX2.out.mono hB.size).trans hBo, ⟨?_, hP3, hF3⟩, hbw.trans hBo⟩
      rw [valm_snoc, EV.out, if_pos trivial]; exact hS3
    | false =>
      gi_wp2
      refine ⟨keepsFrom_below _ HX2.out, HX2.out.mono hB.size, ⟨?_, hP2, hF2⟩, hbw⟩
      rw [valm_snoc, EV.out, if_neg (by simp)]; exact hS2
  case done =>
    rintro D ys W hD hys ⟨⟨hS, _, _⟩, hB⟩ hK
    have hcS := hS.cell
    rw [hys] at hcS
    have hcS' : W.cell? ⟨w.heap.size + 1 + 1, 0, none⟩ = some (.int .u64 (nv (sel p f.ns))) := hcS
    clear hcS
    gi_wp2
    refine ⟨by simp, .inl ⟨_, _, rfl, run_takeDeferred hK, ?_⟩⟩
    exact ⟨_, results_tmp rfl _ _ _, rfl, hB.trans (belowK_b (w := w) (Nat.le_refl _) W D _ _ (by simp at hD; omega) hK rfl rfl)⟩
  case stop =>
    rintro D c pre W _ _ h _
    exact h.elim
end Go.Proofs.YtdpfbpmdpdfpdaaDoor
