/- Laws that belong together: The nodes of a fleet that are as a visitor asks (where), and those of a state. Condition: math/bits' table of trailing zeros lies as its text lays it.; The nodes that are as a visitor asks, of a fleet that nobody made: none. Condition: math/bits' table of trailing zeros lies as its text lays it.; The nodes of a state, those that are up; of none; a node, and the rules, of a fleet. Condition: math/bits' table of trailing zeros lies as its text lays it.; A fleet is made; what is told of its nodes; swaps. Condition: math/bits' table of trailing zeros lies as its text lays it.; Spares take the places of nodes that are not up; what is told of a node. Condition: math/bits' table of trailing zeros lies as its text lays it.; What is told of a node of a fleet. Condition: math/bits' table of trailing zeros lies as its text lays it.; What is told of a node makes one swap at most; how many active nodes are up then. No condition.; May a fleet be (right); one that is as it is (Clone). Condition: math/bits' table of trailing zeros lies as its text lays it.; The document's Right and Next (berthingref08). No condition.; A node of a fleet (Node), its rules (Rules). No condition. -/
import Derived.Test.YtnofgffkfapodaaDoorMFlA
import Derived.Test.YtnofgffkfapodaaDoorMah
import Derived.Test.YtnofgffkfapodaaDoorMak
import Derived.Test.YtnofgffkfapodaaDoorMad
import Derived.Test.YtnofgffkfapodaaDoorMac
import Derived.Test.YtnofgffkfapodaaDoorMao
namespace Go.Proofs.YtnofgffkfapodaaDoor
set_option linter.unusedVariables false
open Go.RowKit Go.Shelf
attribute [local go_sem] Oper.semAt_some
attribute [local go_sem ↓] comesTo_value_eq comesTo_skip_eq comesTo_enter_eq

/-- one of the first m -/
abbrev Nm (m : Nat) := { x : Int // 0 ≤ x ∧ x < (m : Int) }
def valm {m : Nat} (l : List (Nm m)) : List Int := l.map (·.1)
theorem valm_snoc {m : Nat} (l : List (Nm m)) (x : Nm m) : valm (l ++ [x]) = valm l ++ [x.1] := by simp [valm]
theorem valm_length {m : Nat} (l : List (Nm m)) : (valm l).length = l.length := by simp [valm]
theorem lowI_first {m : Nat} {r : NSet} (hr : r ≠ 0#64) (hs : Sub r (firstI m)) : 0 ≤ lowI r ∧ lowI r < (m : Int) := by
  obtain ⟨i, e, hi, hg⟩ := low_get hr
  have := sub_iff.1 hs i hi hg
  rw [firstI_get _ _ hi, decide_eq_true_eq] at this
  omega
theorem restS_sub (r : NSet) : Sub (restS r) r := sub_iff.2 fun i hi h => by
  unfold restS at h
  rw [get_diff _ _ _ hi, Bool.and_eq_true] at h
  exact h.1
theorem all1_nm (n : Nat) (hn : 1 ≤ n) (l Bn n₀ m : Nat) (hg : 0 < n₀) (J Jx : List (Nm m) → World → Prop)
    (hY : ∀ pre (x : Nm m) W, J pre W → pre.length < card (firstI m) → YieldAt Fence.wide (n - 1) Tryd.prog l #[.int .i64 x.1] W fun e W' =>
      (e = .returned (.bool true) ∧ J (pre ++ [x]) W' ∧ Below n₀ W W') ∨ (e = .returned (.bool false) ∧ Jx (pre ++ [x]) W'))
    (W : World) (hBn : W.cell? ⟨Bn, 0, none⟩ = some (.int .u64 (nv (firstI m)))) (hT : TabZ W) (h0 : J [] W) :
    CallsIn Fence.wide n Tryd.prog 82 #[.func (.yield l) #[] #[], .pointer (some ⟨Bn, 0, none⟩)] W fun e W' => (∃ v, e = .returned v) ∧
      ((∃ ys, valm ys = nodes (firstI m) ∧ J ys W') ∨ (∃ pre, valm pre <+: nodes (firstI m) ∧ Jx pre W')) := by
  refine callsIn_of_wp Tryd.func82 rfl trivial ?_ rfl
  simp only [Tryd.ntmps82, List.size_toArray, List.length_cons, List.length_nil, Nat.reduceAdd, Nat.reduceSub, Array.replicate_succ, Array.replicate_zero, List.push_toArray, List.append_toArray, List.nil_append, List.cons_append]
  gi_wp2
  gi_loopw [3] (fun p wr => ∃ (pre : List (Nm m)) (r : NSet), p = .int .u64 (nv r) ∧ nodes (firstI m) = valm pre ++ nodes r ∧ Sub r (firstI m) ∧ TabZ wr ∧ J pre wr)
    (fun p _ => (card (BitVec.ofInt 64 (intOf p))))
  case atStart => exact ⟨[], firstI m, rfl, rfl, sub_refl _, hT, h0⟩
  case round =>
    obtain ⟨pre, r, rfl, hx, hsb, hTr, hJs⟩ := hrel
    by_cases hr : r = 0#64
    · have hb : (nv r == 0) = true := by rw [nv_is0]; simpa using hr
      rw [hr, nodes_zero, List.append_nil] at hx
      gi_wp2
      go_end0
      exact ⟨⟨_, rfl⟩, .inl ⟨pre, hx.symm, hJs⟩⟩
    · have hb : (nv r == 0) = false := by rw [nv_is0]; simpa using hr
      have hlen : pre.length < card (firstI m) := by
        have h1 := congrArg List.length hx
        rw [nodes_length _ (firstI m) rfl, List.length_append, nodes_cons hr, List.length_cons, valm_length] at h1
        omega
      obtain ⟨fn, tmps, assign, body, hy, hR⟩ := hY pre ⟨lowI r, lowI_first hr hsb⟩ wr hJs hlen
      dsimp only at hy
      gi_wp2_with (refine ⟨trivial, ?_⟩; gi_at_call 63; refine (callsIn_wide.2 (lowest_any r _ hTr)).mono ?_; rintro e w' ⟨rfl, rfl⟩)
      refine hR.mono ?_
      rintro e W3 (⟨rfl, hJ3, hk3⟩ | ⟨rfl, hJx3⟩)
      · have hT3 := TabZ.kept hTr hg hk3
        gi_wp2_with (first | (refine ⟨trivial, ?_⟩; gi_at_call 63; refine (callsIn_wide.2 (lowest_any r _ hT3)).mono ?_; rintro e w' ⟨rfl, rfl⟩) | (refine ⟨trivial, ?_⟩; gi_at_call 65; refine (callsIn_wide.2 (without_any r (lowI r) _)).mono ?_; rintro e w' ⟨rfl, rfl⟩))
        go_roundw
        case rel => exact ⟨pre ++ [⟨lowI r, lowI_first hr hsb⟩], restS r, rfl, by rw [hx, nodes_cons hr, valm_snoc]; simp, sub_trans (restS_sub r) hsb, hT3, hJ3⟩
        case measure =>
          have := card_rest hr
          simp only [intOf, nv, BitVec.ofInt_natCast, BitVec.ofNat_toNat, BitVec.setWidth_eq]
          unfold restS at this
          omega
      · gi_wp2
        refine bodyPost_ret (results_none rfl _ _ _) rfl ?_
        exact ⟨⟨_, rfl⟩, .inr ⟨pre ++ [⟨lowI r, lowI_first hr hsb⟩], ⟨nodes (restS r), by rw [hx, nodes_cons hr, valm_snoc]; simp⟩, hJx3⟩⟩
theorem all1_first (n : Nat) (hn : 1 ≤ n) (Bn n₀ m : Nat) (hg : 0 < n₀) (w : World) (hBn : w.cell? ⟨Bn, 0, none⟩ = some (.int .u64 (nv (firstI m)))) (hT : TabZ w) :
    SeqStopsK Fence.wide n Tryd.prog 82 #[.pointer (some ⟨Bn, 0, none⟩)] (fun x : Nm m => #[.int .i64 x.1]) (Below n₀) (fun ys => valm ys = nodes (firstI m)) (fun pre => valm pre <+: nodes (firstI m)) (card (firstI m)) w := by
  intro l J Jx W hW _ _ hY h0
  exact all1_nm n hn l Bn n₀ m hg J Jx hY W ((hW.cell (p := ⟨Bn, 0, none⟩) (World.block_lt_of_cell? w _ hBn)).trans hBn) (hT.below hW) h0
theorem keepsFrom_below {W W' : World} (B : Nat) (h : Below W.heap.size W W') : KeepsFrom B W W' := ⟨h.size, fun k o _ hk _ => (h.block k (Array.getElem?_eq_some_iff.1 hk).1).trans hk⟩
theorem boxed_low {W W' : World} {B : Nat} {T : TypeId} {v : Value} (h : Boxed W B T v) (hb : Below W.heap.size W W') : Boxed W' B T v := (hb.block B h.lt).trans h
set_option maxRecDepth 100000 in
set_option maxHeartbeats 4000000 in
theorem where_any {w : World} {F G : Nat} {f : FV} (h : Fl w F G f) (hT : TabZ w) (fn : FuncId) (caps : Array Value) (p : N3 → Bool) (hE : Go.Proofs.Enters Tryd.prog fn)
    (hC : ∀ x W, Below w.heap.size w W → Calls Tryd.prog fn (#[nodeA x] ++ caps) W fun e w' => e = .returned (.bool (p x)) ∧ Below W.heap.size W w') :
    Calls Tryd.prog 57 #[.pointer (some ⟨F, 0, none⟩), .func (.func fn) #[] caps] w fun e w' => e = .returned (.int .u64 (nv (sel p f.ns))) ∧ Below w.heap.size w w' := by
  have hmx : Tryd.prog.follows .mixedOrders = true := by kernel_rfl
  have hb0 : Below w.heap.size w (((w.alloc (.cells #[.pointer (some ⟨F, 0, none⟩)] 26)).alloc (.cells #[.func (.func fn) #[] caps] 94)).alloc (.cells #[.int .u64 0] 53)) :=
    below_alloc (below_alloc (below_alloc (Below.refl _ w) _) _) _
  have bP := Boxed.new w 26 (.pointer (some ⟨F, 0, none⟩))
  have bF := Boxed.new (w.alloc (.cells #[.pointer (some ⟨F, 0, none⟩)] 26)) 94 (.func (.func fn) #[] caps)
  rw [World.size_alloc] at bF
  have bS := Boxed.new ((w.alloc (.cells #[.pointer (some ⟨F, 0, none⟩)] 26)).alloc (.cells #[.func (.func fn) #[] caps] 94)) 53 (.int .u64 0)
  rw [World.size_alloc, World.size_alloc] at bS
  have bP2 := (bP.alloc (.cells #[.func (.func fn) #[] caps] 94)).alloc (.cells #[.int .u64 0] 53)
  have bF2 := bF.alloc (.cells #[.int .u64 0] 53)
  have hz : (((w.alloc (.cells #[.pointer (some ⟨F, 0, none⟩)] 26)).alloc (.cells #[.func (.func fn) #[] caps] 94)).alloc (.cells #[.int .u64 0] 53)).heap.size = w.heap.size + 1 + 1 + 1 := by simp
  clear bP bF
  refine (callsIn_wide (n := 3)).1 ?_
  refine callsIn_of_wp_marks Tryd.func57 rfl trivial ?_ rfl
  simp only [Tryd.ntmps57, List.size_toArray, List.length_cons, List.length_nil, Nat.reduceAdd, Nat.reduceSub, Array.replicate_succ, Array.replicate_zero, List.push_toArray, List.append_toArray, List.nil_append, List.cons_append]
  have hcP := bP2.cell
  have KL := Lib.hid (flen_fl (h.below hb0))
  have KFi := Lib.hid (fun W => first_any f.ns.length W)
  have KAl := Lib.hid (fun W => all_any (firstI f.ns.length) W)
  gi_wp2_with (first | (refine ⟨trivial, ?_⟩; gi_at_call 28; refine (callsIn_wide.2 KL.out).mono ?_; rintro e w' ⟨rfl, rfl⟩) | (refine ⟨trivial, ?_⟩; gi_at_call 32; refine (callsIn_wide.2 (KFi.out _)).mono ?_; rintro e w' ⟨rfl, rfl⟩) | (refine ⟨trivial, ?_⟩; gi_at_call 76; refine (callsIn_wide.2 (KAl.out _)).mono ?_; rintro e w' ⟨rfl, rfl⟩))
  have bA := Boxed.new (((w.alloc (.cells #[.pointer (some ⟨F, 0, none⟩)] 26)).alloc (.cells #[.func (.func fn) #[] caps] 94)).alloc (.cells #[.int .u64 0] 53)) 53 (.int .u64 (nv (firstI f.ns.length)))
  rw [hz] at bA
  have hB1 := below_alloc hb0 (.cells #[.int .u64 (nv (firstI f.ns.length))] 53)
  have H := Lib.hid h
  have HC := Lib.hid hC
  have HE := hE
  unfold Go.Proofs.Enters at HE
  refine wpIn_rangeFunc_ownG rfl (by omega) (gf := 82) (lb := #[.pointer (some ⟨w.heap.size + 1 + 1 + 1, 0, none⟩)]) rfl trivial (enters_of Tryd.func82 (by kernel_rfl) rfl)
    (all1_first _ (by omega) (w.heap.size + 1 + 1 + 1) w.heap.size f.ns.length hT.1 _ bA.cell (hT.below hB1)) belowK_t (belowK_b (by simp; omega)) (Below.refl _ _) (fun _ => rfl)
    (fun (pre : List (Nm f.ns.length)) X => (Boxed X (w.heap.size + 1 + 1) 53 (.int .u64 (nv (selL p f.ns (valm pre)))) ∧ Boxed X w.heap.size 26 (.pointer (some ⟨F, 0, none⟩)) ∧ Boxed X (w.heap.size + 1) 94 (.func (.func fn) #[] caps)) ∧ Below w.heap.size w X)
    (fun _ _ _ => False)
    (OwnFrom.and (Own.from (fun s' X Y row hs' hg hr => ⟨boxed_own (w.heap.size + 1 + 1) 53 (fun pre : List (Nm f.ns.length) => .int .u64 (nv (selL p f.ns (valm pre)))) s' X Y row hs'.1 hg hr, boxed_own w.heap.size 26 (fun _ : List (Nm f.ns.length) => .pointer (some ⟨F, 0, none⟩)) s' X Y row hs'.2.1 hg hr, boxed_own (w.heap.size + 1) 94 (fun _ : List (Nm f.ns.length) => .func (.func fn) #[] caps) s' X Y row hs'.2.2 hg hr⟩) _) (ownFrom_below (Nat.le_refl _) (by simp; omega)))
    (fun _ _ _ _ _ hs _ _ => hs)
    ⟨⟨bS.alloc _, bP2.alloc _, bF2.alloc _⟩, hB1⟩
    (fun x => { tmps := #[.pointer (some ⟨F, 0, none⟩), .func (.func fn) #[] caps, .pointer (some ⟨w.heap.size, 0, none⟩), .pointer (some ⟨w.heap.size + 1, 0, none⟩), .int .u64 0, .pointer (some ⟨w.heap.size + 1 + 1, 0, none⟩), .int .i64 x.1, .pointer (some ⟨F, 0, none⟩), .int .i64 f.ns.length, .int .u64 (nv (firstI f.ns.length)), .func (.func 82) #[] #[.pointer (some ⟨w.heap.size + 1 + 1 + 1, 0, none⟩)], .int .i64 x.1, undef, undef, undef, undef, undef, undef, undef, undef, undef, undef, undef, undef, undef], defers := [] }) ?assign ?body ?done ?stop
  case assign =>
    intro l x W K hK
    gi_wp2
    exact hK
  case body =>
    clear hb0 bS bP2 bF2 hz hcP KL KFi KAl bA hB1 h hC hT
    rintro l pre x X ⟨⟨hS, hP, hFb⟩, hB⟩ hlt
    obtain ⟨x, hx0, hx1⟩ := x
    obtain ⟨k, rfl⟩ : ∃ k : Nat, x = (k : Int) := ⟨x.toNat, by omega⟩
    have hk : k < f.ns.length := by omega
    have hX := H.out.below hB
    have hFlt := hX.lt.1
    have hGlt := hX.lt.2
    have c3 := hX.c3
    obtain ⟨n0, n1, n2⟩ := hX.node hk
    have EV := Lib.hid (selL_snoc p f.ns (valm pre) k)
    unfold selF at EV
    rw [show ((k : Int)).toNat = k from rfl] at EV
    have KV := Lib.hid (fun W (hW : Below X.heap.size X W) => HC.out (f.ns.getD k (0, 0, 0)) W (below_next hB hW))
    unfold nodeA at KV
    generalize f.ns.getD k (0, 0, 0) = nd at *
    obtain ⟨t, m, b⟩ := nd
    dsimp only at n0 n1 n2 EV KV
    have KWi := Lib.hid (fun W => with_any (selL p f.ns (valm pre)) k W)
    have hcS := hS.cell
    have hcP := hP.cell
    have hcF := hFb.cell
    have hltP := hP.lt
    have hltF := hFb.lt
    have hltS := hS.lt
    clear hX H HC
    generalize f.ns.length = nn at *
    gi_wp2_with fail
    refine wpIn_region_grow (WideF.round l) (fun w' => Below X.heap.size X w') hmx (by kernel_rfl) (by kernel_rfl) (Below.refl _ _).drew ?_
    iterate 8 (refine textS_run ?_ ?_ (fun W hS => ?_) ?_; rotate_left; (focus go_simp); (focus (obtain ⟨hc, hf⟩ := bcell hS; go_simp; first | rfl | exact ⟨rfl, hS⟩ | exact hS)); (try go_simp))
    (refine textS_run ?_ ?_ (fun W hS => ?_) ?_; rotate_left; (focus go_simp); (focus (obtain ⟨hc, hf⟩ := bcell hS; go_simp; refine (KV.out W hS).mono ?_; rintro e w1 ⟨rfl, hb⟩; refine ⟨?_, hS.trans (hb.mono hS.size)⟩; rfl)); (try go_simp))
    refine textS_nil ?_
    intro X2 hX2
    have hS2 := boxed_low hS hX2
    have hP2 := boxed_low hP hX2
    have hF2 := boxed_low hFb hX2
    have hbw : Below w.heap.size w X2 := below_next hB hX2
    have HX2 := Lib.hid hX2
    clear c3 n0 n1 n2 hcS hcP hcF hX2
    have hcS := hS2.cell
    have hfS := hS2.frozen
    obtain ⟨bp, hbp⟩ : ∃ bp, bp = p (t, m, b) := ⟨_, rfl⟩
    rw [← hbp] at EV ⊢
    clear hbp
    cases bp with
    | true =>
      gi_wp2_with (refine ⟨trivial, ?_⟩; gi_at_call 64; refine (CallsIn.inRound l (callsIn_wide.2 (KWi.out _))).mono ?_; rintro e w' ⟨rfl, rfl⟩)
      have hKo := KeepsOthers.setCell X2 ⟨w.heap.size + 1 + 1, 0, none⟩ (.int .u64 (nv (selL p f.ns (valm pre) ||| oneI k)))
      have hBo := (Below.refl w.heap.size X2).setCell (p := ⟨w.heap.size + 1 + 1, 0, none⟩) (by simp; omega) (.int .u64 (nv (selL p f.ns (valm pre) ||| oneI k)))
      have hS3 := Boxed.set (.int .u64 (nv (selL p f.ns (valm pre) ||| oneI k))) hS2
      have hP3 := Boxed.other (B' := w.heap.size + 1 + 1) hP2 (by omega) (.int .u64 (nv (selL p f.ns (valm pre) ||| oneI k)))
      have hF3 := Boxed.other (B' := w.heap.size + 1 + 1) hF2 (by omega) (.int .u64 (nv (selL p f.ns (valm pre) ||| oneI k)))
      refine ⟨(keepsFrom_below _ HX2.out).trans (hKo.from _), (HX2.out.mono hB.size).trans hBo, ⟨?_, hP3, hF3⟩, hbw.trans hBo⟩
      rw [valm_snoc, EV.out, if_pos trivial]; exact hS3
    | false =>
      gi_wp2
      refine ⟨keepsFrom_below _ HX2.out, HX2.out.mono hB.size, ⟨?_, hP2, hF2⟩, hbw⟩
      rw [valm_snoc, EV.out, if_neg (by simp)]; exact hS2
  case done =>
    rintro D ys W hD hys ⟨⟨hS, _, _⟩, hB⟩ hK
    have hcS := hS.cell
    rw [hys] at hcS
    have hcS' : W.cell? ⟨w.heap.size + 1 + 1, 0, none⟩ = some (.int .u64 (nv (sel p f.ns))) := hcS
    clear hcS
    gi_wp2
    refine ⟨by simp, .inl ⟨_, _, rfl, run_takeDeferred hK, ?_⟩⟩
    exact ⟨_, results_tmp rfl _ _ _, rfl, hB.trans (belowK_b (w := w) (Nat.le_refl _) W D _ _ (by simp at hD; omega) hK rfl rfl)⟩
  case stop =>
    rintro D c pre W _ _ h _
    exact h.elim
end Go.Proofs.YtnofgffkfapodaaDoor
namespace Go.Proofs.YtnofgffkfapodaaDoor
set_option linter.unusedVariables false
open Go.RowKit Go.Shelf
attribute [local go_sem] Oper.semAt_some
attribute [local go_sem ↓] comesTo_value_eq comesTo_skip_eq comesTo_enter_eq
set_option maxRecDepth 100000 in
set_option maxHeartbeats 4000000 in
theorem where_no {w : World} {v : Value} (h : NoFl w v) (hT : TabZ w) (fn : FuncId) (caps : Array Value) :
    Calls Tryd.prog 57 #[v, .func (.func fn) #[] caps] w fun e w' => e = .returned (.int .u64 0) ∧ Below w.heap.size w w' := by
  obtain ⟨o, rfl⟩ : ∃ o, v = .pointer o := by rcases h with rfl | ⟨P, rfl, _⟩ <;> exact ⟨_, rfl⟩
  obtain ⟨m, hm⟩ : ∃ m : Nat, m = 0 := ⟨0, rfl⟩
  have hmx : Tryd.prog.follows .mixedOrders = true := by kernel_rfl
  have hb0 : Below w.heap.size w (((w.alloc (.cells #[.pointer o] 26)).alloc (.cells #[.func (.func fn) #[] caps] 94)).alloc (.cells #[.int .u64 0] 53)) :=
    below_alloc (below_alloc (below_alloc (Below.refl _ w) _) _) _
  have bP := Boxed.new w 26 (.pointer o)
  have bF := Boxed.new (w.alloc (.cells #[.pointer o] 26)) 94 (.func (.func fn) #[] caps)
  rw [World.size_alloc] at bF
  have bS := Boxed.new ((w.alloc (.cells #[.pointer o] 26)).alloc (.cells #[.func (.func fn) #[] caps] 94)) 53 (.int .u64 0)
  rw [World.size_alloc, World.size_alloc] at bS
  have bP2 := (bP.alloc (.cells #[.func (.func fn) #[] caps] 94)).alloc (.cells #[.int .u64 0] 53)
  have bF2 := bF.alloc (.cells #[.int .u64 0] 53)
  have hz : (((w.alloc (.cells #[.pointer o] 26)).alloc (.cells #[.func (.func fn) #[] caps] 94)).alloc (.cells #[.int .u64 0] 53)).heap.size = w.heap.size + 1 + 1 + 1 := by simp
  clear bP bF
  refine (callsIn_wide (n := 3)).1 ?_
  refine callsIn_of_wp_marks Tryd.func57 rfl trivial ?_ rfl
  simp only [Tryd.ntmps57, List.size_toArray, List.length_cons, List.length_nil, Nat.reduceAdd, Nat.reduceSub, Array.replicate_succ, Array.replicate_zero, List.push_toArray, List.append_toArray, List.nil_append, List.cons_append]
  have hcP := bP2.cell
  have KL := Lib.hid ((flen_no (h.below hb0)).mono (fun e w' hx => (⟨hx.1.trans (by rw [hm]; rfl), hx.2⟩ : e = .returned (.int .i64 (m : Int)) ∧ _ = w')))
  have KFi := Lib.hid (fun W => first_any m W)
  have KAl := Lib.hid (fun W => all_any (firstI m) W)
  have HM := Lib.hid hm
  clear hm
  gi_wp2_with (first | (refine ⟨trivial, ?_⟩; gi_at_call 28; refine (callsIn_wide.2 KL.out).mono ?_; rintro e w' ⟨rfl, rfl⟩) | (refine ⟨trivial, ?_⟩; gi_at_call 32; refine (callsIn_wide.2 (KFi.out _)).mono ?_; rintro e w' ⟨rfl, rfl⟩) | (refine ⟨trivial, ?_⟩; gi_at_call 76; refine (callsIn_wide.2 (KAl.out _)).mono ?_; rintro e w' ⟨rfl, rfl⟩))
  have bA := Boxed.new (((w.alloc (.cells #[.pointer o] 26)).alloc (.cells #[.func (.func fn) #[] caps] 94)).alloc (.cells #[.int .u64 0] 53)) 53 (.int .u64 (nv (firstI m)))
  rw [hz] at bA
  have hB1 := below_alloc hb0 (.cells #[.int .u64 (nv (firstI m))] 53)
  have H := Lib.hid h
  refine wpIn_rangeFunc_ownG rfl (by omega) (gf := 82) (lb := #[.pointer (some ⟨w.heap.size + 1 + 1 + 1, 0, none⟩)]) rfl trivial (enters_of Tryd.func82 (by kernel_rfl) rfl)
    (all1_first _ (by omega) (w.heap.size + 1 + 1 + 1) w.heap.size m hT.1 _ bA.cell (hT.below hB1)) belowK_t (belowK_b (by simp; omega)) (Below.refl _ _) (fun _ => rfl)
    (fun (pre : List (Nm m)) X => (Boxed X (w.heap.size + 1 + 1) 53 (.int .u64 0) ∧ Boxed X w.heap.size 26 (.pointer o) ∧ Boxed X (w.heap.size + 1) 94 (.func (.func fn) #[] caps)) ∧ Below w.heap.size w X)
    (fun _ _ _ => False)
    (OwnFrom.and (Own.from (fun s' X Y row hs' hg hr => ⟨boxed_own (w.heap.size + 1 + 1) 53 (fun pre : List (Nm m) => .int .u64 0) s' X Y row hs'.1 hg hr, boxed_own w.heap.size 26 (fun _ : List (Nm m) => .pointer o) s' X Y row hs'.2.1 hg hr, boxed_own (w.heap.size + 1) 94 (fun _ : List (Nm m) => .func (.func fn) #[] caps) s' X Y row hs'.2.2 hg hr⟩) _) (ownFrom_below (Nat.le_refl _) (by simp; omega)))
    (fun _ _ _ _ _ hs _ _ => hs)
    ⟨⟨bS.alloc _, bP2.alloc _, bF2.alloc _⟩, hB1⟩
    (fun x => { tmps := #[.pointer o, .func (.func fn) #[] caps, .pointer (some ⟨w.heap.size, 0, none⟩), .pointer (some ⟨w.heap.size + 1, 0, none⟩), .int .u64 0, .pointer (some ⟨w.heap.size + 1 + 1, 0, none⟩), .int .i64 x.1, .pointer o, .int .i64 (m : Int), .int .u64 (nv (firstI m)), .func (.func 82) #[] #[.pointer (some ⟨w.heap.size + 1 + 1 + 1, 0, none⟩)], .int .i64 x.1, undef, undef, undef, undef, undef, undef, undef, undef, undef, undef, undef, undef, undef], defers := [] }) ?assign ?body ?done ?stop
  case assign =>
    intro l x W K hK
    gi_wp2
    exact hK
  case body =>
    rintro l pre x X _ _
    obtain ⟨x, hx0, hx1⟩ := x
    exact absurd hx1 (by have := HM.out; omega)
  case done =>
    rintro D ys W hD hys ⟨⟨hS, _, _⟩, hB⟩ hK
    have hcS := hS.cell
    have hcS' : W.cell? ⟨w.heap.size + 1 + 1, 0, none⟩ = some (.int .u64 0) := hcS
    clear hcS
    gi_wp2
    refine ⟨by simp, .inl ⟨_, _, rfl, run_takeDeferred hK, ?_⟩⟩
    exact ⟨_, results_tmp rfl _ _ _, rfl, hB.trans (belowK_b (w := w) (Nat.le_refl _) W D _ _ (by simp at hD; omega) hK rfl rfl)⟩
  case stop =>
    rintro D c pre W _ _ h _
    exact h.elim
end Go.Proofs.YtnofgffkfapodaaDoor
namespace Go.Proofs.YtnofgffkfapodaaDoor
set_option linter.unusedVariables false
open Go.ChangeShapes Go.WideShapes Go.ChangeAt Go.RowKit
attribute [local go_sem ↓] Go.wp_at_zero Go.wp_at_succ comesTo_value_eq comesTo_skip_eq comesTo_enter_eq

theorem in1_any (x : N3) (B : Nat) (k : Int) (w : World) (hc : w.cell? ⟨B, 0, none⟩ = some (.int .i64 k)) :
    Calls Tryd.prog 58 #[nodeA x, .pointer (some ⟨B, 0, none⟩)] w fun e w' => e = .returned (.bool (x.1 == k)) ∧ Below w.heap.size w w' := by
  obtain ⟨t, m, b⟩ := x
  unfold nodeA
  dsimp only
  have hA := below_alloc (Below.refl _ w) (.cells #[.int .i64 t, .int .i64 m, .int .i64 b] 62)
  have hlt := World.block_lt_of_cell? w _ hc
  have hc2 := (hA.cell (p := ⟨B, 0, none⟩) hlt).trans hc
  have HA := Lib.hid hA
  clear hA hc hlt
  go_enter Tryd.func58, Tryd.ntmps58
  go_wp2_with fail
  go_ret
  exact ⟨rfl, HA.out⟩
theorem in_fl {w : World} {F G : Nat} {f : FV} (h : Fl w F G f) (hT : TabZ w) (k : Int) : Calls Tryd.prog 29 #[.pointer (some ⟨F, 0, none⟩), .int .i64 k] w fun e w' => e = .returned (.int .u64 (nv (inF f k))) ∧ Below w.heap.size w w' := by
  have hA := below_alloc (Below.refl _ w) (.cells #[.int .i64 k] 3)
  have hn := World.alloc_heap_new w (.cells #[.int .i64 k] 3)
  have hlt := (Array.getElem?_eq_some_iff.1 hn).1
  have K := Lib.hid (where_any (h.below hA) (hT.below hA) 58 #[.pointer (some ⟨w.heap.size, 0, none⟩)] (fun n => n.1 == k) (enters_of Tryd.func58 (by kernel_rfl) rfl)
    (fun x W hW => in1_any x w.heap.size k W (cell_of_block (o := 0) ((hW.block _ hlt).trans hn) rfl)))
  have HA := Lib.hid hA
  clear hA hn hlt h
  unfold inF
  go_enter Tryd.func29, Tryd.ntmps29
  go_wp2_with fail
  refine K.out.mono ?_
  rintro e w' ⟨rfl, hb⟩
  have HB := Lib.hid (below_next HA.out hb)
  clear hb
  go_wp2_with fail
  go_ret
  exact ⟨rfl, HB.out⟩
theorem in_no {w : World} {v : Value} (h : NoFl w v) (hT : TabZ w) (k : Int) : Calls Tryd.prog 29 #[v, .int .i64 k] w fun e w' => e = .returned (.int .u64 0) ∧ Below w.heap.size w w' := by
  have hA := below_alloc (Below.refl _ w) (.cells #[.int .i64 k] 3)
  have K := Lib.hid (where_no (h.below hA) (hT.below hA) 58 #[.pointer (some ⟨w.heap.size, 0, none⟩)])
  have HA := Lib.hid hA
  clear hA h
  go_enter Tryd.func29, Tryd.ntmps29
  go_wp2_with fail
  refine K.out.mono ?_
  rintro e w' ⟨rfl, hb⟩
  have HB := Lib.hid (below_next HA.out hb)
  clear hb
  go_wp2_with fail
  go_ret
  exact ⟨rfl, HB.out⟩
theorem up_fl {w : World} {F G : Nat} {f : FV} (h : Fl w F G f) (hT : TabZ w) : Calls Tryd.prog 20 #[.pointer (some ⟨F, 0, none⟩)] w fun e w' => e = .returned (.int .u64 (nv (upF f))) ∧ Below w.heap.size w w' := by
  have K := Lib.hid (in_fl h hT 0)
  unfold upF
  clear h
  go_enter Tryd.func20, Tryd.ntmps20
  go_wp2_with fail
  refine K.out.mono ?_
  rintro e w' ⟨rfl, hb⟩
  have HB := Lib.hid hb
  clear hb
  go_wp2_with fail
  go_ret
  exact ⟨rfl, HB.out⟩
theorem up_no {w : World} {v : Value} (h : NoFl w v) (hT : TabZ w) : Calls Tryd.prog 20 #[v] w fun e w' => e = .returned (.int .u64 0) ∧ Below w.heap.size w w' := by
  have K := Lib.hid (in_no h hT 0)
  clear h
  go_enter Tryd.func20, Tryd.ntmps20
  go_wp2_with fail
  refine K.out.mono ?_
  rintro e w' ⟨rfl, hb⟩
  have HB := Lib.hid hb
  clear hb
  go_wp2_with fail
  go_ret
  exact ⟨rfl, HB.out⟩
abbrev ZN : Array Value := #[.int .i64 0, .int .i64 0, .int .i64 0]
theorem node_no {w : World} {v : Value} (h : NoFl w v) (k : Int) : Calls Tryd.prog 27 #[v, .int .i64 k] w fun e w' => e = .returned (.tuple #[.agg ZN, .int .i64 1]) ∧ Below w.heap.size w w' := by
  have hA := below_alloc (Below.refl _ w) (.cells ZN 62)
  have nR := World.alloc_heap_new w (.cells ZN 62)
  have K := Lib.hid (there_nofl (h.below hA))
  have r0 := cell_of_block (o := 0) nR rfl
  have r1 := cell_of_block (o := 1) nR rfl
  have r2 := cell_of_block (o := 2) nR rfl
  have HW := Lib.hid hA
  clear nR hA h
  go_enter Tryd.func27, Tryd.ntmps27
  go_wp2_with fail
  refine K.out.mono ?_
  rintro e w' ⟨rfl, rfl⟩
  go_wp2_with fail
  refine bodyPost_ret (v := .tuple #[.agg ZN, .int .i64 1]) (by simp [results, Tryd.results27, go_sem]; try go_simp) rfl ⟨rfl, HW.out⟩
theorem rules_no {w : World} {v : Value} (h : NoFl w v) : Calls Tryd.prog 15 #[v] w fun e w' => e = .returned (.agg ZN) ∧ Below w.heap.size w w' := by
  have hA := below_alloc (Below.refl _ w) (.cells ZN 24)
  have nR := World.alloc_heap_new w (.cells ZN 24)
  have K := Lib.hid (there_nofl (h.below hA))
  have r0 := cell_of_block (o := 0) nR rfl
  have r1 := cell_of_block (o := 1) nR rfl
  have r2 := cell_of_block (o := 2) nR rfl
  have HW := Lib.hid hA
  clear nR hA h
  go_enter Tryd.func15, Tryd.ntmps15
  go_wp2_with fail
  refine K.out.mono ?_
  rintro e w' ⟨rfl, rfl⟩
  go_wp2_with fail
  refine bodyPost_ret (v := .agg ZN) (by simp [results, Tryd.results15, go_sem]; try go_simp) rfl ⟨rfl, HW.out⟩
theorem clone_nofl {w : World} {v : Value} (h : NoFl w v) : Calls Tryd.prog 18 #[v] w fun e w' => e = .returned (.pointer none) ∧ w = w' := by
  have K := Lib.hid (there_nofl h)
  clear h
  go_enter Tryd.func18, Tryd.ntmps18
  go_wp2_with fail
  refine K.out.mono ?_
  rintro e w' ⟨rfl, rfl⟩
  go_wp2
  go_ret
  exact ⟨rfl, rfl⟩
theorem tell_no {w : World} {v : Value} (h : NoFl w v) (n k : Int) : Calls Tryd.prog 13 #[v, .int .i64 n, .int .i64 k] w fun e w' => e = .returned (.int .i64 1) ∧ w = w' := by
  have K := Lib.hid (there_nofl h)
  clear h
  go_enter Tryd.func13, Tryd.ntmps13
  go_wp2_with fail
  refine K.out.mono ?_
  rintro e w' ⟨rfl, rfl⟩
  go_wp2
  go_ret
  exact ⟨rfl, rfl⟩
theorem fput_no {w : World} {v : Value} (h : NoFl w v) : Calls Tryd.prog 19 #[v] w fun e w' => e = .returned (.slice none 0 0) ∧ w = w' := by
  have K := Lib.hid (there_nofl h)
  clear h
  go_enter Tryd.func19, Tryd.ntmps19
  go_wp2_with fail
  refine K.out.mono ?_
  rintro e w' ⟨rfl, rfl⟩
  go_wp2
  go_ret
  exact ⟨rfl, rfl⟩
end Go.Proofs.YtnofgffkfapodaaDoor
namespace Go.Proofs.YtnofgffkfapodaaDoor
set_option linter.unusedVariables false
open Go.ChangeShapes Go.WideShapes Go.ChangeAt Go.RowKit
attribute [local go_sem ↓] Go.wp_at_zero Go.wp_at_succ comesTo_value_eq comesTo_skip_eq comesTo_enter_eq Rl.comesToR_value_eq Rl.comesToR_skip_eq Rl.comesToR_enter_eq

theorem info_nd : (Tryd.prog.info? 62).map (fun i => (i.zero, i.size, i.bytes)) = some (some (.agg #[.int .i64 0, .int .i64 0, .int .i64 0]), 3, 24) := by kernel_rfl
theorem flatN_zero : ∀ n, flatN (List.replicate n (0, 0, 0)) = List.replicate (n * 3) (.int .i64 0)
  | 0 => rfl
  | n + 1 => by
    rw [List.replicate_succ, show (n + 1) * 3 = n * 3 + 1 + 1 + 1 by omega, List.replicate_succ, List.replicate_succ, List.replicate_succ]
    simp only [flatN]
    rw [flatN_zero n]
theorem made_nd (n : Nat) : madeCells #[Value.int .i64 0, .int .i64 0, .int .i64 0] (n * 3) = (flatN (List.replicate n (0, 0, 0))).toArray := by
  rw [flatN_zero]
  apply Array.ext
  · rw [size_madeCells]; simp
  · intro i h1 h2
    rw [size_madeCells] at h1
    have h3 : i % 3 < 3 := Nat.mod_lt _ (by decide)
    simp only [madeCells, Array.getElem_map, Array.getElem_range, List.getElem_toArray, List.getElem_replicate]
    rcases (by omega : i % 3 = 0 ∨ i % 3 = 1 ∨ i % 3 = 2) with e | e | e
    all_goals
      simp only [List.size_toArray, List.length_cons, List.length_nil, Nat.reduceAdd, e]
      rfl
theorem make_nodes (n : Nat) (hn : n ≤ 64) (w : World) : (Instr.makeSlice 58 (.int .i64 (n : Int)) (.int .i64 (n : Int))).run Tryd.prog w = .ok (.slice (some ⟨w.heap.size, 0, none⟩) n n) (w.alloc (.cells (flatN (List.replicate n (0, 0, 0))).toArray 62)) := by
  obtain ⟨i, hi, hz, hs, hb⟩ := info_parts info_nd
  have hr := run_make (P := Tryd.prog) w 58 62 i _ Tryd.underlying58 hi hz .i64 .i64 (n : Int) (n : Int) (by omega) (Int.le_refl _) (by rw [hb]; omega) (by omega)
  rw [hs] at hr
  rw [← made_nd]
  simpa [Value.cells] using hr
/-- a new one -/
def newF (n s S D P : Int) : FV := ⟨S, D, P, List.replicate n.toNat (0, 0, 0), firstI n &&& ~~~ firstI (n - s), 0⟩
def newOk (n s S D P : Int) : Bool := decide (1 ≤ n ∧ n ≤ 64 ∧ 0 ≤ s ∧ s < n) && rightR S D P
def NewEnd (w : World) (n s S D P : Int) (e : Ending) (w' : World) : Prop :=
  (newOk n s S D P = false ∧ e = .returned (.tuple #[.pointer none, .int .i64 2]) ∧ Below w.heap.size w w') ∨
  (newOk n s S D P = true ∧ ∃ F G, e = .returned (.tuple #[.pointer (some ⟨F, 0, none⟩), .int .i64 0]) ∧ Fl w' F G (newF n s S D P) ∧ w.heap.size ≤ F ∧ w.heap.size ≤ G ∧ Below w.heap.size w w')
theorem newno_1 (n s S D P : Int) (w : World) (h : ¬ (1 ≤ n ∧ n ≤ 64 ∧ 0 ≤ s ∧ s < n)) : Calls Tryd.prog 8 #[.int .i64 n, .int .i64 s, .agg #[.int .i64 S, .int .i64 D, .int .i64 P]] w fun e w' => e = .returned (.tuple #[.pointer none, .int .i64 2]) ∧ Below w.heap.size w w' := by
  have HA := Lib.hid (below_alloc (Below.refl _ w) (.cells #[.int .i64 S, .int .i64 D, .int .i64 P] 24))
  by_cases h1 : n < 1
  · have d1 : decide (n < 1) = true := decide_eq_true h1
    clear h h1
    go_enter Tryd.func8, Tryd.ntmps8
    go_wp2_with fail
    go_ret2
    exact ⟨rfl, HA.out⟩
  have d1 : decide (n < 1) = false := decide_eq_false h1
  by_cases h2 : n > 64
  · have d2 : decide (n > 64) = true := decide_eq_true h2
    have d3 : decide (64 < n) = true := decide_eq_true h2
    clear h h1 h2
    go_enter Tryd.func8, Tryd.ntmps8
    go_wp2_with fail
    go_ret2
    exact ⟨rfl, HA.out⟩
  have d2 : decide (n > 64) = false := decide_eq_false h2
  have d3 : decide (64 < n) = false := decide_eq_false h2
  by_cases h3 : s < 0
  · have d4 : decide (s < 0) = true := decide_eq_true h3
    clear h h1 h2 h3
    go_enter Tryd.func8, Tryd.ntmps8
    go_wp2_with fail
    go_ret2
    exact ⟨rfl, HA.out⟩
  have d4 : decide (s < 0) = false := decide_eq_false h3
  have h4 : s ≥ n := by omega
  have d5 : decide (s ≥ n) = true := decide_eq_true h4
  have d6 : decide (n ≤ s) = true := decide_eq_true h4
  clear h h1 h2 h3 h4
  go_enter Tryd.func8, Tryd.ntmps8
  go_wp2_with fail
  go_ret2
  exact ⟨rfl, HA.out⟩
set_option maxRecDepth 100000 in
set_option maxHeartbeats 4000000 in
theorem fnew_any (n s S D P : Int) (w : World) : Calls Tryd.prog 8 #[.int .i64 n, .int .i64 s, .agg #[.int .i64 S, .int .i64 D, .int .i64 P]] w fun e w' => NewEnd w n s S D P e w' := by
  by_cases h : 1 ≤ n ∧ n ≤ 64 ∧ 0 ≤ s ∧ s < n
  case neg => exact (newno_1 n s S D P w h).mono fun e w' hx => .inl ⟨by unfold newOk; rw [decide_eq_false h]; rfl, hx⟩
  have hmx : Tryd.prog.follows .mixedOrders = true := by kernel_rfl
  obtain ⟨n0, n1, s0, s1⟩ := h
  obtain ⟨nn, rfl⟩ : ∃ nn : Nat, n = (nn : Int) := ⟨n.toNat, by omega⟩
  have d1 : decide ((nn : Int) < 1) = false := decide_eq_false (by omega)
  have d2 : decide ((nn : Int) > 64) = false := decide_eq_false (by omega)
  have d3 : decide (64 < (nn : Int)) = false := decide_eq_false (by omega)
  have d4 : decide (s < 0) = false := decide_eq_false (by omega)
  have d5 : decide (s ≥ (nn : Int)) = false := decide_eq_false (by omega)
  have d6 : decide ((nn : Int) ≤ s) = false := decide_eq_false (by omega)
  have hw1 : IntKind.i64.wrap ((nn : Int) - s) = (nn : Int) - s := by rw [IntKind.wrap_i64]; omega
  have HOK := Lib.hid (show newOk nn s S D P = rightR S D P by unfold newOk; rw [decide_eq_true ⟨n0, n1, s0, s1⟩]; rfl)
  have HNN := Lib.hid (show 1 ≤ nn ∧ nn ≤ 64 by omega)
  have hA := below_alloc (Below.refl _ w) (.cells #[.int .i64 S, .int .i64 D, .int .i64 P] 24)
  have nR := World.alloc_heap_new w (.cells #[.int .i64 S, .int .i64 D, .int .i64 P] 24)
  have KR := Lib.hid (fun W => rightR_any S D P W)
  have KF := Lib.hid (fun W => first_any nn W)
  have KG := Lib.hid (fun W => first_any (nn - s) W)
  have KL := Lib.hid (fun W => bless_any (firstI nn) (firstI (nn - s)) W)
  have HMK := Lib.hid (fun W => make_nodes nn (by omega) W)
  have HA := Lib.hid hA
  have NR := Lib.hid nR
  have HNO := Lib.hid (fun (h : rightR S D P = false) e w' (he : e = .returned (.tuple #[.pointer none, .int .i64 2])) (hb : Below w.heap.size w w') => (.inl ⟨HOK.out.trans h, he, hb⟩ : NewEnd w nn s S D P e w'))
  have HYES := Lib.hid (fun (h : rightR S D P = true) e w' F G (he : e = .returned (.tuple #[.pointer (some ⟨F, 0, none⟩), .int .i64 0])) (hf : Fl w' F G ⟨S, D, P, List.replicate nn (0, 0, 0), firstI nn &&& ~~~ firstI (nn - s), 0⟩) (h1 : w.heap.size ≤ F) (h2 : w.heap.size ≤ G) (hb : Below w.heap.size w w') => (.inr ⟨HOK.out.trans h, F, G, he, hf, h1, h2, hb⟩ : NewEnd w nn s S D P e w'))
  clear HOK
  have HLN := Lib.hid (show (List.replicate nn ((0, 0, 0) : N3)).length = nn from List.length_replicate)
  clear n0 n1 s0 s1 hA
  generalize rightR S D P = rr at *
  generalize List.replicate nn ((0, 0, 0) : N3) = ns at *
  generalize firstI (nn - s) = sg at *
  generalize firstI nn = sf at *
  have r0 := cell_of_block (o := 0) nR rfl
  have r1 := cell_of_block (o := 1) nR rfl
  have r2 := cell_of_block (o := 2) nR rfl
  clear nR
  go_enter Tryd.func8, Tryd.ntmps8
  go_upto_region 1 with fail
  generalize w.alloc (.cells #[.int .i64 S, .int .i64 D, .int .i64 P] 24) = W1 at *
  go_wp2_with fail
  refine (KR.out _).mono ?_
  rintro e w2 ⟨rfl, hb2⟩
  have HA2 := Lib.hid (below_next HA.out hb2)
  have NR2 := Lib.hid ((hb2.block _ (Array.getElem?_eq_some_iff.1 NR.out).1).trans NR.out)
  clear hb2 HA NR r0 r1 r2
  cases rr with
  | false =>
    go_wp2_with fail
    go_ret2
    exact HNO.out trivial _ _ rfl HA2.out
  | true =>
    go_wp2_with fail
    refine (KF.out _).mono ?_
    rintro e w3 ⟨rfl, rfl⟩
    go_wp2_with fail
    refine (KG.out _).mono ?_
    rintro e w3 ⟨rfl, rfl⟩
    go_wp2_with fail
    refine (KL.out _).mono ?_
    rintro e w3 ⟨rfl, rfl⟩
    generalize hsp : (sf &&& ~~~ sg) = sp at *
    clear hsp
    go_upto_region 4 with fail
    refine wp_region_held (S := fun X => X.cell? ⟨w.heap.size, 0, none⟩ = some (.int .i64 S) ∧ X.cell? ⟨w.heap.size, 1, none⟩ = some (.int .i64 D) ∧ X.cell? ⟨w.heap.size, 2, none⟩ = some (.int .i64 P)) hmx ?_
    have HA3 := Lib.hid (show Below w.heap.size w w2.drew from HA2.out.drew)
    have NR3 := Lib.hid (show w2.drew.heap[w.heap.size]? = _ from NR2.out)
    clear HA2 NR2
    change wpAnyH _ _ _ _ _ 8 _ _ w2.drew
    generalize w2.drew = w3 at *
    have hS : w3.cell? ⟨w.heap.size, 0, none⟩ = some (.int .i64 S) ∧ w3.cell? ⟨w.heap.size, 1, none⟩ = some (.int .i64 D) ∧ w3.cell? ⟨w.heap.size, 2, none⟩ = some (.int .i64 P) := ⟨cell_of_block (o := 0) NR3.out rfl, cell_of_block (o := 1) NR3.out rfl, cell_of_block (o := 2) NR3.out rfl⟩
    (refine wpAnyH_take (i := 0) (v := .agg #[.int .i64 S, .int .i64 D, .int .i64 P]) rfl (by decide +kernel) (by decide +kernel) (by decide +kernel) (fun _ _ _ h => h) (.inl ⟨by first | rfl | (go_simp; done), fun X hX => by obtain ⟨hx0, hx1, hx2⟩ := hX; first | (go_simp; done) | (go_simp; rfl)⟩) hS ?_)
    (refine wpAnyH_take (i := 1) (v := .int .i64 nn) rfl (by decide +kernel) (by decide +kernel) (by decide +kernel) (fun _ _ _ h => h) (.inl ⟨by first | rfl | (go_simp; done), fun X hX => by obtain ⟨hx0, hx1, hx2⟩ := hX; first | (go_simp; done) | (go_simp; rfl)⟩) hS ?_)
    (refine wpAnyH_take (i := 3) (v := .int .u64 (nv sp)) rfl (by decide +kernel) (by decide +kernel) (by decide +kernel) (fun _ _ _ h => h) (.inl ⟨by first | rfl | (go_simp; done), fun X hX => by obtain ⟨hx0, hx1, hx2⟩ := hX; first | (go_simp; done) | (go_simp; rfl)⟩) hS ?_)
    clear hS
    have hmk := HMK.out w3
    refine anyH_one (i := 2) (by decide +kernel) ?_
    refine opH_val (i := 2) (v := .slice (some ⟨w3.heap.size, 0, none⟩) nn nn) (w' := w3.alloc (.cells (flatN ns).toArray 62)) rfl (by first | rfl | (go_simp; done)) (by first | (go_simp; done) | (go_simp; rfl)) ?_
    have hA4 := below_alloc (Below.refl _ w3) (.cells (flatN ns).toArray 62)
    have NG := Lib.hid (World.alloc_heap_new w3 (.cells (flatN ns).toArray 62))
    have HA4 := Lib.hid (below_next HA3.out hA4)
    have NR4 := Lib.hid ((hA4.block _ (Array.getElem?_eq_some_iff.1 NR3.out).1).trans NR3.out)
    have HZ3 := Lib.hid (show w.heap.size ≤ w3.heap.size from HA3.out.size)
    clear hA4 hmk HA3 NR3
    generalize w3.alloc (.cells (flatN ns).toArray 62) = w4 at *
    generalize w3.heap.size = G at *
    have hS4 : w4.cell? ⟨w.heap.size, 0, none⟩ = some (.int .i64 S) ∧ w4.cell? ⟨w.heap.size, 1, none⟩ = some (.int .i64 D) ∧ w4.cell? ⟨w.heap.size, 2, none⟩ = some (.int .i64 P) := ⟨cell_of_block (o := 0) NR4.out rfl, cell_of_block (o := 1) NR4.out rfl, cell_of_block (o := 2) NR4.out rfl⟩
    refine ⟨hS4, ?_⟩
    (refine wpAnyH_take (i := 4) (v := .agg #[.int .i64 S, .int .i64 D, .int .i64 P, .slice (some ⟨G, 0, none⟩) nn nn, .int .u64 (nv sp), .int .i64 0]) rfl (by decide +kernel) (by decide +kernel) (by decide +kernel) (fun _ _ _ h => h) (.inl ⟨by first | rfl | (go_simp; done), fun X hX => by obtain ⟨hx0, hx1, hx2⟩ := hX; first | (go_simp; done) | (go_simp; rfl)⟩) hS4 ?_)
    clear hS4
    refine anyH_one (i := 5) (by decide +kernel) ?_
    refine opH_val (i := 5) (v := .pointer (some ⟨w4.heap.size, 0, none⟩)) (w' := w4.alloc (.cells #[.int .i64 S, .int .i64 D, .int .i64 P, .slice (some ⟨G, 0, none⟩) nn nn, .int .u64 (nv sp), .int .i64 0] 60)) rfl (by first | rfl | (go_simp; done)) (by first | (go_simp; done) | (go_simp; rfl)) ?_
    have hA5 := below_alloc (Below.refl _ w4) (.cells #[.int .i64 S, .int .i64 D, .int .i64 P, .slice (some ⟨G, 0, none⟩) nn nn, .int .u64 (nv sp), .int .i64 0] 60)
    have hlg := (Array.getElem?_eq_some_iff.1 NG.out).1
    have HFL := Lib.hid (show Fl (w4.alloc (.cells #[.int .i64 S, .int .i64 D, .int .i64 P, .slice (some ⟨G, 0, none⟩) nn nn, .int .u64 (nv sp), .int .i64 0] 60)) w4.heap.size G ⟨S, D, P, ns, sp, 0⟩ from
      ⟨by omega, by have := HNN.out; have := HLN.out; exact ⟨by show 1 ≤ ns.length; omega, by show ns.length ≤ 64; omega⟩, by unfold flC; dsimp only; rw [HLN.out]; exact World.alloc_heap_new w4 _, (hA5.block _ hlg).trans NG.out⟩)
    have HA5 := Lib.hid (below_next HA4.out hA5)
    have NR5 := Lib.hid ((hA5.block _ (Array.getElem?_eq_some_iff.1 NR4.out).1).trans NR4.out)
    have HZ4 := Lib.hid (show w.heap.size ≤ w4.heap.size from HA4.out.size)
    clear hA5 hlg HA4 NR4 NG
    generalize w4.alloc (.cells #[.int .i64 S, .int .i64 D, .int .i64 P, .slice (some ⟨G, 0, none⟩) nn nn, .int .u64 (nv sp), .int .i64 0] 60) = w5 at *
    generalize w4.heap.size = F at *
    have hS5 : w5.cell? ⟨w.heap.size, 0, none⟩ = some (.int .i64 S) ∧ w5.cell? ⟨w.heap.size, 1, none⟩ = some (.int .i64 D) ∧ w5.cell? ⟨w.heap.size, 2, none⟩ = some (.int .i64 P) := ⟨cell_of_block (o := 0) NR5.out rfl, cell_of_block (o := 1) NR5.out rfl, cell_of_block (o := 2) NR5.out rfl⟩
    refine ⟨hS5, ?_⟩
    (refine wpAnyH_take (i := 6) (v := .pointer (some ⟨F, 0, none⟩)) rfl (by decide +kernel) (by decide +kernel) (by decide +kernel) (fun _ _ _ h => h) (.inl ⟨by first | rfl | (go_simp; done), fun X hX => by obtain ⟨hx0, hx1, hx2⟩ := hX; first | (go_simp; done) | (go_simp; rfl)⟩) hS5 ?_)
    (refine wpAnyH_take (i := 7) (v := .int .i64 0) rfl (by decide +kernel) (by decide +kernel) (by decide +kernel) (fun _ _ _ h => h) (.inl ⟨by first | rfl | (go_simp; done), fun X hX => by obtain ⟨hx0, hx1, hx2⟩ := hX; first | (go_simp; done) | (go_simp; rfl)⟩) hS5 ?_)
    clear hS5
    refine wpAnyH_done (by decide +kernel) ?_ _
    go_simp
    go_wp2_with fail
    go_ret2
    exact HYES.out trivial _ _ F G rfl HFL.out HZ4.out HZ3.out HA5.out
theorem Fl.set4 {w : World} {F G : Nat} {f : FV} (h : Fl w F G f) (s : NSet) : Fl (w.setCell ⟨F, 4, none⟩ (.int .u64 (nv s))) F G { f with sp := s } := by
  have hw := (wrote_refl h.blk).set 4 (.int .u64 (nv s))
  exact ⟨h.ne, h.len, hw.there, (hw.rest _ h.ne.symm).trans h.row⟩
theorem Fl.set5 {w : World} {F G : Nat} {f : FV} (h : Fl w F G f) (s : Int) : Fl (w.setCell ⟨F, 5, none⟩ (.int .i64 s)) F G { f with sw := s } := by
  have hw := (wrote_refl h.blk).set 5 (.int .i64 s)
  exact ⟨h.ne, h.len, hw.there, (hw.rest _ h.ne.symm).trans h.row⟩
theorem Fl.setNode {w : World} {F G : Nat} {f : FV} (h : Fl w F G f) {k : Nat} (hk : k < f.ns.length) (x : N3) :
    Fl (((w.setCell ⟨G, k * 3, none⟩ (.int .i64 x.1)).setCell ⟨G, k * 3 + 1, none⟩ (.int .i64 x.2.1)).setCell ⟨G, k * 3 + 2, none⟩ (.int .i64 x.2.2)) F G { f with ns := f.ns.set k x } := by
  have hw := (((wrote_refl h.row).set (k * 3) (.int .i64 x.1)).set (k * 3 + 1) (.int .i64 x.2.1)).set (k * 3 + 2) (.int .i64 x.2.2)
  have ht := hw.there
  simp only [List.setIfInBounds_toArray] at ht
  rw [flatN_set f.ns k x hk] at ht
  have hl : (f.ns.set k x).length = f.ns.length := List.length_set
  refine ⟨h.ne, by show 1 ≤ (f.ns.set k x).length ∧ (f.ns.set k x).length ≤ 64; rw [hl]; exact h.len, ?_, ht⟩
  have := (hw.rest _ h.ne).trans h.blk
  unfold flC at this ⊢
  dsimp only
  rw [hl]
  exact this
end Go.Proofs.YtnofgffkfapodaaDoor
namespace Go.Proofs.YtnofgffkfapodaaDoor
set_option linter.unusedVariables false
open Go.ChangeShapes Go.WideShapes Go.ChangeAt Go.RowKit
attribute [local go_sem ↓] Go.wp_at_zero Go.wp_at_succ comesTo_value_eq comesTo_skip_eq comesTo_enter_eq Rl.comesToR_value_eq Rl.comesToR_skip_eq Rl.comesToR_enter_eq

/-- how many are gone, told from memory -/
def goneW (f : FV) (F : Nat) (w : World) : Nat := card (goneF { f with sp := BitVec.ofInt 64 (intOf ((w.cell? ⟨F, 4, none⟩).getD undef)) })
theorem nv_ofInt' (x : Int) : nv (BitVec.ofInt 64 x) = IntKind.u64.wrap x := by
  unfold nv
  rw [IntKind.wrap_u64, BitVec.toNat_ofInt]
  omega
theorem ofInt_nv (s : NSet) : BitVec.ofInt 64 (nv s) = s := by
  apply nv_inj
  rw [nv_ofInt']
  have h1 := nv_lo s
  have h2 := nv_hi s
  rw [IntKind.wrap_u64]
  omega
theorem goneW_at {w : World} {F G : Nat} {f : FV} (s : NSet) (sw : Int) (h : Fl w F G { f with sp := s, sw := sw }) : goneW f F w = card (goneF { f with sp := s, sw := sw }) := by
  unfold goneW
  rw [h.c4]
  show card (goneF { f with sp := BitVec.ofInt 64 (nv s) }) = _
  rw [ofInt_nv]
  rfl
theorem stop_iff (f : FV) : stopF f ↔ lowI (goneF f) < 0 ∨ lowI (freeF f) < 0 := by
  have h1 := lowI_neg (goneF f)
  have h2 := lowI_neg (freeF f)
  rw [decide_eq_decide] at h1 h2
  rw [h1, h2]
  exact Iff.rfl
structure SwapAt (w : World) (F G : Nat) (f : FV) (wr : World) : Prop where
  fl : ∃ s sw, Fl wr F G { f with sp := s, sw := sw } ∧ swapF { f with sp := s, sw := sw } = swapF f ∧ 0 ≤ sw ∧ sw ≤ 9223372036854775807
  fr : Fr (fun j => j = F) w wr
set_option maxRecDepth 100000 in
set_option maxHeartbeats 8000000 in
theorem swap_fl {w : World} {F G : Nat} {f : FV} (h : Fl w F G f) (hT : TabZ w) (hF : 0 < F) (hs0 : 0 ≤ f.sw ∧ f.sw ≤ 9223372036854775807) :
    Calls Tryd.prog 39 #[.pointer (some ⟨F, 0, none⟩)] w fun e w' => (∃ v, e = .returned v) ∧ Fl w' F G (swapF f) ∧ Fr (fun j => j = F) w w' := by
  have hmx : Tryd.prog.follows .mixedOrders = true := by kernel_rfl
  have H0 := Lib.hid (show SwapAt w F G f w from ⟨⟨f.sp, f.sw, h, rfl, hs0⟩, Fr.refl _ _⟩)
  have HT := Lib.hid (fun X (hX : Fr (fun j => j = F) w X) => show TabZ X from ⟨Nat.lt_of_lt_of_le hT.1 hX.size, fun j hj => (World.cell?_of_block (hX.block _ hT.1 (Nat.ne_of_lt hF))).trans (hT.2 j hj)⟩)
  clear h hT hs0 hF
  go_enter Tryd.func39, Tryd.ntmps39
  go_wp2_with fail
  go_loopw [2, 3] (fun g s wr => SwapAt w F G f wr) (fun _ _ wr => goneW f F wr)
  case atStart => exact H0.out
  case round =>
    obtain ⟨⟨s1, sw1, hfl, hsw, hb⟩, hfr⟩ := hrel
    have HM := Lib.hid (goneW_at s1 sw1 hfl)
    obtain ⟨f1, hf1⟩ : ∃ f1, f1 = { f with sp := s1, sw := sw1 } := ⟨_, rfl⟩
    have HF1 := Lib.hid hf1
    rw [← hf1] at hfl hsw HM
    have hTr : TabZ wr := HT.out wr hfr
    have HFL := Lib.hid hfl
    have HSW := Lib.hid hsw
    have HBD := Lib.hid hb
    have HFR := Lib.hid hfr
    have HSP := Lib.hid (show f1.sp = s1 ∧ f1.sw = sw1 by rw [hf1]; exact ⟨rfl, rfl⟩)
    have KA := Lib.hid (fun X (hX : Below wr.heap.size wr X) => factive_fl (hfl.below hX))
    have KU := Lib.hid (fun X (hX : Below wr.heap.size wr X) => up_fl (hfl.below hX) (hTr.below hX))
    have KL := Lib.hid (fun X => bless_any (actF f1) (upF f1) X)
    have KG := Lib.hid (fun X (hX : Below wr.heap.size wr X) => lowest_any (goneF f1) X (hTr.below hX))
    have KN := Lib.hid (fun X => and_any f1.sp (upF f1) X)
    have KF := Lib.hid (fun X (hX : Below wr.heap.size wr X) => lowest_any (freeF f1) X (hTr.below hX))
    have C4 := Lib.hid (fun X (hX : Below wr.heap.size wr X) => (hfl.below hX).c4)
    have KW := Lib.hid (fun X => with_any f1.sp (lowI (goneF f1)) X)
    have KO := Lib.hid (fun X => without_any (f1.sp ||| oneI (lowI (goneF f1))) (lowI (freeF f1)) X)
    have HST := Lib.hid (stop_iff f1)
    have HSTEP := Lib.hid (show ¬ stopF f1 → swapF f1 = swapF (swap1 f1) from swapF_step)
    have HDONE := Lib.hid (show stopF f1 → swapF f1 = f1 from swapF_done)
    have HG1 := Lib.hid (show ¬ stopF f1 → card (goneF (swap1 f1)) + 1 = card (goneF f1) from swap1_gone)
    have HS1 := Lib.hid (show swap1 f1 = { f with sp := (f1.sp ||| oneI (lowI (goneF f1))) &&& ~~~ oneI (lowI (freeF f1)), sw := if f1.sw < 9223372036854775807 then f1.sw + 1 else f1.sw } by rw [hf1]; rfl)
    clear hfl hsw hb hfr hTr hf1 H0
    unfold goneF at KG
    unfold freeF at KF
    generalize hlg : lowI (goneF f1) = lg at *
    generalize hlf : lowI (freeF f1) = lf at *
    have KG' := Lib.hid (fun X hX => show Calls Tryd.prog 63 #[.int .u64 (nv (actF f1 &&& ~~~ upF f1))] X fun e w' => e = .returned (.int .i64 lg) ∧ X = w' from hlg ▸ KG.out X hX)
    have KF' := Lib.hid (fun X hX => show Calls Tryd.prog 63 #[.int .u64 (nv (f1.sp &&& upF f1))] X fun e w' => e = .returned (.int .i64 lf) ∧ X = w' from hlf ▸ KF.out X hX)
    clear KG KF hlg hlf
    generalize nv (actF f1 &&& ~~~ upF f1) = va at *
    generalize nv (f1.sp &&& upF f1) = vb at *
    generalize nv (actF f1) = vc at *
    generalize nv (upF f1) = vd at *
    go_upto_region 0 with fail
    refine Rl.wp_region_rel (fun a b => Below a.heap.size a b) wr (fun a b c h h' => below_next h h') (fun a => Below.refl _ _) hmx (by kernel_rfl) (Below.refl _ _).drew ?_
    (refine Rl.textR_run ?_ (fun ρ => ?_) (fun ρ W hS hd => ?_) ?_; rotate_left; (focus go_simp); (focus (obtain ⟨hc, hf⟩ := bcell hS; go_simp; first | exact ⟨rfl, Below.refl _ _⟩ | (refine ⟨?_, Below.refl _ _⟩; rfl))); (try go_simp))
    (refine Rl.textR_run ?_ (fun ρ => ?_) (fun ρ W hS hd => ?_) ?_; rotate_left; (focus go_simp); (focus (obtain ⟨hc, hf⟩ := bcell hS; go_simp; refine (KA.out W hS).mono ?_; rintro e w1 ⟨rfl, rfl⟩; refine ⟨_, rfl, ?_, Below.refl _ _⟩; rfl)); (try go_simp))
    (refine Rl.textR_run ?_ (fun ρ => ?_) (fun ρ W hS hd => ?_) ?_; rotate_left; (focus go_simp); (focus (obtain ⟨hc, hf⟩ := bcell hS; go_simp; first | exact ⟨rfl, Below.refl _ _⟩ | (refine ⟨?_, Below.refl _ _⟩; rfl))); (try go_simp))
    (refine Rl.textR_run ?_ (fun ρ => ?_) (fun ρ W hS hd => ?_) ?_; rotate_left; (focus go_simp); (focus (obtain ⟨hc, hf⟩ := bcell hS; go_simp; refine (KU.out W hS).mono ?_; rintro e w1 ⟨rfl, hb⟩; refine ⟨_, rfl, ?_, hb⟩; rfl)); (try go_simp))
    (refine Rl.textR_run ?_ (fun ρ => ?_) (fun ρ W hS hd => ?_) ?_; rotate_left; (focus go_simp); (focus (obtain ⟨hc, hf⟩ := bcell hS; go_simp; refine (KL.out W).mono ?_; rintro e w1 ⟨rfl, rfl⟩; refine ⟨_, rfl, ?_, Below.refl _ _⟩; rfl)); (try go_simp))
    (refine Rl.textR_run ?_ (fun ρ => ?_) (fun ρ W hS hd => ?_) ?_; rotate_left; (focus go_simp); (focus (obtain ⟨hc, hf⟩ := bcell hS; go_simp; refine (KG'.out W hS).mono ?_; rintro e w1 ⟨rfl, rfl⟩; refine ⟨_, rfl, ?_, Below.refl _ _⟩; rfl)); (try go_simp))
    iterate 3 (refine Rl.textR_run ?_ (fun ρ => ?_) (fun ρ W hS hd => ?_) ?_; rotate_left; (focus go_simp); (focus (obtain ⟨hc, hf⟩ := bcell hS; go_simp; first | exact ⟨rfl, Below.refl _ _⟩ | (refine ⟨?_, Below.refl _ _⟩; rfl))); (try go_simp))
    (refine Rl.textR_run ?_ (fun ρ => ?_) (fun ρ W hS hd => ?_) ?_; rotate_left; (focus go_simp); (focus (have hfact := C4.out W hS; go_simp; first | exact ⟨rfl, Below.refl _ _⟩ | (refine ⟨?_, Below.refl _ _⟩; rfl))); (try go_simp))
    (refine Rl.textR_run ?_ (fun ρ => ?_) (fun ρ W hS hd => ?_) ?_; rotate_left; (focus go_simp); (focus (obtain ⟨hc, hf⟩ := bcell hS; go_simp; first | exact ⟨rfl, Below.refl _ _⟩ | (refine ⟨?_, Below.refl _ _⟩; rfl))); (try go_simp))
    (refine Rl.textR_run ?_ (fun ρ => ?_) (fun ρ W hS hd => ?_) ?_; rotate_left; (focus go_simp); (focus (obtain ⟨hc, hf⟩ := bcell hS; go_simp; refine (KU.out W hS).mono ?_; rintro e w1 ⟨rfl, hb⟩; refine ⟨_, rfl, ?_, hb⟩; rfl)); (try go_simp))
    (refine Rl.textR_run ?_ (fun ρ => ?_) (fun ρ W hS hd => ?_) ?_; rotate_left; (focus go_simp); (focus (obtain ⟨hc, hf⟩ := bcell hS; go_simp; refine (KN.out W).mono ?_; rintro e w1 ⟨rfl, rfl⟩; refine ⟨_, rfl, ?_, Below.refl _ _⟩; rfl)); (try go_simp))
    (refine Rl.textR_run ?_ (fun ρ => ?_) (fun ρ W hS hd => ?_) ?_; rotate_left; (focus go_simp); (focus (obtain ⟨hc, hf⟩ := bcell hS; go_simp; refine (KF'.out W hS).mono ?_; rintro e w1 ⟨rfl, rfl⟩; refine ⟨_, rfl, ?_, Below.refl _ _⟩; rfl)); (try go_simp))
    iterate 2 (refine Rl.textR_run ?_ (fun ρ => ?_) (fun ρ W hS hd => ?_) ?_; rotate_left; (focus go_simp); (focus (obtain ⟨hc, hf⟩ := bcell hS; go_simp; first | exact ⟨rfl, Below.refl _ _⟩ | (refine ⟨?_, Below.refl _ _⟩; rfl))); (try go_simp))
    refine Rl.textR_nil ?_
    intro ρ w5 hg5 hk5
    dsimp only
    have HB5 := Lib.hid hg5
    have HFL5 := Lib.hid (HFL.out.below hg5)
    have HFR5 := Lib.hid (HFR.out.trans (Fr.of_below (F := fun _ => False) hg5) (fun _ h => h.elim))
    clear hg5 hk5 KA KU KL KG' KN KF' C4 HFL HFR
    go_simp
    by_cases h1 : lg < 0
    · have d1 : decide (lg < 0) = true := decide_eq_true h1
      have hst : stopF f1 := HST.out.2 (.inl h1)
      have E := Lib.hid (HSW.out.symm.trans (HDONE.out hst))
      clear h1 hst
      go_wp2_with fail
      exact bodyPost_ret (v := .tuple #[]) (by simp [results, Tryd.results39, go_sem]) rfl ⟨⟨_, rfl⟩, by rw [E.out]; exact HFL5.out, HFR5.out⟩
    have d1 : decide (lg < 0) = false := decide_eq_false h1
    by_cases h2 : lf < 0
    · have d2 : decide (lf < 0) = true := decide_eq_true h2
      have hst : stopF f1 := HST.out.2 (.inr h2)
      have E := Lib.hid (HSW.out.symm.trans (HDONE.out hst))
      clear h1 h2 hst
      go_wp2_with fail
      exact bodyPost_ret (v := .tuple #[]) (by simp [results, Tryd.results39, go_sem]) rfl ⟨⟨_, rfl⟩, by rw [E.out]; exact HFL5.out, HFR5.out⟩
    have d2 : decide (lf < 0) = false := decide_eq_false h2
    have hns : ¬ stopF f1 := fun h => by rcases HST.out.1 h with h | h; exact h1 h; exact h2 h
    have HE := Lib.hid ((HSTEP.out hns).symm.trans HSW.out)
    have HMM := Lib.hid (HG1.out hns)
    clear h1 h2 hns
    have c4 := HFL5.out.c4
    have g4 := free_of_block 4 HFL5.out.blk
    have c5' := HFL5.out.c5
    have g5' := free_of_block 5 HFL5.out.blk
    obtain ⟨s2, hs2⟩ : ∃ s2, s2 = (f1.sp ||| oneI lg) &&& ~~~ oneI lf := ⟨_, rfl⟩
    rw [← hs2] at KO HS1
    go_wp2_with fail
    refine (KW.out _).mono ?_
    rintro e w6 ⟨rfl, rfl⟩
    go_wp2_with fail
    refine (KO.out _).mono ?_
    rintro e w6 ⟨rfl, rfl⟩
    have HFL6 := Lib.hid (HFL5.out.set4 s2)
    have HFR6 := Lib.hid (HFR5.out.set rfl 4 (.int .u64 (nv s2)))
    clear hs2 KW KO
    have c5 := HFL6.out.c5
    have g5 := free_of_block 5 HFL6.out.blk
    dsimp only at c5
    by_cases h3 : f1.sw < 9223372036854775807
    · have d3 : decide (f1.sw < 9223372036854775807) = true := decide_eq_true h3
      have hw1 : IntKind.i64.wrap (f1.sw + 1) = f1.sw + 1 := by have := HBD.out; have := HSP.out.2; rw [IntKind.wrap_i64]; omega
      have HB7 := Lib.hid (show 0 ≤ f1.sw + 1 ∧ f1.sw + 1 ≤ 9223372036854775807 by have := HBD.out; have := HSP.out.2; omega)
      rw [if_pos h3] at HS1
      clear h3
      have HFL7 := Lib.hid (show Fl ((w5.setCell ⟨F, 4, none⟩ (.int .u64 (nv s2))).setCell ⟨F, 5, none⟩ (.int .i64 (f1.sw + 1))) F G { f with sp := s2, sw := f1.sw + 1 } from by have := HFL6.out.set5 (f1.sw + 1); rw [HF1.out] at this ⊢; exact this)
      have HFR7 := Lib.hid (HFR6.out.set rfl 5 (.int .i64 (f1.sw + 1)))
      have HMW := Lib.hid (goneW_at s2 (f1.sw + 1) HFL7.out)
      go_wp2_with fail
      go_roundw
      case rel => exact ⟨⟨s2, f1.sw + 1, HFL7.out, by rw [← HS1.out]; exact HE.out, HB7.out⟩, HFR7.out⟩
      case measure =>
        rw [HMW.out, HM.out, ← HS1.out]
        have := HMM.out
        omega
    · have d3 : decide (f1.sw < 9223372036854775807) = false := decide_eq_false h3
      have HB7 := Lib.hid (show 0 ≤ f1.sw ∧ f1.sw ≤ 9223372036854775807 by have := HBD.out; have := HSP.out.2; omega)
      rw [if_neg h3] at HS1
      clear h3
      have HFL7 := Lib.hid (show Fl ((w5.setCell ⟨F, 4, none⟩ (.int .u64 (nv s2)))) F G { f with sp := s2, sw := f1.sw } from by have := HFL6.out; rw [HF1.out] at this ⊢; exact this)
      have HFR7 := Lib.hid (HFR6.out)
      have HMW := Lib.hid (goneW_at s2 (f1.sw) HFL7.out)
      go_wp2_with fail
      go_roundw
      case rel => exact ⟨⟨s2, f1.sw, HFL7.out, by rw [← HS1.out]; exact HE.out, HB7.out⟩, HFR7.out⟩
      case measure =>
        rw [HMW.out, HM.out, ← HS1.out]
        have := HMM.out
        omega
end Go.Proofs.YtnofgffkfapodaaDoor
namespace Go.Proofs.YtnofgffkfapodaaDoor
set_option linter.unusedVariables false
open Go.ChangeShapes Go.WideShapes Go.ChangeAt Go.RowKit
attribute [local go_sem ↓] Go.wp_at_zero Go.wp_at_succ comesTo_value_eq comesTo_skip_eq comesTo_enter_eq

def nextF (f : FV) (x : N3) (k : Int) : N3 := nextI x.1 x.2.1 x.2.2 f.S f.D f.P k
/-- behind what is told: the fleet, and the error -/
def tellF (f : FV) (n k : Int) : FV × Int :=
  if ¬ (0 ≤ n ∧ n < f.ns.length) then (f, 13) else if k < 0 ∨ 4 < k then (f, 2) else (swapF { f with ns := f.ns.set n.toNat (nextF f (f.ns.getD n.toNat (0, 0, 0)) k) }, 0)
set_option maxRecDepth 100000 in
set_option maxHeartbeats 8000000 in
theorem tell_fl {w : World} {F G : Nat} {f : FV} (h : Fl w F G f) (hT : TabZ w) (hF : 0 < F) (hG : 0 < G) (hs0 : 0 ≤ f.sw ∧ f.sw ≤ 9223372036854775807) (n k : Int) :
    Calls Tryd.prog 13 #[.pointer (some ⟨F, 0, none⟩), .int .i64 n, .int .i64 k] w fun e w' => e = .returned (.int .i64 (tellF f n k).2) ∧ Fl w' F G (tellF f n k).1 ∧ Fr (fun j => j = F ∨ j = G) w w' := by
  have hmx : Tryd.prog.follows .mixedOrders = true := by kernel_rfl
  have K0 := Lib.hid (there_fl h)
  have K1 := Lib.hid (has_fl h n)
  have H := Lib.hid h
  by_cases hn : 0 ≤ n ∧ n < f.ns.length
  case neg =>
    have E : tellF f n k = (f, 13) := by unfold tellF; rw [if_pos hn]
    rw [E]
    rw [decide_eq_false hn] at K1
    clear hn h hT E
    go_enter Tryd.func13, Tryd.ntmps13
    go_wp2_with fail
    refine K0.out.mono ?_
    rintro e w' ⟨rfl, rfl⟩
    go_wp2_with fail
    refine K1.out.mono ?_
    rintro e w' ⟨rfl, rfl⟩
    go_wp2_with fail
    go_ret
    exact ⟨rfl, H.out, Fr.refl _ _⟩
  case pos =>
  rw [decide_eq_true hn] at K1
  by_cases hk : k < 0 ∨ 4 < k
  · have E : tellF f n k = (f, 2) := by unfold tellF; rw [if_neg (by simpa using hn), if_pos hk]
    rw [E]
    clear hn h hT E
    by_cases h1 : k < 0
    · have d1 : decide (k < 0) = true := decide_eq_true h1
      clear h1 hk
      go_enter Tryd.func13, Tryd.ntmps13
      go_wp2_with fail
      refine K0.out.mono ?_
      rintro e w' ⟨rfl, rfl⟩
      go_wp2_with fail
      refine K1.out.mono ?_
      rintro e w' ⟨rfl, rfl⟩
      go_wp2_with fail
      go_ret
      exact ⟨rfl, H.out, Fr.refl _ _⟩
    · have d1 : decide (k < 0) = false := decide_eq_false h1
      have d2 : decide (k > 4) = true := decide_eq_true (by omega)
      have d3 : decide (4 < k) = true := decide_eq_true (by omega)
      clear h1 hk
      go_enter Tryd.func13, Tryd.ntmps13
      go_wp2_with fail
      refine K0.out.mono ?_
      rintro e w' ⟨rfl, rfl⟩
      go_wp2_with fail
      refine K1.out.mono ?_
      rintro e w' ⟨rfl, rfl⟩
      go_wp2_with fail
      go_ret
      exact ⟨rfl, H.out, Fr.refl _ _⟩
  · obtain ⟨i, rfl⟩ : ∃ i : Nat, n = (i : Int) := ⟨n.toNat, by omega⟩
    have hi : i < f.ns.length := by omega
    have hin : (i : Int) < (f.ns.length : Int) := by omega
    have E : tellF f i k = (swapF { f with ns := f.ns.set i (nextF f (f.ns.getD i (0, 0, 0)) k) }, 0) := by unfold tellF; rw [if_neg (by simpa using hn), if_neg hk]; rfl
    rw [E]
    have d1 : decide (k < 0) = false := decide_eq_false (by omega)
    have d2 : decide (k > 4) = false := decide_eq_false (by omega)
    have d3 : decide (4 < k) = false := decide_eq_false (by omega)
    have KN := Lib.hid (fun W => show Calls Tryd.prog 38 #[nodeA (f.ns.getD i (0, 0, 0)), .agg #[.int .i64 f.S, .int .i64 f.D, .int .i64 f.P], .int .i64 k] W fun e w' => e = .returned (nodeA (nextF f (f.ns.getD i (0, 0, 0)) k)) ∧ Below W.heap.size W w' from next_any _ _ _ f.S f.D f.P k W)
    obtain ⟨n0, n1, n2⟩ := h.node hi
    have c0 := h.c0
    have c1 := h.c1
    have c2 := h.c2
    have c3 := h.c3
    have HT := Lib.hid (fun X (hX : Fr (fun j => j = F ∨ j = G) w X) => show TabZ X from ⟨Nat.lt_of_lt_of_le hT.1 hX.size, fun j hj => (World.cell?_of_block (hX.block _ hT.1 (fun e => e.elim (Nat.ne_of_lt hF) (Nat.ne_of_lt hG)))).trans (hT.2 j hj)⟩)
    have HSW := Lib.hid (fun X f' (hf : Fl X F G f') (hT : TabZ X) (hs : 0 ≤ f'.sw ∧ f'.sw ≤ 9223372036854775807) => swap_fl hf hT hF hs)
    have HSET := Lib.hid (fun X (hX : Fl X F G f) x => hX.setNode hi x)
    have HS0 := Lib.hid hs0
    clear hn hk h hT E
    generalize nextF f (f.ns.getD i (0, 0, 0)) k = y at *
    generalize f.ns.getD i (0, 0, 0) = x at *
    obtain ⟨xt, xm, xb⟩ := x
    obtain ⟨yt, ym, yb⟩ := y
    unfold nodeA at KN
    dsimp only at KN n0 n1 n2
    obtain ⟨len, hlen⟩ : ∃ l, l = f.ns.length := ⟨_, rfl⟩
    have HLEN := Lib.hid hlen
    rw [← hlen] at c3 hi hin
    clear hlen
    go_enter Tryd.func13, Tryd.ntmps13
    go_wp2_with fail
    refine K0.out.mono ?_
    rintro e w' ⟨rfl, rfl⟩
    go_wp2_with fail
    refine K1.out.mono ?_
    rintro e w' ⟨rfl, rfl⟩
    go_upto_region 7 with fail
    have hltF := H.out.lt.1
    have hltG := H.out.lt.2
    refine wp_region_grow_tail 19 (fun w' => Below w.heap.size w w') hmx (by kernel_rfl) (Below.refl _ _).drew ?_
    simp only [List.take]
    iterate 17 (refine textS_run ?_ ?_ (fun W hS => ?_) ?_; rotate_left; (focus go_simp); (focus (obtain ⟨hc, hf⟩ := bcell hS; go_simp; first | rfl | exact ⟨rfl, hS⟩ | exact hS)); (try go_simp))
    (refine textS_run ?_ ?_ (fun W hS => ?_) ?_; rotate_left; (focus go_simp); (focus (obtain ⟨hc, hf⟩ := bcell hS; go_simp; refine (KN.out W).mono ?_; rintro e w1 ⟨rfl, hb⟩; refine ⟨?_, hS.trans (hb.mono hS.size)⟩; rfl)); (try go_simp))
    (refine textS_run ?_ ?_ (fun W hS => ?_) ?_; rotate_left; (focus go_simp); (focus (obtain ⟨hc, hf⟩ := bcell hS; go_simp; first | rfl | exact ⟨rfl, hS⟩ | exact hS)); (try go_simp))
    refine textS_nil ?_
    intro w3 hb3
    have HF3 := Lib.hid (H.out.below hb3)
    have HFR3 := Lib.hid (Fr.of_below (F := fun j => j = F ∨ j = G) hb3)
    have HF4 := Lib.hid (HSET.out w3 HF3.out (yt, ym, yb))
    have HFR4 := Lib.hid (((HFR3.out.set (.inr rfl) (i * 3) (.int .i64 yt)).set (.inr rfl) (i * 3 + 1) (.int .i64 ym)).set (.inr rfl) (i * 3 + 2) (.int .i64 yb))
    obtain ⟨q0, q1, q2⟩ := HF3.out.node (k := i) (by rw [← HLEN.out]; exact hi)
    have g0 := free_of_block (i * 3) HF3.out.row
    have g1 := free_of_block (i * 3 + 1) HF3.out.row
    have g2 := free_of_block (i * 3 + 2) HF3.out.row
    clear c0 c1 c2 c3 n0 n1 n2 hb3 KN hltF hltG K0 K1 H HF3 HFR3 HSET
    dsimp only at HF4
    have KS := Lib.hid (HSW.out _ _ HF4.out (HT.out _ HFR4.out) HS0.out)
    go_wp2_with fail
    refine KS.out.mono ?_
    rintro e w5 ⟨⟨v, rfl⟩, hf, hfr⟩
    have HF5 := Lib.hid hf
    have HFR5 := Lib.hid (HFR4.out.trans hfr (fun j hj => .inl (.inl hj)))
    clear hf hfr
    go_wp2_with fail
    go_ret
    exact ⟨rfl, HF5.out, HFR5.out⟩
/-- nothing but what is told and swapped turns: nodes, rules -/
theorem tellF_keeps (f : FV) (n k : Int) : (tellF f n k).1.ns.length = f.ns.length ∧ (tellF f n k).1.S = f.S ∧ (tellF f n k).1.D = f.D ∧ (tellF f n k).1.P = f.P ∧ card (tellF f n k).1.sp = card f.sp := by
  unfold tellF
  split
  · exact ⟨rfl, rfl, rfl, rfl, rfl⟩
  · split
    · exact ⟨rfl, rfl, rfl, rfl, rfl⟩
    · have := swapN_ns 64 { f with ns := f.ns.set n.toNat (nextF f (f.ns.getD n.toNat (0, 0, 0)) k) }
      refine ⟨(congrArg List.length this.1).trans List.length_set, this.2.1, this.2.2.1, this.2.2.2.1, this.2.2.2.2⟩
theorem swapN_sw : ∀ (k : Nat) (f : FV), 0 ≤ f.sw ∧ f.sw ≤ 9223372036854775807 → 0 ≤ (swapN k f).sw ∧ (swapN k f).sw ≤ 9223372036854775807
  | 0, f, h => h
  | k + 1, f, h => by
    unfold swapN
    split
    · exact h
    · refine swapN_sw k _ ?_
      show 0 ≤ (if f.sw < 9223372036854775807 then f.sw + 1 else f.sw) ∧ (if f.sw < 9223372036854775807 then f.sw + 1 else f.sw) ≤ 9223372036854775807
      split <;> omega
theorem tellF_sw (f : FV) (n k : Int) (h : 0 ≤ f.sw ∧ f.sw ≤ 9223372036854775807) : 0 ≤ (tellF f n k).1.sw ∧ (tellF f n k).1.sw ≤ 9223372036854775807 := by
  unfold tellF
  split
  · exact h
  · split
    · exact h
    · exact swapN_sw 64 _ h
end Go.Proofs.YtnofgffkfapodaaDoor
namespace Go.Proofs.YtnofgffkfapodaaDoor
set_option linter.unusedVariables false

theorem up_get (f : FV) (i : Nat) (hi : i < 64) : (upF f).getLsbD i = (decide (i < f.ns.length) && (f.ns.getD i (0, 0, 0)).1 == 0) := by
  unfold upF inF
  rw [sel_get _ _ _ hi]
def putN (f : FV) (i : Nat) (y : N3) : FV := { f with ns := f.ns.set i y }
theorem putN_len (f : FV) (i : Nat) (y : N3) : (putN f i y).ns.length = f.ns.length := List.length_set
theorem putN_all (f : FV) (i : Nat) (y : N3) : allF (putN f i y) = allF f := by unfold allF; rw [putN_len]
theorem putN_act (f : FV) (i : Nat) (y : N3) : actF (putN f i y) = actF f := by unfold actF; rw [putN_all]; rfl
theorem putN_up (f : FV) (i : Nat) (y : N3) (j : Nat) (hj : j < 64) (h : j ≠ i) : (upF (putN f i y)).getLsbD j = (upF f).getLsbD j := by
  rw [up_get _ _ hj, up_get _ _ hj, putN_len]
  congr 1
  have : (putN f i y).ns.getD j (0, 0, 0) = f.ns.getD j (0, 0, 0) := by
    show (f.ns.set i y).getD j _ = _
    rw [List.getD_eq_getElem?_getD, List.getElem?_set_ne (by omega), List.getD_eq_getElem?_getD]
  rw [this]
theorem act_get (f : FV) (i : Nat) (hi : i < 64) : (actF f).getLsbD i = (decide (i < f.ns.length) && !f.sp.getLsbD i) := by
  unfold actF allF
  rw [get_diff _ _ _ hi, firstI_get _ _ hi]
  congr 1
  exact decide_eq_decide.2 (by omega)
theorem gone_act (f : FV) (i : Nat) (hi : i < 64) : (goneF f).getLsbD i = ((actF f).getLsbD i && !(upF f).getLsbD i) := by
  unfold goneF
  rw [get_diff _ _ _ hi]
theorem free_get (f : FV) (i : Nat) : (freeF f).getLsbD i = (f.sp.getLsbD i && (upF f).getLsbD i) := by
  unfold freeF
  rw [BitVec.getLsbD_and]
theorem zero_of {s : NSet} (h : ∀ i, i < 64 → s.getLsbD i = true → False) : s = 0#64 := set_ext fun i hi => by
  rw [BitVec.getLsbD_zero]
  cases hs : s.getLsbD i with
  | false => rfl
  | true => exact (h i hi hs).elim
/-- one node turns: behind a swap there is nothing to swap -/
theorem swap_once {f : FV} (hs : stopF f) (i : Nat) (y : N3) (h : ¬ stopF (putN f i y)) : stopF (swap1 (putN f i y)) := by
  obtain ⟨a, b, ea, eb, ha, hb, hne, hl, h1, h2, h3, h4, hg⟩ := swap1_get h
  rcases hs with hs | hs
  · refine .inl (zero_of fun j hj hx => ?_)
    rw [gone_get _ j hj, swap1_up, hg j hj] at hx
    simp only [Bool.and_eq_true, Bool.not_eq_true', decide_eq_true_eq, Bool.or_eq_false_iff, decide_eq_false_iff_not] at hx
    obtain ⟨⟨hj1, hj2, hj3⟩, hj4⟩ := hx
    have old : ∀ k, k < 64 → k ≠ i → k < f.ns.length → f.sp.getLsbD k = false → (upF (putN f i y)).getLsbD k = false → False := fun k hk hki hkl hks hku => by
      have : (goneF f).getLsbD k = true := by rw [gone_get _ _ hk, hks, ← putN_up f i y k hk hki, hku]; simp [hkl]
      rw [hs, BitVec.getLsbD_zero] at this
      cases this
    have hai : a = i := Classical.byContradiction fun hx => old a ha hx (by rw [putN_len] at hl; exact hl) h1 h2
    have hji : j = i := Classical.byContradiction fun hx => by
      refine old j hj hx (by have := putN_len f i y; have e : (swap1 (putN f i y)).ns.length = (putN f i y).ns.length := rfl; omega) ?_ hj4
      have hjb : j ≠ b := fun e => by rw [e, h4] at hj4; cases hj4
      have : (putN f i y).sp.getLsbD j = false := by
        cases hq : (putN f i y).sp.getLsbD j with
        | false => rfl
        | true => rw [hq] at hj3; simp [hjb] at hj3
      exact this
    exact hj2 (hji.trans hai.symm)
  · refine .inr (zero_of fun j hj hx => ?_)
    rw [free_get, swap1_up, hg j hj] at hx
    simp only [Bool.and_eq_true, Bool.or_eq_true, Bool.not_eq_true', decide_eq_true_eq, decide_eq_false_iff_not] at hx
    obtain ⟨hx1, hx2⟩ := hx
    have old : ∀ k, k < 64 → k ≠ i → f.sp.getLsbD k = true → (upF (putN f i y)).getLsbD k = true → False := fun k hk hki hks hku => by
      have : (freeF f).getLsbD k = true := by rw [free_get, hks, ← putN_up f i y k hk hki, hku]; rfl
      rw [hs, BitVec.getLsbD_zero] at this
      cases this
    have hbi : b = i := Classical.byContradiction fun hx => old b hb hx h3 h4
    rcases hx1 with e | ⟨hx1, hx3⟩
    · rw [e, h2] at hx2; cases hx2
    · by_cases hji : j = i
      · exact hx3 (hji.trans hbi.symm)
      · exact old j hj hji hx1 hx2
/-- the active nodes that are up -/
def cF (f : FV) : Nat := card (actF f &&& upF f)
theorem card_less_one (s : NSet) (i : Nat) (hi : i < 64) : card s ≤ card (s &&& ~~~ oneI (i : Int)) + 1 := by
  by_cases h : s.getLsbD i = true
  · have hsub : Sub (oneI (i : Int)) s := sub_iff.2 fun j hj hh => by
      rw [oneI_get, Bool.and_eq_true, decide_eq_true_eq, decide_eq_true_eq] at hh
      obtain rfl : i = j := by omega
      exact h
    have := card_diff hsub
    rw [card_one hi] at this
    omega
  · have : s &&& ~~~ oneI (i : Int) = s := set_ext fun j hj => by
      rw [get_diff _ _ _ hj, oneI_get]
      by_cases hji : j = i
      · subst hji; simp only [Bool.not_eq_true] at h; rw [h]; rfl
      · have : ¬ (i : Int) = (j : Int) := by omega
        simp [this]
    rw [this]
    omega
theorem putN_c (f : FV) (i : Nat) (hi : i < 64) (y : N3) : cF f ≤ cF (putN f i y) + 1 := by
  unfold cF
  refine Nat.le_trans (card_less_one _ i hi) (Nat.add_le_add_right (card_mono (sub_iff.2 fun j hj h => ?_)) 1)
  rw [get_diff _ _ _ hj, oneI_get, BitVec.getLsbD_and] at h
  simp only [Bool.and_eq_true, Bool.not_eq_true', Bool.and_eq_false_iff, decide_eq_false_iff_not] at h
  have hji : j ≠ i := fun e => by
    rcases h.2 with h2 | h2
    · exact h2 hj
    · exact h2 (by omega)
  rw [BitVec.getLsbD_and, putN_act, putN_up f i y j hj hji, h.1.1, h.1.2]
  rfl
theorem swap1_c {f : FV} (h : ¬ stopF f) (hl64 : f.ns.length ≤ 64) (hsub : Sub f.sp (allF f)) : cF (swap1 f) = cF f + 1 := by
  obtain ⟨a, b, ea, eb, ha, hb, hne, hl, h1, h2, h3, h4, hg⟩ := swap1_get h
  have hbl : b < f.ns.length := by
    have := sub_iff.1 hsub b hb h3
    unfold allF at this
    rw [firstI_get _ _ hb, decide_eq_true_eq] at this
    omega
  have hn : (actF f &&& upF f).getLsbD b = false := by rw [BitVec.getLsbD_and, act_get _ _ hb, h3]; simp
  unfold cF
  rw [← card_with hb hn]
  congr 1
  refine set_ext fun j hj => ?_
  rw [BitVec.getLsbD_and, BitVec.getLsbD_or, BitVec.getLsbD_and, swap1_up, act_get _ _ hj, act_get _ _ hj, hg j hj, oneI_get, show (swap1 f).ns = f.ns from rfl]
  by_cases hja : j = a
  · subst hja
    have hba : ¬ (b : Int) = (j : Int) := by omega
    rw [h2]
    simp [hba]
  · by_cases hjb : j = b
    · subst hjb
      rw [h4, h3]
      simp [hja, hbl, hj]
    · have hjb' : ¬ (b : Int) = (j : Int) := by omega
      simp [hja, hjb, hjb']
/-- what stays so, whatever is told: of N nodes, s spares, behind j tellings -/
structure FInv (f : FV) (N s j : Nat) : Prop where
  stop : stopF f
  sub : Sub f.sp (allF f)
  cd : card f.sp = s
  len : f.ns.length = N
  le : N ≤ 64
  sw : 0 ≤ f.sw ∧ f.sw ≤ (j : Int)
theorem swap1_sub {f : FV} (h : ¬ stopF f) (hsub : Sub f.sp (allF f)) : Sub (swap1 f).sp (allF (swap1 f)) := by
  obtain ⟨a, b, ea, eb, ha, hb, hne, hl, h1, h2, h3, h4, hg⟩ := swap1_get h
  refine sub_iff.2 fun i hi hx => ?_
  rw [hg i hi] at hx
  rw [swap1_all]
  simp only [Bool.or_eq_true, decide_eq_true_eq, Bool.and_eq_true] at hx
  rcases hx with rfl | ⟨hx, _⟩
  · unfold allF
    rw [firstI_get _ _ hi, decide_eq_true_eq]
    omega
  · exact sub_iff.1 hsub i hi hx
theorem card_firstI : ∀ m : Nat, m ≤ 64 → card (firstI (m : Int)) = m := by
  have h : ∀ m : Nat, m < 65 → card (firstI (m : Int)) = m := by decide +kernel
  exact fun m hm => h m (by omega)
/-- as many are not up as there are spares at most: all active ones are up -/
theorem FInv.all {f : FV} {N s j : Nat} (h : FInv f N s j) (hg : (N : Int) - (card (upF f) : Int) ≤ (s : Int)) : goneF f = 0#64 := by
  rcases h.stop with hs | hs
  · exact hs
  · have hup : Sub (upF f) (allF f) := sel_sub _ _
    have h1 := card_diff hup
    have h2 : card (allF f) = N := by unfold allF; rw [h.len]; exact card_firstI N h.le
    have hap : f.sp &&& goneF f = 0#64 := zero_of fun i hi hx => by
      rw [BitVec.getLsbD_and, gone_act _ _ hi, act_get _ _ hi] at hx
      cases hb : f.sp.getLsbD i <;> rw [hb] at hx <;> simp at hx
    have h3 := card_or_apart hap
    have h4 : Sub (f.sp ||| goneF f) (allF f &&& ~~~ upF f) := sub_iff.2 fun i hi hx => by
      rw [BitVec.getLsbD_or] at hx
      rw [get_diff _ _ _ hi]
      cases hsp : f.sp.getLsbD i with
      | true =>
        have hu : (upF f).getLsbD i = false := by
          have : (freeF f).getLsbD i = false := by rw [hs, BitVec.getLsbD_zero]
          rw [free_get, hsp, Bool.true_and] at this
          exact this
        rw [sub_iff.1 h.sub i hi hsp, hu]; rfl
      | false =>
        rw [hsp, Bool.false_or, gone_act _ _ hi, Bool.and_eq_true, act_get _ _ hi, Bool.and_eq_true] at hx
        unfold allF
        rw [firstI_get _ _ hi]
        have := of_decide_eq_true hx.1.1
        rw [hx.2, decide_eq_true (by omega)]; rfl
    have h5 := card_mono h4
    have h6 := h.cd
    exact card_eq_zero (by omega)
theorem FInv.more {f : FV} {N s j : Nat} (h : FInv f N s j) : FInv f N s (j + 1) := ⟨h.stop, h.sub, h.cd, h.len, h.le, h.sw.1, by have := h.sw.2; omega⟩
/-- a telling -/
theorem FInv.tell {f : FV} {N s j : Nat} (h : FInv f N s j) (hj : j < 1000) (n k : Int) :
    FInv (tellF f n k).1 N s (j + 1) ∧ f.sw ≤ (tellF f n k).1.sw ∧ (tellF f n k).1.sw ≤ f.sw + 1 ∧ (f.sw < (tellF f n k).1.sw → cF f ≤ cF (tellF f n k).1) ∧ cF f ≤ cF (tellF f n k).1 + 1 := by
  unfold tellF
  split
  · dsimp only
    exact ⟨h.more, Int.le_refl _, by omega, fun hx => by omega, by omega⟩
  · rename_i hn
    split
    · dsimp only
      exact ⟨h.more, Int.le_refl _, by omega, fun hx => by omega, by omega⟩
    · have hi : n.toNat < f.ns.length := by omega
      have hi64 : n.toNat < 64 := by have := h.len; have := h.le; omega
      have hp := putN_c f n.toNat hi64 (nextF f (f.ns.getD n.toNat (0, 0, 0)) k)
      have ho := fun hx => swap_once h.stop n.toNat (nextF f (f.ns.getD n.toNat (0, 0, 0)) k) hx
      show FInv (swapF (putN f n.toNat (nextF f (f.ns.getD n.toNat (0, 0, 0)) k))) N s (j + 1) ∧ f.sw ≤ (swapF (putN f n.toNat (nextF f (f.ns.getD n.toNat (0, 0, 0)) k))).sw ∧ (swapF (putN f n.toNat (nextF f (f.ns.getD n.toNat (0, 0, 0)) k))).sw ≤ f.sw + 1 ∧ (f.sw < (swapF (putN f n.toNat (nextF f (f.ns.getD n.toNat (0, 0, 0)) k))).sw → cF f ≤ cF (swapF (putN f n.toNat (nextF f (f.ns.getD n.toNat (0, 0, 0)) k)))) ∧ cF f ≤ cF (swapF (putN f n.toNat (nextF f (f.ns.getD n.toNat (0, 0, 0)) k))) + 1
      generalize nextF f (f.ns.getD n.toNat (0, 0, 0)) k = y at *
      have hlen := putN_len f n.toNat y
      have hsub : Sub (putN f n.toNat y).sp (allF (putN f n.toNat y)) := by rw [putN_all]; exact h.sub
      have hsw : (putN f n.toNat y).sw = f.sw := rfl
      have hc : card (putN f n.toNat y).sp = s := h.cd
      by_cases hs : stopF (putN f n.toNat y)
      · rw [swapF_done hs]
        exact ⟨⟨hs, hsub, hc, hlen.trans h.len, h.le, h.sw.1, by have := h.sw.2; rw [hsw]; omega⟩, by rw [hsw]; exact Int.le_refl _, by rw [hsw]; omega, fun hx => by rw [hsw] at hx; omega, hp⟩
      · rw [swapF_step hs, swapF_done (ho hs)]
        have hc1 := swap1_c hs (by rw [hlen, h.len]; exact h.le) hsub
        have hw : (swap1 (putN f n.toNat y)).sw = f.sw + 1 := by
          show (if (putN f n.toNat y).sw < 9223372036854775807 then (putN f n.toNat y).sw + 1 else (putN f n.toNat y).sw) = _
          have := h.sw.2
          rw [hsw, if_pos (by omega)]
        refine ⟨⟨ho hs, swap1_sub hs hsub, (swap1_card hs).trans hc, hlen.trans h.len, h.le, by have := h.sw.1; rw [hw]; omega, by have := h.sw.2; rw [hw]; omega⟩, by rw [hw]; omega, by rw [hw]; omega, fun _ => by omega, by omega⟩
theorem newF_inv (n s : Nat) (S D P : Int) (h1 : 1 ≤ n) (h2 : n ≤ 64) (h3 : s < n) : FInv (newF n s S D P) n s 0 := by
  have hall : allF (newF n s S D P) = firstI n := by unfold allF newF; simp
  have hsp : (newF n s S D P).sp = firstI n &&& ~~~ firstI ((n : Int) - (s : Int)) := rfl
  have hsb : Sub (firstI ((n : Int) - (s : Int))) (firstI n) := sub_iff.2 fun i hi hx => by
    rw [firstI_get _ _ hi, decide_eq_true_eq] at hx ⊢
    omega
  refine ⟨.inl (zero_of fun i hi hx => ?_), ?_, ?_, by unfold newF; simp, h2, by show (0 : Int) ≤ 0 ∧ (0 : Int) ≤ ((0 : Nat) : Int); omega⟩
  · rw [gone_get _ _ hi, up_get _ _ hi] at hx
    have : ((newF n s S D P).ns.getD i (0, 0, 0)).1 = 0 := by
      unfold newF
      simp only [List.getD_eq_getElem?_getD]
      by_cases hin : i < n
      · simp [hin]
      · simp [hin]
    rw [this] at hx
    simp only [Bool.and_eq_true, Bool.not_eq_true', decide_eq_true_eq, beq_self_eq_true, Bool.and_true, decide_eq_false_iff_not] at hx
    exact hx.2 hx.1.1
  · rw [hall, hsp]
    exact sub_iff.2 fun i hi hx => by rw [get_diff _ _ _ hi, Bool.and_eq_true] at hx; exact hx.1
  · rw [hsp]
    have h5 := card_diff hsb
    rw [card_firstI n h2, show ((n : Int) - (s : Int)) = ((n - s : Nat) : Int) by omega, card_firstI (n - s) (by omega)] at h5
    rw [show ((n : Int) - (s : Int)) = ((n - s : Nat) : Int) by omega]
    omega
end Go.Proofs.YtnofgffkfapodaaDoor
namespace Go.Proofs.YtnofgffkfapodaaDoor
set_option linter.unusedVariables false
open Go.ChangeShapes Go.WideShapes Go.ChangeAt Go.RowKit
attribute [local go_sem ↓] Go.wp_at_zero Go.wp_at_succ comesTo_value_eq comesTo_skip_eq comesTo_enter_eq Rl.comesToR_value_eq Rl.comesToR_skip_eq Rl.comesToR_enter_eq

set_option maxRecDepth 100000 in
theorem right1_any {w : World} {F G B : Nat} {f : FV} (h : Fl w F G f) (hB : w.heap[B]? = some (.cells #[.pointer (some ⟨F, 0, none⟩)] 26 (0, 0))) (x : N3) :
    Calls Tryd.prog 72 #[nodeA x, .pointer (some ⟨B, 0, none⟩)] w fun e w' => e = .returned (.bool (!rightN x.1 x.2.1 x.2.2 f.S f.D f.P)) ∧ Below w.heap.size w w' := by
  have hmx : Tryd.prog.follows .mixedOrders = true := by kernel_rfl
  obtain ⟨t, m, b⟩ := x
  unfold nodeA
  dsimp only
  have hA := below_alloc (Below.refl _ w) (.cells #[.int .i64 t, .int .i64 m, .int .i64 b] 62)
  have nN := World.alloc_heap_new w (.cells #[.int .i64 t, .int .i64 m, .int .i64 b] 62)
  have hF := h.below hA
  have nB := (hA.block _ (Array.getElem?_eq_some_iff.1 hB).1).trans hB
  have KR := Lib.hid (fun W => rightN_any t m b f.S f.D f.P W)
  have HA := Lib.hid hA
  generalize rightN t m b f.S f.D f.P = rr at *
  have X0 := Lib.hid (fun X (hX : Below (w.alloc (.cells #[.int .i64 t, .int .i64 m, .int .i64 b] 62)).heap.size (w.alloc (.cells #[.int .i64 t, .int .i64 m, .int .i64 b] 62)) X) => (hX.block _ (Array.getElem?_eq_some_iff.1 nN).1).trans nN)
  have X1 := Lib.hid (fun X (hX : Below (w.alloc (.cells #[.int .i64 t, .int .i64 m, .int .i64 b] 62)).heap.size (w.alloc (.cells #[.int .i64 t, .int .i64 m, .int .i64 b] 62)) X) => (hX.block _ (Array.getElem?_eq_some_iff.1 nB).1).trans nB)
  have X2 := Lib.hid (fun X (hX : Below (w.alloc (.cells #[.int .i64 t, .int .i64 m, .int .i64 b] 62)).heap.size (w.alloc (.cells #[.int .i64 t, .int .i64 m, .int .i64 b] 62)) X) => hF.below hX)
  clear hA h hB hF nN nB
  go_enter Tryd.func72, Tryd.ntmps72
  go_upto_region 1 with fail
  generalize w.alloc (.cells #[.int .i64 t, .int .i64 m, .int .i64 b] 62) = W1 at *
  refine Rl.wp_region_rel (fun a b => Below a.heap.size a b) W1 (fun a b c h h' => below_next h h') (fun a => Below.refl _ _) hmx (by kernel_rfl) (Below.refl _ _).drew ?_
  (refine Rl.textR_run ?_ (fun ρ => ?_) (fun ρ W hS hd => ?_) ?_; rotate_left; (focus go_simp); (focus (have hfact0 := cell_of_block (o := 0) (X0.out W hS) rfl; have hfact1 := cell_of_block (o := 1) (X0.out W hS) rfl; have hfact2 := cell_of_block (o := 2) (X0.out W hS) rfl; go_simp; first | exact ⟨rfl, Below.refl _ _⟩ | (refine ⟨?_, Below.refl _ _⟩; rfl))); (try go_simp))
  (refine Rl.textR_run ?_ (fun ρ => ?_) (fun ρ W hS hd => ?_) ?_; rotate_left; (focus go_simp); (focus (have hfact := cell_of_block (o := 0) (X1.out W hS) rfl; go_simp; first | exact ⟨rfl, Below.refl _ _⟩ | (refine ⟨?_, Below.refl _ _⟩; rfl))); (try go_simp))
  iterate 2 (refine Rl.textR_run ?_ (fun ρ => ?_) (fun ρ W hS hd => ?_) ?_; rotate_left; (focus go_simp); (focus (obtain ⟨hc, hf⟩ := bcell hS; go_simp; first | exact ⟨rfl, Below.refl _ _⟩ | (refine ⟨?_, Below.refl _ _⟩; rfl))); (try go_simp))
  (refine Rl.textR_run ?_ (fun ρ => ?_) (fun ρ W hS hd => ?_) ?_; rotate_left; (focus go_simp); (focus (have hfact0 := (X2.out W hS).c0; have hfact1 := (X2.out W hS).c1; have hfact2 := (X2.out W hS).c2; go_simp; first | exact ⟨rfl, Below.refl _ _⟩ | (refine ⟨?_, Below.refl _ _⟩; rfl))); (try go_simp))
  (refine Rl.textR_run ?_ (fun ρ => ?_) (fun ρ W hS hd => ?_) ?_; rotate_left; (focus go_simp); (focus (obtain ⟨hc, hf⟩ := bcell hS; go_simp; refine (KR.out W).mono ?_; rintro e w1 ⟨rfl, hb⟩; refine ⟨_, rfl, ?_, hb⟩; rfl)); (try go_simp))
  iterate 2 (refine Rl.textR_run ?_ (fun ρ => ?_) (fun ρ W hS hd => ?_) ?_; rotate_left; (focus go_simp); (focus (obtain ⟨hc, hf⟩ := bcell hS; go_simp; first | exact ⟨rfl, Below.refl _ _⟩ | (refine ⟨?_, Below.refl _ _⟩; rfl))); (try go_simp))
  refine Rl.textR_nil ?_
  intro ρ wA hgA hkA
  dsimp only
  have HGA := Lib.hid (below_next HA.out hgA)
  clear hgA hkA
  go_simp
  go_wp2_with fail
  go_ret
  exact ⟨rfl, HGA.out⟩
def wrongS (f : FV) : NSet := sel (fun x => !rightN x.1 x.2.1 x.2.2 f.S f.D f.P) f.ns
/-- may it be -/
def rightG (f : FV) : Bool := rightR f.S f.D f.P && (f.sp &&& ~~~ allF f == 0#64) && !(f.sp == allF f) && (wrongS f == 0#64) && (goneF f == 0#64 || freeF f == 0#64)
theorem nvz (s : NSet) : (nv s == 0) = (s == 0#64) := by rw [nv_is0]; rfl
set_option maxRecDepth 100000 in
set_option maxHeartbeats 8000000 in
theorem right_fl {w : World} {F G : Nat} {f : FV} (h : Fl w F G f) (hT : TabZ w) : Calls Tryd.prog 48 #[.pointer (some ⟨F, 0, none⟩)] w fun e w' => e = .returned (.bool (rightG f)) ∧ Below w.heap.size w w' := by
  have hmx : Tryd.prog.follows .mixedOrders = true := by kernel_rfl
  have hA := below_alloc (Below.refl _ w) (.cells #[.pointer (some ⟨F, 0, none⟩)] 26)
  have nB := World.alloc_heap_new w (.cells #[.pointer (some ⟨F, 0, none⟩)] 26)
  have HF := Lib.hid (h.below hA)
  have HTZ := Lib.hid (hT.below hA)
  have HA := Lib.hid hA
  have NB := Lib.hid nB
  have b0 := cell_of_block (o := 0) nB rfl
  have HRG := Lib.hid (show rightG f = (rightR f.S f.D f.P && (nv (f.sp &&& ~~~ allF f) == 0) && !(nv f.sp == nv (allF f)) && (nv (wrongS f) == 0) && (nv (goneF f) == 0 || nv (freeF f) == 0)) by
    unfold rightG
    rw [nvz, nvz, nvz, nvz, nv_eq]
    rfl)
  clear h hT hA nB
  go_enter Tryd.func48, Tryd.ntmps48
  go_upto_region 1 with fail
  generalize w.alloc (.cells #[.pointer (some ⟨F, 0, none⟩)] 26) = W1 at *
  have KLn := Lib.hid (flen_fl HF.out)
  have KFi := Lib.hid (fun X => show Calls Tryd.prog 32 #[.int .i64 f.ns.length] X fun e w' => e = .returned (.int .u64 (nv (allF f))) ∧ X = w' from first_any f.ns.length X)
  have KW := Lib.hid (where_any HF.out HTZ.out 72 #[.pointer (some ⟨w.heap.size, 0, none⟩)] (fun x => !rightN x.1 x.2.1 x.2.2 f.S f.D f.P) (enters_of Tryd.func72 (by kernel_rfl) rfl)
    (fun x X hX => right1_any (HF.out.below hX) ((hX.block _ (Array.getElem?_eq_some_iff.1 NB.out).1).trans NB.out) x))
  go_wp2_with fail
  refine KLn.out.mono ?_
  rintro e w' ⟨rfl, rfl⟩
  go_wp2_with fail
  refine (KFi.out _).mono ?_
  rintro e w' ⟨rfl, rfl⟩
  go_wp2_with fail
  refine KW.out.mono ?_
  rintro e w2 ⟨rfl, hb2⟩
  have HF2 := Lib.hid (HF.out.below hb2)
  have HT2 := Lib.hid (HTZ.out.below hb2)
  have HA2 := Lib.hid (below_next HA.out hb2)
  have NB2 := Lib.hid ((hb2.block _ (Array.getElem?_eq_some_iff.1 NB.out).1).trans NB.out)
  clear hb2 KLn KFi KW HF HTZ HA NB b0
  have hwr : nv (sel (fun x => !rightN x.1 x.2.1 x.2.2 f.S f.D f.P) f.ns) = nv (wrongS f) := rfl
  rw [hwr]
  clear hwr
  have KA := Lib.hid (fun X (hX : Below w2.heap.size w2 X) => factive_fl (HF2.out.below hX))
  have KU := Lib.hid (fun X (hX : Below w2.heap.size w2 X) => up_fl (HF2.out.below hX) (HT2.out.below hX))
  have KL := Lib.hid (fun X => show Calls Tryd.prog 24 #[.int .u64 (nv (actF f)), .int .u64 (nv (upF f))] X fun e w' => e = .returned (.int .u64 (nv (goneF f))) ∧ X = w' from bless_any (actF f) (upF f) X)
  have KN := Lib.hid (fun X => show Calls Tryd.prog 25 #[.int .u64 (nv f.sp), .int .u64 (nv (upF f))] X fun e w' => e = .returned (.int .u64 (nv (freeF f))) ∧ X = w' from and_any f.sp (upF f) X)
  have KT := Lib.hid (fun X (hX : Below w2.heap.size w2 X) => there_fl (HF2.out.below hX))
  have KR := Lib.hid (fun X => rightR_any f.S f.D f.P X)
  have KX := Lib.hid (fun X => bless_any f.sp (allF f) X)
  have B0 := Lib.hid (fun X (hX : Below w2.heap.size w2 X) => cell_of_block (o := 0) ((hX.block _ (Array.getElem?_eq_some_iff.1 NB2.out).1).trans NB2.out) rfl)
  have C0 := Lib.hid (fun X (hX : Below w2.heap.size w2 X) => (HF2.out.below hX).c0)
  have C1 := Lib.hid (fun X (hX : Below w2.heap.size w2 X) => (HF2.out.below hX).c1)
  have C2 := Lib.hid (fun X (hX : Below w2.heap.size w2 X) => (HF2.out.below hX).c2)
  have C4 := Lib.hid (fun X (hX : Below w2.heap.size w2 X) => (HF2.out.below hX).c4)
  generalize hrgf : rightG f = rg at *
  have HRGE := Lib.hid hrgf
  clear hrgf
  generalize rightR f.S f.D f.P = rr at *
  generalize nv (f.sp &&& ~~~ allF f) = vx at *
  generalize nv (allF f) = va at *
  generalize nv (wrongS f) = vw at *
  generalize nv (goneF f) = vg at *
  generalize nv (freeF f) = vf at *
  generalize nv (actF f) = vact at *
  generalize nv (upF f) = vup at *
  generalize nv f.sp = vsp at *
  clear HF2 HT2 NB2
  obtain ⟨bg, hbg⟩ : ∃ b, b = (vg == 0) := ⟨_, rfl⟩
  obtain ⟨bf, hbf⟩ : ∃ b, b = (vf == 0) := ⟨_, rfl⟩
  have hsg := hbg.symm
  have hsf := hbf.symm
  have HRG2 := Lib.hid (show rg = (rr && (vx == 0) && !(vsp == va) && (vw == 0) && (bg || bf)) by rw [HRG.out, hbg, hbf])
  clear HRG hbg hbf
  go_upto_region 3 with fail
  go_cut [5] (fun s wx => s = .bool (bg || bf) ∧ Below w2.heap.size w2 wx)
  case first =>
    cases bg with
    | true =>
      refine Rl.wp_region_rel (fun a b => Below a.heap.size a b) w2 (fun a b c h h' => below_next h h') (fun a => Below.refl _ _) hmx (by kernel_rfl) (Below.refl _ _).drew ?_
      (refine Rl.textR_run ?_ (fun ρ => ?_) (fun ρ W hS hd => ?_) ?_; rotate_left; (focus go_simp); (focus (have hfact := B0.out W hS; go_simp; first | exact ⟨rfl, Below.refl _ _⟩ | (refine ⟨?_, Below.refl _ _⟩; rfl))); (try go_simp))
      (refine Rl.textR_run ?_ (fun ρ => ?_) (fun ρ W hS hd => ?_) ?_; rotate_left; (focus go_simp); (focus (obtain ⟨hc, hf⟩ := bcell hS; go_simp; refine (KA.out W hS).mono ?_; rintro e w1 ⟨rfl, rfl⟩; refine ⟨_, rfl, ?_, Below.refl _ _⟩; rfl)); (try go_simp))
      (refine Rl.textR_run ?_ (fun ρ => ?_) (fun ρ W hS hd => ?_) ?_; rotate_left; (focus go_simp); (focus (have hfact := B0.out W hS; go_simp; first | exact ⟨rfl, Below.refl _ _⟩ | (refine ⟨?_, Below.refl _ _⟩; rfl))); (try go_simp))
      (refine Rl.textR_run ?_ (fun ρ => ?_) (fun ρ W hS hd => ?_) ?_; rotate_left; (focus go_simp); (focus (obtain ⟨hc, hf⟩ := bcell hS; go_simp; refine (KU.out W hS).mono ?_; rintro e w1 ⟨rfl, hb⟩; refine ⟨_, rfl, ?_, hb⟩; rfl)); (try go_simp))
      (refine Rl.textR_run ?_ (fun ρ => ?_) (fun ρ W hS hd => ?_) ?_; rotate_left; (focus go_simp); (focus (obtain ⟨hc, hf⟩ := bcell hS; go_simp; refine (KL.out W).mono ?_; rintro e w1 ⟨rfl, rfl⟩; refine ⟨_, rfl, ?_, Below.refl _ _⟩; rfl)); (try go_simp))
      iterate 2 (refine Rl.textR_run ?_ (fun ρ => ?_) (fun ρ W hS hd => ?_) ?_; rotate_left; (focus go_simp); (focus (obtain ⟨hc, hf⟩ := bcell hS; go_simp; first | exact ⟨rfl, Below.refl _ _⟩ | (refine ⟨?_, Below.refl _ _⟩; rfl))); (try go_simp))
      iterate 8 (refine Rl.textR_skip (fun ρ => ?_) ?_; (focus (first | rfl | (go_simp; done) | (go_simp; rfl))); (try go_simp))
      iterate 2 (refine Rl.textR_run ?_ (fun ρ => ?_) (fun ρ W hS hd => ?_) ?_; rotate_left; (focus go_simp); (focus (obtain ⟨hc, hf⟩ := bcell hS; go_simp; first | exact ⟨rfl, Below.refl _ _⟩ | (refine ⟨?_, Below.refl _ _⟩; rfl))); (try go_simp))
      refine Rl.textR_nil ?_
      intro ρ wA hgA hkA
      dsimp only
      have HGA := Lib.hid hgA
      clear hgA hkA
      go_simp
      go_wp2_with fail
      go_meet
      exact ⟨rfl, HGA.out⟩
    | false =>
      refine Rl.wp_region_rel (fun a b => Below a.heap.size a b) w2 (fun a b c h h' => below_next h h') (fun a => Below.refl _ _) hmx (by kernel_rfl) (Below.refl _ _).drew ?_
      (refine Rl.textR_run ?_ (fun ρ => ?_) (fun ρ W hS hd => ?_) ?_; rotate_left; (focus go_simp); (focus (have hfact := B0.out W hS; go_simp; first | exact ⟨rfl, Below.refl _ _⟩ | (refine ⟨?_, Below.refl _ _⟩; rfl))); (try go_simp))
      (refine Rl.textR_run ?_ (fun ρ => ?_) (fun ρ W hS hd => ?_) ?_; rotate_left; (focus go_simp); (focus (obtain ⟨hc, hf⟩ := bcell hS; go_simp; refine (KA.out W hS).mono ?_; rintro e w1 ⟨rfl, rfl⟩; refine ⟨_, rfl, ?_, Below.refl _ _⟩; rfl)); (try go_simp))
      (refine Rl.textR_run ?_ (fun ρ => ?_) (fun ρ W hS hd => ?_) ?_; rotate_left; (focus go_simp); (focus (have hfact := B0.out W hS; go_simp; first | exact ⟨rfl, Below.refl _ _⟩ | (refine ⟨?_, Below.refl _ _⟩; rfl))); (try go_simp))
      (refine Rl.textR_run ?_ (fun ρ => ?_) (fun ρ W hS hd => ?_) ?_; rotate_left; (focus go_simp); (focus (obtain ⟨hc, hf⟩ := bcell hS; go_simp; refine (KU.out W hS).mono ?_; rintro e w1 ⟨rfl, hb⟩; refine ⟨_, rfl, ?_, hb⟩; rfl)); (try go_simp))
      (refine Rl.textR_run ?_ (fun ρ => ?_) (fun ρ W hS hd => ?_) ?_; rotate_left; (focus go_simp); (focus (obtain ⟨hc, hf⟩ := bcell hS; go_simp; refine (KL.out W).mono ?_; rintro e w1 ⟨rfl, rfl⟩; refine ⟨_, rfl, ?_, Below.refl _ _⟩; rfl)); (try go_simp))
      iterate 2 (refine Rl.textR_run ?_ (fun ρ => ?_) (fun ρ W hS hd => ?_) ?_; rotate_left; (focus go_simp); (focus (obtain ⟨hc, hf⟩ := bcell hS; go_simp; first | exact ⟨rfl, Below.refl _ _⟩ | (refine ⟨?_, Below.refl _ _⟩; rfl))); (try go_simp))
      (refine Rl.textR_run ?_ (fun ρ => ?_) (fun ρ W hS hd => ?_) ?_; rotate_left; (focus go_simp); (focus (have hfact := B0.out W hS; go_simp; first | exact ⟨rfl, Below.refl _ _⟩ | (refine ⟨?_, Below.refl _ _⟩; rfl))); (try go_simp))
      iterate 2 (refine Rl.textR_run ?_ (fun ρ => ?_) (fun ρ W hS hd => ?_) ?_; rotate_left; (focus go_simp); (focus (obtain ⟨hc, hf⟩ := bcell hS; go_simp; first | exact ⟨rfl, Below.refl _ _⟩ | (refine ⟨?_, Below.refl _ _⟩; rfl))); (try go_simp))
      (refine Rl.textR_run ?_ (fun ρ => ?_) (fun ρ W hS hd => ?_) ?_; rotate_left; (focus go_simp); (focus (have hfact := C4.out W hS; go_simp; first | exact ⟨rfl, Below.refl _ _⟩ | (refine ⟨?_, Below.refl _ _⟩; rfl))); (try go_simp))
      (refine Rl.textR_run ?_ (fun ρ => ?_) (fun ρ W hS hd => ?_) ?_; rotate_left; (focus go_simp); (focus (have hfact := B0.out W hS; go_simp; first | exact ⟨rfl, Below.refl _ _⟩ | (refine ⟨?_, Below.refl _ _⟩; rfl))); (try go_simp))
      (refine Rl.textR_run ?_ (fun ρ => ?_) (fun ρ W hS hd => ?_) ?_; rotate_left; (focus go_simp); (focus (obtain ⟨hc, hf⟩ := bcell hS; go_simp; refine (KU.out W hS).mono ?_; rintro e w1 ⟨rfl, hb⟩; refine ⟨_, rfl, ?_, hb⟩; rfl)); (try go_simp))
      (refine Rl.textR_run ?_ (fun ρ => ?_) (fun ρ W hS hd => ?_) ?_; rotate_left; (focus go_simp); (focus (obtain ⟨hc, hf⟩ := bcell hS; go_simp; refine (KN.out W).mono ?_; rintro e w1 ⟨rfl, rfl⟩; refine ⟨_, rfl, ?_, Below.refl _ _⟩; rfl)); (try go_simp))
      iterate 3 (refine Rl.textR_run ?_ (fun ρ => ?_) (fun ρ W hS hd => ?_) ?_; rotate_left; (focus go_simp); (focus (obtain ⟨hc, hf⟩ := bcell hS; go_simp; first | exact ⟨rfl, Below.refl _ _⟩ | (refine ⟨?_, Below.refl _ _⟩; rfl))); (try go_simp))
      refine Rl.textR_nil ?_
      intro ρ wA hgA hkA
      dsimp only
      have HGA := Lib.hid hgA
      clear hgA hkA
      go_simp
      go_wp2_with fail
      go_meet
      exact ⟨rfl, HGA.out⟩
  case rest =>
  obtain ⟨rfl, hbc⟩ := hcut
  have HBC := Lib.hid hbc
  obtain ⟨bs, hbs⟩ : ∃ b, b = (bg || bf) := ⟨_, rfl⟩
  obtain ⟨bx, hbx⟩ : ∃ b, b = (vx == 0) := ⟨_, rfl⟩
  obtain ⟨be, hbe⟩ : ∃ b, b = (vsp == va) := ⟨_, rfl⟩
  obtain ⟨bw, hbw⟩ : ∃ b, b = (vw == 0) := ⟨_, rfl⟩
  rw [← hbs, ← hbx, ← hbe, ← hbw] at HRG2
  rw [← hbs]
  have hsx := hbx.symm
  have hse := hbe.symm
  have hsw := hbw.symm
  have hne : (vsp != va) = !be := by rw [hbe]; rfl
  clear hbc hbs hbx hbe hbw hsg hsf
  have b0 := B0.out _ HBC.out
  have c0 := C0.out _ HBC.out
  have c1 := C1.out _ HBC.out
  have c2 := C2.out _ HBC.out
  go_wp2_with fail
  refine (KT.out _ HBC.out).mono ?_
  rintro e w' ⟨rfl, rfl⟩
  go_wp2_with fail
  refine (KR.out _).mono ?_
  rintro e w5 ⟨rfl, hb5⟩
  have HB5 := Lib.hid (below_next HBC.out hb5)
  have HA5 := Lib.hid (below_next HA2.out HB5.out)
  clear hb5 b0 c0 c1 c2
  have b0 := B0.out _ HB5.out
  have c4 := C4.out _ HB5.out
  cases rr with
  | false =>
    go_wp2_with fail
    go_ret
    exact ⟨by rw [HRGE.out, HRG2.out]; rfl, HA5.out⟩
  | true =>
    go_wp2_with fail
    refine (KX.out _).mono ?_
    rintro e w' ⟨rfl, rfl⟩
    cases bx with
    | false =>
      go_wp2_with fail
      go_ret
      exact ⟨by rw [HRGE.out, HRG2.out]; rfl, HA5.out⟩
    | true =>
      cases be with
      | true =>
        go_wp2_with fail
        go_ret
        exact ⟨by rw [HRGE.out, HRG2.out]; rfl, HA5.out⟩
      | false =>
        cases bw with
        | false =>
          go_wp2_with fail
          go_ret
          exact ⟨by rw [HRGE.out, HRG2.out]; rfl, HA5.out⟩
        | true =>
          go_wp2_with fail
          go_ret
          exact ⟨by rw [HRGE.out, HRG2.out]; rfl, HA5.out⟩
set_option maxRecDepth 100000 in
theorem right_no {w : World} {P : Nat} (h : NoFl w (.pointer (some ⟨P, 0, none⟩))) (hT : TabZ w) : Calls Tryd.prog 48 #[.pointer (some ⟨P, 0, none⟩)] w fun e w' => e = .returned (.bool false) ∧ Below w.heap.size w w' := by
  have hmx : Tryd.prog.follows .mixedOrders = true := by kernel_rfl
  have hA := below_alloc (Below.refl _ w) (.cells #[.pointer (some ⟨P, 0, none⟩)] 26)
  have nB := World.alloc_heap_new w (.cells #[.pointer (some ⟨P, 0, none⟩)] 26)
  have HF := Lib.hid (h.below hA)
  have HTZ := Lib.hid (hT.below hA)
  have HA := Lib.hid hA
  have NB := Lib.hid nB
  have b0 := cell_of_block (o := 0) nB rfl
  clear h hT hA nB
  go_enter Tryd.func48, Tryd.ntmps48
  go_upto_region 1 with fail
  generalize w.alloc (.cells #[.pointer (some ⟨P, 0, none⟩)] 26) = W1 at *
  have KLn := Lib.hid (flen_no HF.out)
  have KFi := Lib.hid (fun X => show Calls Tryd.prog 32 #[.int .i64 0] X fun e w' => e = .returned (.int .u64 0) ∧ X = w' from by have := first_any 0 X; rwa [firstI_zero, nv_zero] at this)
  have KW := Lib.hid (where_no HF.out HTZ.out 72 #[.pointer (some ⟨w.heap.size, 0, none⟩)])
  go_wp2_with fail
  refine KLn.out.mono ?_
  rintro e w' ⟨rfl, rfl⟩
  go_wp2_with fail
  refine (KFi.out _).mono ?_
  rintro e w' ⟨rfl, rfl⟩
  go_wp2_with fail
  refine KW.out.mono ?_
  rintro e w2 ⟨rfl, hb2⟩
  have HF2 := Lib.hid (HF.out.below hb2)
  have HT2 := Lib.hid (HTZ.out.below hb2)
  have HA2 := Lib.hid (below_next HA.out hb2)
  have NB2 := Lib.hid ((hb2.block _ (Array.getElem?_eq_some_iff.1 NB.out).1).trans NB.out)
  clear hb2 KLn KFi KW HF HTZ HA NB b0
  have KA := Lib.hid (fun X (hX : Below w2.heap.size w2 X) => factive_no (HF2.out.below hX))
  have KU := Lib.hid (fun X (hX : Below w2.heap.size w2 X) => up_no (HF2.out.below hX) (HT2.out.below hX))
  have KL := Lib.hid (fun X => show Calls Tryd.prog 24 #[.int .u64 0, .int .u64 0] X fun e w' => e = .returned (.int .u64 0) ∧ X = w' from by have := bless_any 0#64 0#64 X; rwa [nv_zero, show (0#64 &&& ~~~(0#64) : NSet) = 0#64 by decide, nv_zero] at this)
  have KT := Lib.hid (fun X (hX : Below w2.heap.size w2 X) => there_nofl (HF2.out.below hX))
  have B0 := Lib.hid (fun X (hX : Below w2.heap.size w2 X) => cell_of_block (o := 0) ((hX.block _ (Array.getElem?_eq_some_iff.1 NB2.out).1).trans NB2.out) rfl)
  clear HF2 HT2 NB2
  go_upto_region 3 with fail
  refine Rl.wp_region_rel (fun a b => Below a.heap.size a b) w2 (fun a b c h h' => below_next h h') (fun a => Below.refl _ _) hmx (by kernel_rfl) (Below.refl _ _).drew ?_
  (refine Rl.textR_run ?_ (fun ρ => ?_) (fun ρ W hS hd => ?_) ?_; rotate_left; (focus go_simp); (focus (have hfact := B0.out W hS; go_simp; first | exact ⟨rfl, Below.refl _ _⟩ | (refine ⟨?_, Below.refl _ _⟩; rfl))); (try go_simp))
  (refine Rl.textR_run ?_ (fun ρ => ?_) (fun ρ W hS hd => ?_) ?_; rotate_left; (focus go_simp); (focus (obtain ⟨hc, hf⟩ := bcell hS; go_simp; refine (KA.out W hS).mono ?_; rintro e w1 ⟨rfl, rfl⟩; refine ⟨_, rfl, ?_, Below.refl _ _⟩; rfl)); (try go_simp))
  (refine Rl.textR_run ?_ (fun ρ => ?_) (fun ρ W hS hd => ?_) ?_; rotate_left; (focus go_simp); (focus (have hfact := B0.out W hS; go_simp; first | exact ⟨rfl, Below.refl _ _⟩ | (refine ⟨?_, Below.refl _ _⟩; rfl))); (try go_simp))
  (refine Rl.textR_run ?_ (fun ρ => ?_) (fun ρ W hS hd => ?_) ?_; rotate_left; (focus go_simp); (focus (obtain ⟨hc, hf⟩ := bcell hS; go_simp; refine (KU.out W hS).mono ?_; rintro e w1 ⟨rfl, hb⟩; refine ⟨_, rfl, ?_, hb⟩; rfl)); (try go_simp))
  (refine Rl.textR_run ?_ (fun ρ => ?_) (fun ρ W hS hd => ?_) ?_; rotate_left; (focus go_simp); (focus (obtain ⟨hc, hf⟩ := bcell hS; go_simp; refine (KL.out W).mono ?_; rintro e w1 ⟨rfl, rfl⟩; refine ⟨_, rfl, ?_, Below.refl _ _⟩; rfl)); (try go_simp))
  iterate 2 (refine Rl.textR_run ?_ (fun ρ => ?_) (fun ρ W hS hd => ?_) ?_; rotate_left; (focus go_simp); (focus (obtain ⟨hc, hf⟩ := bcell hS; go_simp; first | exact ⟨rfl, Below.refl _ _⟩ | (refine ⟨?_, Below.refl _ _⟩; rfl))); (try go_simp))
  iterate 8 (refine Rl.textR_skip (fun ρ => ?_) ?_; (focus (first | rfl | (go_simp; done) | (go_simp; rfl))); (try go_simp))
  iterate 2 (refine Rl.textR_run ?_ (fun ρ => ?_) (fun ρ W hS hd => ?_) ?_; rotate_left; (focus go_simp); (focus (obtain ⟨hc, hf⟩ := bcell hS; go_simp; first | exact ⟨rfl, Below.refl _ _⟩ | (refine ⟨?_, Below.refl _ _⟩; rfl))); (try go_simp))
  refine Rl.textR_nil ?_
  intro ρ wA hgA hkA
  dsimp only
  have HGA := Lib.hid hgA
  have HAA := Lib.hid (below_next HA2.out hgA)
  clear hgA hkA
  go_simp
  have b0 := B0.out _ HGA.out
  go_wp2_with fail
  refine (KT.out _ HGA.out).mono ?_
  rintro e w' ⟨rfl, rfl⟩
  go_wp2_with fail
  go_ret
  exact ⟨rfl, HAA.out⟩
end Go.Proofs.YtnofgffkfapodaaDoor
namespace Go.Proofs.YtnofgffkfapodaaDoor
set_option linter.unusedVariables false
open Go.ChangeShapes Go.WideShapes Go.ChangeAt Go.RowKit
attribute [local go_sem ↓] Go.wp_at_zero Go.wp_at_succ comesTo_value_eq comesTo_skip_eq comesTo_enter_eq

set_option maxHeartbeats 1000000 in
theorem rr8_any (S D P : Int) (w : World) :
    Calls Tryd.prog 33 #[.agg #[.int .i64 S, .int .i64 D, .int .i64 P]] w fun e w' => e = .returned (.bool (rightR S D P)) ∧ Below w.heap.size w w' := by
  go_enter Tryd.func33, Tryd.ntmps33
  go_wp2
  all_goals go_ret
  all_goals exact ⟨ret_bool (by unfold rightR; rw [Bool.eq_iff_iff]; simp; omega), (by repeat (first | exact Below.refl _ _ | assumption | refine below_drewN ?_ _ | refine Below.drew ?_ | refine below_alloc ?_ _ | refine Below.alloc ?_ (by first | omega | (simp; done) | (simp; omega)) _ | refine Below.setCell ?_ (Below.size (by assumption)) _ | refine Below.setCell ?_ (by first | omega | (simp; done) | (simp; omega)) _ | (refine Below.trans ?_ (Below.mono (by assumption) (by first | omega | (simp; done) | (simp; omega)))) | refine below_next ?_ (by assumption)))⟩
theorem rright8 {t m b S D P : Int} : (rightR S D P && rightN t m b S D P) = decide ((1 ≤ S ∧ S < D ∧ D ≤ 1000 ∧ 1 ≤ P ∧ P ≤ 1000) ∧ 0 ≤ m ∧ 0 ≤ b ∧ ((t = 0 ∧ m < S ∧ b = 0) ∨ (t = 1 ∧ S ≤ m ∧ m < D ∧ b < P) ∨ ((t = 2 ∨ t = 3) ∧ m = 0 ∧ b = 0) ∨ (t = 4 ∧ m = 0 ∧ b < P))) := by
  unfold rightR rightN
  rw [Bool.eq_iff_iff]
  simp only [Bool.and_eq_true, decide_eq_true_eq]
  omega
set_option maxRecDepth 100000 in
set_option maxHeartbeats 4000000 in
theorem rn8_any (t m b S D P : Int) (w : World) :
    Calls Tryd.prog 51 #[.agg #[.int .i64 t, .int .i64 m, .int .i64 b], .agg #[.int .i64 S, .int .i64 D, .int .i64 P]] w fun e w' => e = .returned (.bool (rightR S D P && rightN t m b S D P)) ∧ Below w.heap.size w w' := by
  have hres := rright8 (t := t) (m := m) (b := b) (S := S) (D := D) (P := P)
  generalize (rightR S D P && rightN t m b S D P) = res at *
  have HRES := Lib.hid hres
  clear hres
  have hQ : rightR S D P = decide (1 ≤ S ∧ S < D ∧ D ≤ 1000 ∧ 1 ≤ P ∧ P ≤ 1000) := rfl
  have HR := Lib.hid (fun W => rr8_any S D P W)
  generalize rightR S D P = rr at *
  have HQ := Lib.hid hQ
  clear hQ
  have N0 := Lib.hid (World.alloc_heap_new w (.cells #[.int .i64 t, .int .i64 m, .int .i64 b] 67))
  have B0 := below_alloc (Below.refl _ w) (.cells #[.int .i64 t, .int .i64 m, .int .i64 b] 67)
  have B1 := below_alloc (Below.refl _ (w.alloc (.cells #[.int .i64 t, .int .i64 m, .int .i64 b] 67))) (.cells #[.int .i64 S, .int .i64 D, .int .i64 P] 32)
  have N1 := World.alloc_heap_new (w.alloc (.cells #[.int .i64 t, .int .i64 m, .int .i64 b] 67)) (.cells #[.int .i64 S, .int .i64 D, .int .i64 P] 32)
  rw [World.size_alloc] at N1
  have HN1 := Lib.hid N1
  have HN0 := Lib.hid ((B1.block _ (by simp)).trans N0.out)
  have HB := Lib.hid (below_next B0 B1)
  clear N0 B0 B1 N1
  go_enter Tryd.func51, Tryd.ntmps51
  go_upto_region 1 with fail
  generalize (w.alloc (.cells #[.int .i64 t, .int .i64 m, .int .i64 b] 67)).alloc (.cells #[.int .i64 S, .int .i64 D, .int .i64 P] 32) = W at *
  have r0 := cell_of_block (o := 0) HN1.out rfl
  have r1 := cell_of_block (o := 1) HN1.out rfl
  have r2 := cell_of_block (o := 2) HN1.out rfl
  cases rr with
  | false =>
    go_wp2_with fail
    refine (HR.out _).mono ?_
    rintro e w1 ⟨rfl, hb⟩
    have HB1 := Lib.hid (below_next HB.out hb)
    clear hb r0 r1 r2
    go_wp2_with fail
    go_ret
    exact ⟨ret_bool (by have := HQ.out; rw [HRES.out, Bool.eq_iff_iff]; simp only [Bool.false_eq_true, false_iff, decide_eq_true_eq]; have h2 := of_decide_eq_false this.symm; omega), HB1.out⟩
  | true =>
    go_wp2_with fail
    refine (HR.out _).mono ?_
    rintro e w1 ⟨rfl, hb⟩
    have HB1 := Lib.hid (below_next HB.out hb)
    have M0 := (hb.block _ (Array.getElem?_eq_some_iff.1 HN0.out).1).trans HN0.out
    have M1 := (hb.block _ (Array.getElem?_eq_some_iff.1 HN1.out).1).trans HN1.out
    clear hb r0 r1 r2
    have a0 := cell_of_block (o := 0) M0 rfl
    have a1 := cell_of_block (o := 1) M0 rfl
    have a2 := cell_of_block (o := 2) M0 rfl
    have r0 := cell_of_block (o := 0) M1 rfl
    have r1 := cell_of_block (o := 1) M1 rfl
    have r2 := cell_of_block (o := 2) M1 rfl
    have HQ2 := of_decide_eq_true HQ.out.symm
    have HQ3 := Lib.hid HQ2
    clear M0 M1 HQ HQ2
    go_wp2
    all_goals go_ret
    all_goals refine ⟨ret_bool ?_, HB1.out⟩
    all_goals (have := HQ3.out; rw [HRES.out, Bool.eq_iff_iff]; simp only [beq_iff_eq, beq_eq_false_iff_ne, ne_eq, decide_eq_true_eq, Bool.and_eq_true, Bool.false_eq_true, true_iff, false_iff, iff_true, iff_false] at *; first | omega | (trace_state; omega))
end Go.Proofs.YtnofgffkfapodaaDoor
namespace Go.Proofs.YtnofgffkfapodaaDoor
set_option linter.unusedVariables false
open Go.ChangeShapes Go.WideShapes Go.ChangeAt Go.RowKit
attribute [local go_sem ↓] Go.wp_at_zero Go.wp_at_succ comesTo_value_eq comesTo_skip_eq comesTo_enter_eq

theorem node_fl {w : World} {F G : Nat} {f : FV} (h : Fl w F G f) {k : Nat} (hk : k < f.ns.length) : Calls Tryd.prog 27 #[.pointer (some ⟨F, 0, none⟩), .int .i64 k] w fun e w' => e = .returned (.tuple #[nodeA (f.ns.getD k (0, 0, 0)), .int .i64 0]) ∧ Below w.heap.size w w' := by
  have hA := below_alloc (Below.refl _ w) (.cells #[.int .i64 0, .int .i64 0, .int .i64 0] 62)
  have nR := World.alloc_heap_new w (.cells #[.int .i64 0, .int .i64 0, .int .i64 0] 62)
  have K := Lib.hid (there_fl (h.below hA))
  have K2 := has_fl (h.below hA) (k : Int)
  rw [decide_eq_true (by omega)] at K2
  have HK2 := Lib.hid K2
  have c3 := (h.below hA).c3
  obtain ⟨n0, n1, n2⟩ := (h.below hA).node hk
  have hlen := h.len
  have r0 := cell_of_block (o := 0) nR rfl
  have r1 := cell_of_block (o := 1) nR rfl
  have r2 := cell_of_block (o := 2) nR rfl
  have g0 := free_of_block 0 nR
  have g1 := free_of_block 1 nR
  have g2 := free_of_block 2 nR
  have HW := Lib.hid hA
  have hkI : (k : Int) < (f.ns.length : Int) := by omega
  generalize f.ns.getD k (0, 0, 0) = nd at *
  generalize f.ns.length = n at *
  obtain ⟨t, m, b⟩ := nd
  unfold nodeA
  dsimp only at n0 n1 n2 ⊢
  clear nR hA h K2 hlen
  go_enter Tryd.func27, Tryd.ntmps27
  go_upto_region 1 with fail
  generalize hWW : w.alloc (.cells #[.int .i64 0, .int .i64 0, .int .i64 0] 62) = W at *
  clear hWW
  go_wp2_with fail
  refine K.out.mono ?_
  rintro e w' ⟨rfl, rfl⟩
  go_wp2_with fail
  refine HK2.out.mono ?_
  rintro e w' ⟨rfl, rfl⟩
  go_wp2_with fail
  refine bodyPost_ret (v := .tuple #[.agg #[.int .i64 t, .int .i64 m, .int .i64 b], .int .i64 0]) (by simp [results, Tryd.results27, go_sem, *]; try go_simp) rfl ⟨rfl, ?_⟩
  exact (by repeat (first | exact Below.refl _ _ | assumption | refine below_drewN ?_ _ | refine Below.drew ?_ | refine below_alloc ?_ _ | refine Below.alloc ?_ (by first | omega | (simp; done) | (simp; omega)) _ | refine Below.setCell ?_ (Below.size (by assumption)) _ | refine Below.setCell ?_ (by first | omega | (simp; done) | (simp; omega)) _ | (refine Below.trans ?_ (Below.mono (by assumption) (by first | omega | (simp; done) | (simp; omega)))) | refine below_next ?_ (by assumption)))
theorem rules_fl {w : World} {F G : Nat} {f : FV} (h : Fl w F G f) : Calls Tryd.prog 15 #[.pointer (some ⟨F, 0, none⟩)] w fun e w' => e = .returned (.agg #[.int .i64 f.S, .int .i64 f.D, .int .i64 f.P]) ∧ Below w.heap.size w w' := by
  have hA := below_alloc (Below.refl _ w) (.cells #[.int .i64 0, .int .i64 0, .int .i64 0] 24)
  have nR := World.alloc_heap_new w (.cells #[.int .i64 0, .int .i64 0, .int .i64 0] 24)
  have K := Lib.hid (there_fl (h.below hA))
  have c0 := (h.below hA).c0
  have c1 := (h.below hA).c1
  have c2 := (h.below hA).c2
  have r0 := cell_of_block (o := 0) nR rfl
  have r1 := cell_of_block (o := 1) nR rfl
  have r2 := cell_of_block (o := 2) nR rfl
  have g0 := free_of_block 0 nR
  have g1 := free_of_block 1 nR
  have g2 := free_of_block 2 nR
  have HW := Lib.hid hA
  clear nR hA h
  go_enter Tryd.func15, Tryd.ntmps15
  go_upto_region 1 with fail
  generalize hWW : w.alloc (.cells #[.int .i64 0, .int .i64 0, .int .i64 0] 24) = W at *
  clear hWW
  go_wp2_with fail
  refine K.out.mono ?_
  rintro e w' ⟨rfl, rfl⟩
  go_wp2_with fail
  refine bodyPost_ret (v := .agg #[.int .i64 f.S, .int .i64 f.D, .int .i64 f.P]) (by simp [results, Tryd.results15, go_sem, *]; try go_simp) rfl ⟨rfl, ?_⟩
  exact (by repeat (first | exact Below.refl _ _ | assumption | refine below_drewN ?_ _ | refine Below.drew ?_ | refine below_alloc ?_ _ | refine Below.alloc ?_ (by first | omega | (simp; done) | (simp; omega)) _ | refine Below.setCell ?_ (Below.size (by assumption)) _ | refine Below.setCell ?_ (by first | omega | (simp; done) | (simp; omega)) _ | (refine Below.trans ?_ (Below.mono (by assumption) (by first | omega | (simp; done) | (simp; omega)))) | refine below_next ?_ (by assumption)))
end Go.Proofs.YtnofgffkfapodaaDoor
