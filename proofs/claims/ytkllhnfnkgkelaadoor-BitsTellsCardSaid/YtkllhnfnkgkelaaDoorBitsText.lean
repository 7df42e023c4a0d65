/- Text: at any set; what the known set (one) comes to. Condition: math/bits' table of trailing zeros lies as its text lays it. -/
import Derived.Test.YtkllhnfnkgkelaaDoorBitsRow
import Derived.Test.YtkllhnfnkgkelaaDoorGrowTwo
namespace Go.Proofs.YtkllhnfnkgkelaaDoor
set_option linter.unusedVariables false
open Go.RowKit Go.Shelf
attribute [local go_sem] Oper.semAt_some
attribute [local go_sem ↓] comesTo_value_eq comesTo_skip_eq comesTo_enter_eq

/-- a node -/
abbrev Nd := { x : Int // 0 ≤ x ∧ x < 64 }
def vals (l : List Nd) : List Int := l.map (·.1)
theorem vals_snoc (l : List Nd) (x : Nd) : vals (l ++ [x]) = vals l ++ [x.1] := by simp [vals]
theorem vals_length (l : List Nd) : (vals l).length = l.length := by simp [vals]
theorem vals_in (l : List Nd) : ∀ x ∈ vals l, 0 ≤ x ∧ x < 64 := by
  intro x hx
  obtain ⟨y, _, rfl⟩ := List.mem_map.1 hx
  exact y.2
theorem all1_nd (n : Nat) (hn : 1 ≤ n) (l Bn n₀ : Nat) (s : NSet) (hg : 1 < n₀) (J Jx : List Nd → World → Prop)
    (hY : ∀ pre (x : Nd) W, J pre W → pre.length < card s → YieldAt Fence.wide (n - 1) Tryd.prog l #[.int .i64 x.1] W fun e W' =>
      (e = .returned (.bool true) ∧ J (pre ++ [x]) W' ∧ Below n₀ W W') ∨ (e = .returned (.bool false) ∧ Jx (pre ++ [x]) W'))
    (W : World) (hBn : W.cell? ⟨Bn, 0, none⟩ = some (.int .u64 (nv s))) (hT : TabZ W) (h0 : J [] W) :
    CallsIn Fence.wide n Tryd.prog 61 #[.func (.yield l) #[] #[], .pointer (some ⟨Bn, 0, none⟩)] W fun e W' => (∃ v, e = .returned v) ∧
      ((∃ ys, vals ys = nodes s ∧ J ys W') ∨ (∃ pre, vals pre <+: nodes s ∧ Jx pre W')) := by
  refine callsIn_of_wp Tryd.func61 rfl trivial ?_ rfl
  simp only [Tryd.ntmps61, List.size_toArray, List.length_cons, List.length_nil, Nat.reduceAdd, Nat.reduceSub, Array.replicate_succ, Array.replicate_zero, List.push_toArray, List.append_toArray, List.nil_append, List.cons_append]
  gi_wp2
  gi_loopw [3] (fun p wr => ∃ (pre : List Nd) (r : NSet), p = .int .u64 (nv r) ∧ nodes s = vals pre ++ nodes r ∧ TabZ wr ∧ J pre wr)
    (fun p _ => (card (BitVec.ofInt 64 (intOf p))))
  case atStart => exact ⟨[], s, rfl, rfl, hT, h0⟩
  case round =>
    obtain ⟨pre, r, rfl, hx, hTr, hJs⟩ := hrel
    by_cases hr : r = 0#64
    · have hb : (nv r == 0) = true := by rw [nv_is0]; simpa using hr
      rw [hr, nodes_zero, List.append_nil] at hx
      gi_wp2
      go_end0
      exact ⟨⟨_, rfl⟩, .inl ⟨pre, hx.symm, hJs⟩⟩
    · have hb : (nv r == 0) = false := by rw [nv_is0]; simpa using hr
      have hlen : pre.length < card s := by
        have h1 := congrArg List.length hx
        rw [nodes_length _ s rfl, List.length_append, nodes_cons hr, List.length_cons, vals_length] at h1
        omega
      obtain ⟨fn, tmps, assign, body, hy, hR⟩ := hY pre ⟨lowI r, low_lt hr⟩ wr hJs hlen
      dsimp only at hy
      gi_wp2_with (refine ⟨trivial, ?_⟩; gi_at_call 23; refine (callsIn_wide.2 (lowest_any r _ hTr)).mono ?_; rintro e w' ⟨rfl, rfl⟩)
      refine hR.mono ?_
      rintro e W3 (⟨rfl, hJ3, hk3⟩ | ⟨rfl, hJx3⟩)
      · have hT3 := TabZ.kept hTr hg hk3
        gi_wp2_with (first | (refine ⟨trivial, ?_⟩; gi_at_call 23; refine (callsIn_wide.2 (lowest_any r _ hT3)).mono ?_; rintro e w' ⟨rfl, rfl⟩) | (refine ⟨trivial, ?_⟩; gi_at_call 16; refine (callsIn_wide.2 (without_any r (lowI r) _)).mono ?_; rintro e w' ⟨rfl, rfl⟩))
        go_roundw
        case rel => exact ⟨pre ++ [⟨lowI r, low_lt hr⟩], restS r, rfl, by rw [hx, nodes_cons hr, vals_snoc]; simp, hT3, hJ3⟩
        case measure =>
          have := card_rest hr
          simp only [intOf, nv, BitVec.ofInt_natCast, BitVec.ofNat_toNat, BitVec.setWidth_eq]
          unfold restS at this
          omega
      · gi_wp2
        refine bodyPost_ret (results_none rfl _ _ _) rfl ?_
        exact ⟨⟨_, rfl⟩, .inr ⟨pre ++ [⟨lowI r, low_lt hr⟩], ⟨nodes (restS r), by rw [hx, nodes_cons hr, vals_snoc]; simp⟩, hJx3⟩⟩
/-- the contract of the iterator over nodes, as the law of ranges asks it -/
theorem all1_nodes (n : Nat) (hn : 1 ≤ n) (Bn n₀ : Nat) (s : NSet) (hg : 1 < n₀) (w : World) (hBn : w.cell? ⟨Bn, 0, none⟩ = some (.int .u64 (nv s))) (hT : TabZ w) :
    SeqStopsK Fence.wide n Tryd.prog 61 #[.pointer (some ⟨Bn, 0, none⟩)] (fun x : Nd => #[.int .i64 x.1]) (Below n₀) (fun ys => vals ys = nodes s) (fun pre => vals pre <+: nodes s) (card s) w := by
  intro l J Jx W hW _ _ hY h0
  exact all1_nd n hn l Bn n₀ s hg J Jx hY W ((hW.cell (p := ⟨Bn, 0, none⟩) (World.block_lt_of_cell? w _ hBn)).trans hBn) (hT.below hW) h0
theorem infoStr : (Tryd.prog.info? 9).map (fun i => (i.zero, i.size, i.bytes)) = some (some (.string .empty), 1, 16) := by kernel_rfl
theorem cells_new (W : World) (l : List Value) (T : TypeId) : ∀ j u, l[j]? = some u → (W.alloc (.cells l.toArray T)).cell? ((⟨W.heap.size, 0, none⟩ : Addr).add j) = some u := by
  intro j u h
  have hb := World.alloc_heap_new W (.cells l.toArray T)
  have : ((⟨W.heap.size, 0, none⟩ : Addr).add j) = ⟨W.heap.size, j, none⟩ := by unfold Addr.add; split <;> simp_all
  rw [this]
  simp only [World.cell?, hb]
  simpa using h
theorem ownsRow_pos {W : World} {base : Nat} {e : TypeId} {size : Nat} {v : Value} {k : Nat} {xs : List Value} (h : W.ownsRow base e size v k xs) (hk : 0 < k) : ∃ g cap, v = .slice (some ⟨g, 0, none⟩) k cap := by
  obtain ⟨k, rfl⟩ : ∃ j, k = j + 1 := ⟨k - 1, by omega⟩
  exact ownsRow_succ h
theorem strV_one (ws : List (List UInt8)) : ∀ u ∈ ws.map strV, u.oneCell' = true := by
  intro u hu
  obtain ⟨t, _, rfl⟩ := List.mem_map.1 hu
  rfl

theorem join_any (g cap base : Nat) (ws : List (List UInt8)) (W : World) (hrow : W.ownsRow base 9 1 (.slice (some ⟨g, 0, none⟩) ws.length cap) ws.length (ws.map strV)) (hlen : (Lib.join ws [44]).length ≤ 140737488355328) (hN : ws.length ≤ 140737488355328) :
    Calls Tryd.prog 51 #[.slice (some ⟨g, 0, none⟩) ws.length cap, .string ⟨#[44]⟩] W fun e w' => e = .returned (.string (strB (Lib.join ws [44]))) ∧ Below W.heap.size W w' := by
  have hcap : ws.length ≤ cap := by
    rcases hrow.2 with ⟨h, _⟩ | ⟨g', cap', cur, h, _, _, h', _⟩
    · cases h
    · cases h; exact h'
  have hlt : g < W.heap.size := (hrow.lt g rfl).2
  have e1 : (ws.map strB).map (·.data.toList) = ws := by rw [List.map_map]; exact (List.map_congr_left (fun t _ => strB_data t)).trans (List.map_id _)
  have := Any.strings_Join Tryd.laysJoin Tryd.joinExtra g 0 cap (ws.map strB) ⟨#[44]⟩ W (fun j x hx => by
    have := hrow.cells (g := g) rfl j (.string x) (by
      rw [List.getElem?_map] at hx ⊢
      cases hw : ws[j]? with
      | none => rw [hw] at hx; cases hx
      | some t => rw [hw] at hx; cases hx; rfl)
    have hadd : (⟨g, 0, none⟩ : Addr).add j = ⟨g, j, none⟩ := by unfold Addr.add; split <;> simp_all
    rw [hadd] at this
    rw [Nat.zero_add]; exact this) hlt (by rw [List.length_map]; exact hN) (by rw [List.length_map]; exact hcap) (by rw [e1]; exact hlen)
  rw [e1, List.length_map] at this
  exact this
set_option maxRecDepth 100000 in
set_option maxHeartbeats 4000000 in
theorem text_any (s : NSet) (hs : s ≠ 0#64) (w : World) (hT : TabZ w) :
    Calls Tryd.prog 26 #[.int .u64 (nv s)] w fun e w' => e = .returned (.string (strB (textT (nodes s)))) ∧ Below w.heap.size w w' := by
  have hb : (nv s == 0) = false := by rw [nv_is0]; simpa using hs
  have ET : textT (nodes s) = Lib.join (toks none (nodes s)) [44] := by unfold textT; rw [if_neg (by rw [nodes_cons hs]; simp)]
  rw [ET]
  clear ET
  have hmx : Tryd.prog.follows .mixedOrders = true := by kernel_rfl
  obtain ⟨i0, hi, hz0, hz1, hz2⟩ := info_parts infoStr
  refine (callsIn_wide (n := 3)).1 ?_
  refine callsIn_of_wp_marks Tryd.func26 rfl trivial ?_ rfl
  simp only [Tryd.ntmps26, List.size_toArray, List.length_cons, List.length_nil, Nat.reduceAdd, Nat.reduceSub, Array.replicate_succ, Array.replicate_zero, List.push_toArray, List.append_toArray, List.nil_append, List.cons_append]
  gi_wp2_with (refine ⟨trivial, ?_⟩; gi_at_call 48; refine (callsIn_wide.2 (all_any _ _)).mono ?_; rintro e w' ⟨rfl, rfl⟩)
  have bS := Boxed.new w 23 (.int .u64 (nv s))
  have bW := Boxed.new (w.alloc (.cells #[.int .u64 (nv s)] 23)) 67 (.slice none 0 0)
  rw [World.size_alloc] at bW
  have bF := Boxed.new ((w.alloc (.cells #[.int .u64 (nv s)] 23)).alloc (.cells #[.slice none 0 0] 67)) 3 (.int .i64 0)
  rw [World.size_alloc, World.size_alloc] at bF
  have bA := Boxed.new (((w.alloc (.cells #[.int .u64 (nv s)] 23)).alloc (.cells #[.slice none 0 0] 67)).alloc (.cells #[.int .i64 0] 3)) 23 (.int .u64 (nv s))
  rw [World.size_alloc, World.size_alloc, World.size_alloc] at bA
  have hB0 : Below w.heap.size w ((((w.alloc (.cells #[.int .u64 (nv s)] 23)).alloc (.cells #[.slice none 0 0] 67)).alloc (.cells #[.int .i64 0] 3)).alloc (.cells #[.int .u64 (nv s)] 23)) :=
    ((((Below.refl _ w).alloc (Nat.le_refl _) _).alloc (by simp) _).alloc (by simp; omega) _).alloc (by simp; omega) _
  have hc64 := card_le s
  refine wpIn_rangeFunc_ownG rfl (by omega) (gf := 61) (lb := #[.pointer (some ⟨w.heap.size + 1 + 1 + 1, 0, none⟩)]) rfl trivial (enters_of Tryd.func61 (by kernel_rfl) rfl)
    (all1_nodes _ (by omega) (w.heap.size + 1 + 1 + 1) w.heap.size s hT.1 _ bA.cell (hT.below hB0)) belowK_t (belowK_b (by simp; omega)) (Below.refl _ _) (fun _ => rfl)
    (fun (pre : List Nd) W => ((∃ v, Boxed W (w.heap.size + 1) 67 v ∧ W.ownsRow w.heap.size 9 1 v (foldT s (vals pre)).2.length ((foldT s (vals pre)).2.map strV) ∧ True) ∧ Boxed W (w.heap.size + 1 + 1) 3 (.int .i64 (foldT s (vals pre)).1) ∧ Boxed W w.heap.size 23 (.int .u64 (nv s))) ∧ Below w.heap.size w W)
    (fun _ _ _ => False)
    (OwnFrom.and (Own.from (fun s' X Y row hs' hg hr => ⟨holdsRow_own w.heap.size (w.heap.size + 1) 67 9 1 (fun pre : List Nd => (foldT s (vals pre)).2.length) (fun pre => (foldT s (vals pre)).2.map strV) (fun _ _ => True) s' X Y row hs'.1 hg hr, boxed_own (w.heap.size + 1 + 1) 3 (fun pre : List Nd => .int .i64 (foldT s (vals pre)).1) s' X Y row hs'.2.1 hg hr, boxed_own w.heap.size 23 (fun _ : List Nd => .int .u64 (nv s)) s' X Y row hs'.2.2 hg hr⟩) _) (ownFrom_below (Nat.le_refl _) (by simp; omega)))
    (fun _ _ _ _ _ hs _ _ => hs)
    ⟨⟨⟨_, (bW.alloc _).alloc _, World.ownsRow_nil _ _ _ _, trivial⟩, bF.alloc _, ((bS.alloc _).alloc _).alloc _⟩, hB0⟩
    (fun x => { tmps := #[.int .u64 (nv s), .pointer (some ⟨w.heap.size, 0, none⟩), .string ⟨#[]⟩, .pointer (some ⟨w.heap.size + 1, 0, none⟩), .pointer (some ⟨w.heap.size + 1 + 1, 0, none⟩), .int .i64 x.1, .int .u64 (nv s), .bool false, .int .u64 (nv s), .func (.func 61) #[] #[.pointer (some ⟨w.heap.size + 1 + 1 + 1, 0, none⟩)], .int .i64 x.1, undef, undef, undef, undef, undef, undef, undef, undef, undef, undef, undef, undef, undef, undef, undef, undef, undef, undef], defers := [] }) ?assign ?body ?done ?stop
  case assign =>
    intro l x W K hK
    gi_wp2
    exact hK
  case body =>
    rintro l pre x W ⟨⟨⟨v, hv, hrow, _⟩, hF, hS⟩, hB⟩ hlt
    obtain ⟨x, hx0, hx1⟩ := x
    have hlen := foldT_length s (vals pre)
    have hfst := foldT_first s (vals pre) (vals_in pre)
    rw [vals_length] at hlen
    have hcS := hS.cell
    have hcF := hF.cell
    have hcW := hv.cell
    have hfF := hF.frozen
    have E := Lib.hid (foldT_snoc s (vals pre) x)
    unfold stepT at E
    generalize foldT s (vals pre) = p at *
    obtain ⟨f, ws⟩ := p
    simp only at *
    cases hm : hasI s (x - 1) <;> cases hp : hasI s (x + 1)
    · have EQ : foldT s (vals (pre ++ [⟨x, ⟨hx0, hx1⟩⟩])) = (x, ws ++ rowT x x) := by rw [vals_snoc, E.out]; simp only [hm, hp]; rfl
      have EQ := Lib.hid EQ
      gi_wp2_with (refine ⟨trivial, ?_⟩; gi_at_call 18; refine (CallsIn.inRound l (callsIn_wide.2 (has_any s _ _))).mono ?_; rintro e w' ⟨rfl, rfl⟩)
      have hrow1 := hrow.kept (grownBy_setCell' W (w.heap.size + 1 + 1) (.int .i64 x)) (.inr (hF.not_row (by decide) hrow).symm)
      have hF1 := hF.set (.int .i64 x)
      have hv1 := hv.other (B' := w.heap.size + 1 + 1) (by omega) (.int .i64 x)
      have hS1 := hS.other (B' := w.heap.size + 1 + 1) (by omega) (.int .i64 x)
      have hK1 := KeepsOthers.setCell W ⟨w.heap.size + 1 + 1, 0, none⟩ (.int .i64 x)
      have hB1 := (Below.refl w.heap.size W).setCell (p := ⟨w.heap.size + 1 + 1, 0, none⟩) (by simp; omega) (.int .i64 x)
      generalize W.setCell ⟨w.heap.size + 1 + 1, 0, none⟩ (.int .i64 x) = W1 at *
      clear hcS hcF hcW hfF hv hF hS hrow
      have hcF := hF1.cell
      have hcW := hv1.cell
      have hm1 := rowT_length x x
      have KR := Lib.hid (fun W => row_any x x hx0 hx1 hx0 hx1 W)
      have hcW2 := (hv1.alloc (.cells ((rowT x x).map strV).toArray 9)).cell
      have hcF2 := (hF1.alloc (.cells ((rowT x x).map strV).toArray 9)).cell
      refine wpIn_region_two (WideF.round l) 4 3 (fun p w' => w' = bif p then W1.drew.alloc (.cells ((rowT x x).map strV).toArray 9) else W1.drew) hmx (by kernel_rfl) (by kernel_rfl) (by decide) rfl ?_
      simp only [List.take]
      (refine textT2_run ?_ (by decide) ?_ (fun p W hS => ?_) ?_; rotate_left; (focus go_simp); (focus (cases p <;> (simp only [cond_true, cond_false] at hS; subst hS; go_simp; all_goals (first | exact ⟨rfl, rfl⟩ | rfl | (refine ⟨?_, rfl⟩; rfl))))); (try go_simp))
      (refine textT2_run ?_ (by decide) ?_ (fun p W hS => ?_) ?_; rotate_left; (focus go_simp); (focus (cases p <;> (simp only [cond_true, cond_false] at hS; subst hS; go_simp; all_goals (first | exact ⟨rfl, rfl⟩ | rfl | (refine ⟨?_, rfl⟩; rfl))))); (try go_simp))
      (refine textT2_run ?_ (by decide) ?_ (fun p W hS => ?_) ?_; rotate_left; (focus go_simp); (focus (cases p <;> (simp only [cond_true, cond_false] at hS; subst hS; go_simp; all_goals (first | exact ⟨rfl, rfl⟩ | rfl | (refine ⟨?_, rfl⟩; rfl))))); (try go_simp))
      (refine textT2_call ?_ rfl ?_ (fun W hS => ?_) ?_; rotate_left; (focus go_simp); (focus (simp only [cond_true, cond_false] at hS; subst hS; go_simp; refine (KR.out _).mono ?_; rintro e w1 ⟨rfl, rfl⟩; refine ⟨?_, ?_⟩; (focus rfl); (focus rfl))); (try go_simp))
      refine wpListIn_append_own (W1.drew.alloc (.cells ((rowT x x).map strV).toArray 9)) rfl _ _ 67 rfl w.heap.size 9 i0 (.string .empty) 1 16 Tryd.underlying67 hi hz0 hz1 hz2 rfl (by decide) v ws.length (ws.map strV) rfl (World.ownsRow.alloc (w := W1.drew) hrow1 _) ⟨W1.heap.size, 0, none⟩ (rowT x x).length (rowT x x).length ((rowT x x).map strV) rfl (by simp) (cells_new W1.drew _ _) (strV_one _) (by unfold maxLen; omega) (by omega) (by have := hB.size; have := hB1.size; simp; omega) ?_
      intro v' w1 hown' hgrow _
      have hF2 := (Boxed.alloc (W := W1.drew) hF1 (.cells ((rowT x x).map strV).toArray 9)).kept hgrow (hF1.not_row (by decide) hrow1)
      have hS2 := (Boxed.alloc (W := W1.drew) hS1 (.cells ((rowT x x).map strV).toArray 9)).kept hgrow (hS1.not_row (by decide) hrow1)
      obtain ⟨g', cap', rfl⟩ := ownsRow_pos hown' (by omega)
      obtain ⟨hv2, hv3, hr3, hk3, hb3⟩ := Boxed.appended (W := W1.drew) hv1 (by decide) hrow1 (by have := hB.size; have := hB1.size; simp; omega) (by omega) hown' hgrow
      have hc3 := hv2.cell
      have hf3 := hv2.frozen
      gi_wp2
      refine ⟨(hK1.trans ((KeepsOthers.drew _).trans hk3)).from _, hB1.trans ((Below.refl _ W1).drew.trans hb3), ⟨⟨_, hv3, ?_, trivial⟩, ?_, hS2.other (by omega) _⟩, hB.trans (hB1.trans ((Below.refl _ W1).drew.trans hb3))⟩
      · rw [EQ.out, List.map_append, List.length_append]; exact hr3
      · rw [EQ.out]; exact hF2.other (by omega) _
    · have EQ : foldT s (vals (pre ++ [⟨x, ⟨hx0, hx1⟩⟩])) = (x, ws) := by rw [vals_snoc, E.out]; simp only [hm, hp]; rfl
      have EQ := Lib.hid EQ
      gi_wp2_with (refine ⟨trivial, ?_⟩; gi_at_call 18; refine (CallsIn.inRound l (callsIn_wide.2 (has_any s _ _))).mono ?_; rintro e w' ⟨rfl, rfl⟩)
      have hrow1 := hrow.kept (grownBy_setCell' W (w.heap.size + 1 + 1) (.int .i64 x)) (.inr (hF.not_row (by decide) hrow).symm)
      have hF1 := hF.set (.int .i64 x)
      have hv1 := hv.other (B' := w.heap.size + 1 + 1) (by omega) (.int .i64 x)
      have hS1 := hS.other (B' := w.heap.size + 1 + 1) (by omega) (.int .i64 x)
      have hK1 := KeepsOthers.setCell W ⟨w.heap.size + 1 + 1, 0, none⟩ (.int .i64 x)
      have hB1 := (Below.refl w.heap.size W).setCell (p := ⟨w.heap.size + 1 + 1, 0, none⟩) (by simp; omega) (.int .i64 x)
      generalize W.setCell ⟨w.heap.size + 1 + 1, 0, none⟩ (.int .i64 x) = W1 at *
      refine ⟨hK1.from _, hB1, ⟨⟨v, hv1, ?_, trivial⟩, ?_, hS1⟩, hB.trans hB1⟩
      · rw [EQ.out]; exact hrow1
      · rw [EQ.out]; exact hF1
    · have EQ : foldT s (vals (pre ++ [⟨x, ⟨hx0, hx1⟩⟩])) = (f, ws ++ rowT f x) := by rw [vals_snoc, E.out]; simp only [hm, hp]; rfl
      have EQ := Lib.hid EQ
      gi_wp2_with (refine ⟨trivial, ?_⟩; gi_at_call 18; refine (CallsIn.inRound l (callsIn_wide.2 (has_any s _ _))).mono ?_; rintro e w' ⟨rfl, rfl⟩)
      have hrow1 := hrow
      have hF1 := hF
      have hv1 := hv
      have hS1 := hS
      have hK1 := KeepsOthers.refl W
      have hB1 := Below.refl w.heap.size W
      clear hcS hcF hcW hfF hv hF hS hrow
      have hcF := hF1.cell
      have hcW := hv1.cell
      have hm1 := rowT_length f x
      have KR := Lib.hid (fun W => row_any f x hfst.1 hfst.2 hx0 hx1 W)
      have hcW2 := (hv1.alloc (.cells ((rowT f x).map strV).toArray 9)).cell
      have hcF2 := (hF1.alloc (.cells ((rowT f x).map strV).toArray 9)).cell
      refine wpIn_region_two (WideF.round l) 4 3 (fun p w' => w' = bif p then W.drew.alloc (.cells ((rowT f x).map strV).toArray 9) else W.drew) hmx (by kernel_rfl) (by kernel_rfl) (by decide) rfl ?_
      simp only [List.take]
      (refine textT2_run ?_ (by decide) ?_ (fun p W hS => ?_) ?_; rotate_left; (focus go_simp); (focus (cases p <;> (simp only [cond_true, cond_false] at hS; subst hS; go_simp; all_goals (first | exact ⟨rfl, rfl⟩ | rfl | (refine ⟨?_, rfl⟩; rfl))))); (try go_simp))
      (refine textT2_run ?_ (by decide) ?_ (fun p W hS => ?_) ?_; rotate_left; (focus go_simp); (focus (cases p <;> (simp only [cond_true, cond_false] at hS; subst hS; go_simp; all_goals (first | exact ⟨rfl, rfl⟩ | rfl | (refine ⟨?_, rfl⟩; rfl))))); (try go_simp))
      (refine textT2_run ?_ (by decide) ?_ (fun p W hS => ?_) ?_; rotate_left; (focus go_simp); (focus (cases p <;> (simp only [cond_true, cond_false] at hS; subst hS; go_simp; all_goals (first | exact ⟨rfl, rfl⟩ | rfl | (refine ⟨?_, rfl⟩; rfl))))); (try go_simp))
      (refine textT2_call ?_ rfl ?_ (fun W hS => ?_) ?_; rotate_left; (focus go_simp); (focus (simp only [cond_true, cond_false] at hS; subst hS; go_simp; refine (KR.out _).mono ?_; rintro e w1 ⟨rfl, rfl⟩; refine ⟨?_, ?_⟩; (focus rfl); (focus rfl))); (try go_simp))
      refine wpListIn_append_own (W.drew.alloc (.cells ((rowT f x).map strV).toArray 9)) rfl _ _ 67 rfl w.heap.size 9 i0 (.string .empty) 1 16 Tryd.underlying67 hi hz0 hz1 hz2 rfl (by decide) v ws.length (ws.map strV) rfl (World.ownsRow.alloc (w := W.drew) hrow1 _) ⟨W.heap.size, 0, none⟩ (rowT f x).length (rowT f x).length ((rowT f x).map strV) rfl (by simp) (cells_new W.drew _ _) (strV_one _) (by unfold maxLen; omega) (by omega) (by have := hB.size; have := hB1.size; simp; omega) ?_
      intro v' w1 hown' hgrow _
      have hF2 := (Boxed.alloc (W := W.drew) hF1 (.cells ((rowT f x).map strV).toArray 9)).kept hgrow (hF1.not_row (by decide) hrow1)
      have hS2 := (Boxed.alloc (W := W.drew) hS1 (.cells ((rowT f x).map strV).toArray 9)).kept hgrow (hS1.not_row (by decide) hrow1)
      obtain ⟨g', cap', rfl⟩ := ownsRow_pos hown' (by omega)
      obtain ⟨hv2, hv3, hr3, hk3, hb3⟩ := Boxed.appended (W := W.drew) hv1 (by decide) hrow1 (by have := hB.size; have := hB1.size; simp; omega) (by omega) hown' hgrow
      have hc3 := hv2.cell
      have hf3 := hv2.frozen
      gi_wp2
      refine ⟨(hK1.trans ((KeepsOthers.drew _).trans hk3)).from _, hB1.trans ((Below.refl _ W).drew.trans hb3), ⟨⟨_, hv3, ?_, trivial⟩, ?_, hS2.other (by omega) _⟩, hB.trans (hB1.trans ((Below.refl _ W).drew.trans hb3))⟩
      · rw [EQ.out, List.map_append, List.length_append]; exact hr3
      · rw [EQ.out]; exact hF2.other (by omega) _
    · have EQ : foldT s (vals (pre ++ [⟨x, ⟨hx0, hx1⟩⟩])) = (f, ws) := by rw [vals_snoc, E.out]; simp only [hm, hp]; rfl
      have EQ := Lib.hid EQ
      gi_wp2_with (refine ⟨trivial, ?_⟩; gi_at_call 18; refine (CallsIn.inRound l (callsIn_wide.2 (has_any s _ _))).mono ?_; rintro e w' ⟨rfl, rfl⟩)
      have hrow1 := hrow
      have hF1 := hF
      have hv1 := hv
      have hS1 := hS
      have hK1 := KeepsOthers.refl W
      have hB1 := Below.refl w.heap.size W
      refine ⟨hK1.from _, hB1, ⟨⟨v, hv1, ?_, trivial⟩, ?_, hS1⟩, hB.trans hB1⟩
      · rw [EQ.out]; exact hrow1
      · rw [EQ.out]; exact hF1
  case done =>
    rintro D ys W hD hys ⟨⟨⟨v, hv, hrow, _⟩, hF, hS⟩, hB⟩ hK
    have hne : nodes s ≠ [] := by rw [nodes_cons hs]; simp
    rw [hys, fold_all] at hrow
    have hl1 := join_len s (nodes s) (by rw [fold_all]; exact toks_ne none _ hne)
    have hl2 := foldT_length s (nodes s)
    rw [fold_all] at hl1 hl2
    rw [nodes_length _ s rfl] at hl1 hl2
    have hpos : 0 < (toks none (nodes s)).length := by
      have := toks_ne none _ hne
      cases h : toks none (nodes s) with
      | nil => exact absurd h this
      | cons _ _ => simp
    obtain ⟨g, cap, rfl⟩ := ownsRow_pos hrow hpos
    have KJ := Lib.hid (join_any g cap w.heap.size (toks none (nodes s)) W hrow (by omega) (by omega))
    have hc := hv.cell
    clear hl1 hl2 hpos hys hne
    gi_wp2_with (refine ⟨trivial, ?_⟩; gi_at_call 51; refine (callsIn_wide.2 KJ.out).mono ?_; rintro e w' ⟨rfl, hb2⟩)
    have hK2 : w'.heap[D]? = some (.deferred (some [])) := (hb2.block D (Array.getElem?_eq_some_iff.1 hK).1).trans hK
    refine ⟨by simp, .inl ⟨_, _, rfl, run_takeDeferred hK2, ?_⟩⟩
    exact ⟨_, results_tmp rfl _ _ _, rfl, (hB.trans (hb2.mono hB.size)).trans (belowK_b (w := w) (Nat.le_refl _) w' D _ _ (by simp at hD; omega) hK2 rfl rfl)⟩
  case stop =>
    rintro D c pre W _ _ h _
    exact h.elim
end Go.Proofs.YtkllhnfnkgkelaaDoor
