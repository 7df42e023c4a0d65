/- Text: at any set; what the known set (one) comes to. Condition: math/bits' table of trailing zeros lies as its text lays it. -/
import Derived.Test.YtdpfbpmdpdfpdaaDoorBitsRow
import Derived.Test.YtdpfbpmdpdfpdaaDoorGrowTwo
namespace Go.Proofs.YtdpfbpmdpdfpdaaDoor
set_option linter.unusedVariables false
open Go.RowKit Go.Shelf
attribute [local go_sem] Oper.semAt_some
attribute [local go_sem ↓] comesTo_value_eq comesTo_skip_eq comesTo_enter_eq

/-- a node -/
abbrev Nd := { x : Int // 0 ≤ x ∧ x < 64 }
def vals (l : List Nd) : List Int := l.map (·.1)
theorem vals_snoc (l : List Nd) (x : Nd) : vals (l ++ [x]) = vals l ++ [x.1] := by simp [vals]
theorem vals_length (l : List Nd) : (vals l).length = l.length := by simp [vals]
theorem vals_in (l : List Nd) : ∀ x ∈ vals l, 0 ≤ x ∧ x < 64 := by
  intro x hx
  obtain ⟨y, _, rfl⟩ := List.mem_map.1 hx
  exact y.2
theorem all1_nd (n : Nat) (hn : 1 ≤ n) (l Bn n₀ : Nat) (s : NSet) (hg : 1 < n₀) (J Jx : List Nd → World → Prop)
    (hY : ∀ pre (x : Nd) W, J pre W → pre.length < card s → YieldAt Fence.wide (n - 1) Tryd.prog l #[.int .i64 x.1] W fun e W' =>
      (e = .returned (.bool true) ∧ J (pre ++ [x]) W' ∧ Below n₀ W W') ∨ (e = .returned (.bool false) ∧ Jx (pre ++ [x]) W'))
    (W : World) (hBn : W.cell? ⟨Bn, 0, none⟩ = some (.int .u64 (nv s))) (hT : TabZ W) (h0 : J [] W) :
    CallsIn Fence.wide n Tryd.prog 108 #[.func (.yield l) #[] #[], .pointer (some ⟨Bn, 0, none⟩)] W fun e W' => (∃ v, e = .returned v) ∧
      ((∃ ys, vals ys = nodes s ∧ J ys W') ∨ (∃ pre, vals pre <+: nodes s ∧ Jx pre W')) := by
  refine callsIn_of_wp Tryd.func108 rfl trivial ?_ rfl
  simp only [Tryd.ntmps108, List.size_toArray, List.length_cons, List.length_nil, Nat.reduceAdd, Nat.reduceSub, Array.replicate_succ, Array.replicate_zero, List.push_toArray, List.append_toArray, List.nil_append, List.cons_append]
  gi_wp2
  gi_loopw [3] (fun p wr => ∃ (pre : List Nd) (r : NSet), p = .int .u64 (nv r) ∧ nodes s = vals pre ++ nodes r ∧ TabZ wr ∧ J pre wr)
    (fun p _ => (card (BitVec.ofInt 64 (intOf p))))
  case atStart => exact ⟨[], s, rfl, rfl, hT, h0⟩
  case round =>
    obtain ⟨pre, r, rfl, hx, hTr, hJs⟩ := hrel
    by_cases hr : r = 0#64
    · have hb : (nv r == 0) = true := by rw [nv_is0]; simpa using hr
      rw [hr, nodes_zero, List.append_nil] at hx
      gi_wp2
      go_end0
      exact ⟨⟨_, rfl⟩, .inl ⟨pre, hx.symm, hJs⟩⟩
    · have hb : (nv r == 0) = false := by rw [nv_is0]; simpa using hr
      have hlen : pre.length < card s := by
        have h1 := congrArg List.length hx
        rw [nodes_length _ s rfl, List.length_append, nodes_cons hr, List.length_cons, vals_length] at h1
        omega
      obtain ⟨fn, tmps, assign, body, hy, hR⟩ := hY pre ⟨lowI r, low_lt hr⟩ wr hJs hlen
      dsimp only at hy
      gi_wp2_with (refine ⟨trivial, ?_⟩; gi_at_call 98; refine (callsIn_wide.2 (lowest_any r _ hTr)).mono ?_; rintro e w' ⟨rfl, rfl⟩)
      refine hR.mono ?_
      rintro e W3 (⟨rfl, hJ3, hk3⟩ | ⟨rfl, hJx3⟩)
      · have hT3 := TabZ.kept hTr hg hk3
        gi_wp2_with (first | (refine ⟨trivial, ?_⟩; gi_at_call 98; refine (callsIn_wide.2 (lowest_any r _ hT3)).mono ?_; rintro e w' ⟨rfl, rfl⟩) | (refine ⟨trivial, ?_⟩; gi_at_call 93; refine (callsIn_wide.2 (without_any r (lowI r) _)).mono ?_; rintro e w' ⟨rfl, rfl⟩))
        go_roundw
        case rel => exact ⟨pre ++ [⟨lowI r, low_lt hr⟩], restS r, rfl, by rw [hx, nodes_cons hr, vals_snoc]; simp, hT3, hJ3⟩
        case measure =>
          have := card_rest hr
          simp only [intOf, nv, BitVec.ofInt_natCast, BitVec.ofNat_toNat, BitVec.setWidth_eq]
          unfold restS at this
          omega
      · gi_wp2
        refine bodyPost_ret (results_none rfl _ _ _) rfl ?_
        exact ⟨⟨_, rfl⟩, .inr ⟨pre ++ [⟨lowI r, low_lt hr⟩], ⟨nodes (restS r), by rw [hx, nodes_cons hr, vals_snoc]; simp⟩, hJx3⟩⟩
/-- the contract of the iterator over nodes, as the law of ranges asks it -/
theorem all1_nodes (n : Nat) (hn : 1 ≤ n) (Bn n₀ : Nat) (s : NSet) (hg : 1 < n₀) (w : World) (hBn : w.cell? ⟨Bn, 0, none⟩ = some (.int .u64 (nv s))) (hT : TabZ w) :
    SeqStopsK Fence.wide n Tryd.prog 108 #[.pointer (some ⟨Bn, 0, none⟩)] (fun x : Nd => #[.int .i64 x.1]) (Below n₀) (fun ys => vals ys = nodes s) (fun pre => vals pre <+: nodes s) (card s) w := by
  intro l J Jx W hW _ _ hY h0
  exact all1_nd n hn l Bn n₀ s hg J Jx hY W ((hW.cell (p := ⟨Bn, 0, none⟩) (World.block_lt_of_cell? w _ hBn)).trans hBn) (hT.below hW) h0
theorem infoStr : (Tryd.prog.info? 9).map (fun i => (i.zero, i.size, i.bytes)) = some (some (.string .empty), 1, 16) := by kernel_rfl
theorem cells_new (W : World) (l : List Value) (T : TypeId) : ∀ j u, l[j]? = some u → (W.alloc (.cells l.toArray T)).cell? ((⟨W.heap.size, 0, none⟩ : Addr).add j) = some u := by
  intro j u h
  have hb := World.alloc_heap_new W (.cells l.toArray T)
  have : ((⟨W.heap.size, 0, none⟩ : Addr).add j) = ⟨W.heap.size, j, none⟩ := by unfold Addr.add; split <;> simp_all
  rw [this]
  simp only [World.cell?, hb]
  simpa using h
theorem ownsRow_pos {W : World} {base : Nat} {e : TypeId} {size : Nat} {v : Value} {k : Nat} {xs : List Value} (h : W.ownsRow base e size v k xs) (hk : 0 < k) : ∃ g cap, v = .slice (some ⟨g, 0, none⟩) k cap := by
  obtain ⟨k, rfl⟩ : ∃ j, k = j + 1 := ⟨k - 1, by omega⟩
  exact ownsRow_succ h
theorem strV_one (ws : List (List UInt8)) : ∀ u ∈ ws.map strV, u.oneCell' = true := by
  intro u hu
  obtain ⟨t, _, rfl⟩ := List.mem_map.1 hu
  rfl

end Go.Proofs.YtdpfbpmdpdfpdaaDoor
