/- The nodes that are as a visitor asks, of a fleet that nobody made: none. Condition: math/bits' table of trailing zeros lies as its text lays it. -/
import Derived.Test.YtdpfbpmdpdfpdaaDoorFlW
namespace Go.Proofs.YtdpfbpmdpdfpdaaDoor
set_option linter.unusedVariables false
open Go.RowKit Go.Shelf
attribute [local go_sem] Oper.semAt_some
attribute [local go_sem ↓] comesTo_value_eq comesTo_skip_eq comesTo_enter_eq
set_option maxRecDepth 100000 in
set_option maxHeartbeats 4000000 in
theorem where_no {w : World} {v : Value} (h : NoFl w v) (hT : TabZ w) (fn : FuncId) (caps : Array Value) :
    Calls Tryd.prog 77 #[v, .func (.func fn) #[] caps] w fun e w' => e = .returned (.int .u64 0) ∧ Below w.heap.size w w' := by
  obtain ⟨o, rfl⟩ : ∃ o, v = .pointer o := by rcases h with rfl | ⟨P, rfl, _⟩ <;> exact ⟨_, rfl⟩
  obtain ⟨m, hm⟩ : ∃ m : Nat, m = 0 := ⟨0, rfl⟩
  have hmx : Tryd.prog.follows .mixedOrders = true := by kernel_rfl
  have hb0 : Below w.heap.size w (((w.alloc (.cells #[.pointer o] 47)).alloc (.cells #[.func (.func fn) #[] caps] 117)).alloc (.cells #[.int .u64 0] 24)) :=
    below_alloc (below_alloc (below_alloc (Below.refl _ w) _) _) _
  have bP := Boxed.new w 47 (.pointer o)
  have bF := Boxed.new (w.alloc (.cells #[.pointer o] 47)) 117 (.func (.func fn) #[] caps)
  rw [World.size_alloc] at bF
  have bS := Boxed.new ((w.alloc (.cells #[.pointer o] 47)).alloc (.cells #[.func (.func fn) #[] caps] 117)) 24 (.int .u64 0)
  rw [World.size_alloc, World.size_alloc] at bS
  have bP2 := (bP.alloc (.cells #[.func (.func fn) #[] caps] 117)).alloc (.cells #[.int .u64 0] 24)
  have bF2 := bF.alloc (.cells #[.int .u64 0] 24)
  have hz : (((w.alloc (.cells #[.pointer o] 47)).alloc (.cells #[.func (.func fn) #[] caps] 117)).alloc (.cells #[.int .u64 0] 24)).heap.size = w.heap.size + 1 + 1 + 1 := by simp
  clear bP bF
  refine (callsIn_wide (n := 3)).1 ?_
  refine callsIn_of_wp_marks Tryd.func77 rfl trivial ?_ rfl
  simp only [Tryd.ntmps77, List.size_toArray, List.length_cons, List.length_nil, Nat.reduceAdd, Nat.reduceSub, Array.replicate_succ, Array.replicate_zero, List.push_toArray, List.append_toArray, List.nil_append, List.cons_append]
  have hcP := bP2.cell
  have KL := Lib.hid ((flen_no (h.below hb0)).mono (fun e w' hx => (⟨hx.1.trans (by rw [hm]; rfl), hx.2⟩ : e = .returned (.int .i64 (m : Int)) ∧ _ = w')))
  have KFi := Lib.hid (fun W => first_any m W)
  have KAl := Lib.hid (fun W => all_any (firstI m) W)
  have HM := Lib.hid hm
  clear hm
  gi_wp2_with (first | (refine ⟨trivial, ?_⟩; gi_at_call 36; refine (callsIn_wide.2 KL.out).mono ?_; rintro e w' ⟨rfl, rfl⟩) | (refine ⟨trivial, ?_⟩; gi_at_call 56; refine (callsIn_wide.2 (KFi.out _)).mono ?_; rintro e w' ⟨rfl, rfl⟩) | (refine ⟨trivial, ?_⟩; gi_at_call 100; refine (callsIn_wide.2 (KAl.out _)).mono ?_; rintro e w' ⟨rfl, rfl⟩))
  have bA := Boxed.new (((w.alloc (.cells #[.pointer o] 47)).alloc (.cells #[.func (.func fn) #[] caps] 117)).alloc (.cells #[.int .u64 0] 24)) 24 (.int .u64 (nv (firstI m)))
  rw [hz] at bA
  have hB1 := below_alloc hb0 (.cells #[.int .u64 (nv (firstI m))] 24)
  have H := Lib.hid h
  refine wpIn_rangeFunc_ownG rfl (by omega) (gf := 108) (lb := #[.pointer (some ⟨w.heap.size + 1 + 1 + 1, 0, none⟩)]) rfl trivial (enters_of Tryd.func108 (by kernel_rfl) rfl)
    (all1_first _ (by omega) (w.heap.size + 1 + 1 + 1) w.heap.size m hT.1 _ bA.cell (hT.below hB1)) belowK_t (belowK_b (by simp; omega)) (Below.refl _ _) (fun _ => rfl)
    (fun (pre : List (Nm m)) X => (Boxed X (w.heap.size + 1 + 1) 24 (.int .u64 0) ∧ Boxed X w.heap.size 47 (.pointer o) ∧ Boxed X (w.heap.size + 1) 117 (.func (.func fn) #[] caps)) ∧ Below w.heap.size w X)
    (fun _ _ _ => False)
    (OwnFrom.and (Own.from (fun s' X Y row hs' hg hr => ⟨boxed_own (w.heap.size + 1 + 1) 24 (fun pre : List (Nm m) => .int .u64 0) s' X Y row hs'.1 hg hr, boxed_own w.heap.size 47 (fun _ : List (Nm m) => .pointer o) s' X Y row hs'.2.1 hg hr, boxed_own (w.heap.size + 1) 117 (fun _ : List (Nm m) => .func (.func fn) #[] caps) s' X Y row hs'.2.2 hg hr⟩) _) (ownFrom_below (Nat.le_refl _) (by simp; omega)))
    (fun _ _ _ _ _ hs _ _ => hs)
    ⟨⟨bS.alloc _, bP2.alloc _, bF2.alloc _⟩, hB1⟩
    (fun x => { tmps := #[.pointer o, .func (.func fn) #[] caps, .pointer (some ⟨w.heap.size, 0, none⟩), .pointer (some ⟨w.heap.size + 1, 0, none⟩), .int .u64 0, .pointer (some ⟨w.heap.size + 1 + 1, 0, none⟩), .int .i64 x.1, .pointer o, .int .i64 (m : Int), .int .u64 (nv (firstI m)), .func (.func 108) #[] #[.pointer (some ⟨w.heap.size + 1 + 1 + 1, 0, none⟩)], .int .i64 x.1, undef, undef, undef, undef, undef, undef, undef, undef, undef, undef, undef, undef, undef], defers := [] }) ?assign ?body ?done ?stop
  case assign =>
    intro l x W K hK
    gi_wp2
    exact hK
  case body =>
    rintro l pre x X _ _
    obtain ⟨x, hx0, hx1⟩ := x
    exact absurd hx1 (by have := HM.out; omega)
  case done =>
    rintro D ys W hD hys ⟨⟨hS, _, _⟩, hB⟩ hK
    have hcS := hS.cell
    have hcS' : W.cell? ⟨w.heap.size + 1 + 1, 0, none⟩ = some (.int .u64 0) := hcS
    clear hcS
    gi_wp2
    refine ⟨by simp, .inl ⟨_, _, rfl, run_takeDeferred hK, ?_⟩⟩
    exact ⟨_, results_tmp rfl _ _ _, rfl, hB.trans (belowK_b (w := w) (Nat.le_refl _) W D _ _ (by simp at hD; omega) hK rfl rfl)⟩
  case stop =>
    rintro D c pre W _ _ h _
    exact h.elim
end Go.Proofs.YtdpfbpmdpdfpdaaDoor
