/- A fleet is made; what is told of its nodes; swaps. Condition: math/bits' table of trailing zeros lies as its text lays it. -/
import Derived.Test.YtdpfbpmdpdfpdaaDoorFlB
import Derived.Test.YtdpfbpmdpdfpdaaDoorRelT
namespace Go.Proofs.YtdpfbpmdpdfpdaaDoor
set_option linter.unusedVariables false
open Go.ChangeShapes Go.WideShapes Go.ChangeAt Go.RowKit
attribute [local go_sem ↓] Go.wp_at_zero Go.wp_at_succ comesTo_value_eq comesTo_skip_eq comesTo_enter_eq Rl.comesToR_value_eq Rl.comesToR_skip_eq Rl.comesToR_enter_eq

theorem info_nd : (Tryd.prog.info? 78).map (fun i => (i.zero, i.size, i.bytes)) = some (some (.agg #[.int .i64 0, .int .i64 0, .int .i64 0]), 3, 24) := by kernel_rfl
theorem flatN_zero : ∀ n, flatN (List.replicate n (0, 0, 0)) = List.replicate (n * 3) (.int .i64 0)
  | 0 => rfl
  | n + 1 => by
    rw [List.replicate_succ, show (n + 1) * 3 = n * 3 + 1 + 1 + 1 by omega, List.replicate_succ, List.replicate_succ, List.replicate_succ]
    simp only [flatN]
    rw [flatN_zero n]
theorem made_nd (n : Nat) : madeCells #[Value.int .i64 0, .int .i64 0, .int .i64 0] (n * 3) = (flatN (List.replicate n (0, 0, 0))).toArray := by
  rw [flatN_zero]
  apply Array.ext
  · rw [size_madeCells]; simp
  · intro i h1 h2
    rw [size_madeCells] at h1
    have h3 : i % 3 < 3 := Nat.mod_lt _ (by decide)
    simp only [madeCells, Array.getElem_map, Array.getElem_range, List.getElem_toArray, List.getElem_replicate]
    rcases (by omega : i % 3 = 0 ∨ i % 3 = 1 ∨ i % 3 = 2) with e | e | e
    all_goals
      simp only [List.size_toArray, List.length_cons, List.length_nil, Nat.reduceAdd, e]
      rfl
theorem make_nodes (n : Nat) (hn : n ≤ 64) (w : World) : (Instr.makeSlice 74 (.int .i64 (n : Int)) (.int .i64 (n : Int))).run Tryd.prog w = .ok (.slice (some ⟨w.heap.size, 0, none⟩) n n) (w.alloc (.cells (flatN (List.replicate n (0, 0, 0))).toArray 78)) := by
  obtain ⟨i, hi, hz, hs, hb⟩ := info_parts info_nd
  have hr := run_make (P := Tryd.prog) w 74 78 i _ Tryd.underlying74 hi hz .i64 .i64 (n : Int) (n : Int) (by omega) (Int.le_refl _) (by rw [hb]; omega) (by omega)
  rw [hs] at hr
  rw [← made_nd]
  simpa [Value.cells] using hr
/-- a new one -/
def newF (n s S D P : Int) : FV := ⟨S, D, P, List.replicate n.toNat (0, 0, 0), firstI n &&& ~~~ firstI (n - s), 0⟩
def newOk (n s S D P : Int) : Bool := decide (1 ≤ n ∧ n ≤ 64 ∧ 0 ≤ s ∧ s < n) && rightR S D P
def NewEnd (w : World) (n s S D P : Int) (e : Ending) (w' : World) : Prop :=
  (newOk n s S D P = false ∧ e = .returned (.tuple #[.pointer none, .int .i64 2]) ∧ Below w.heap.size w w') ∨
  (newOk n s S D P = true ∧ ∃ F G, e = .returned (.tuple #[.pointer (some ⟨F, 0, none⟩), .int .i64 0]) ∧ Fl w' F G (newF n s S D P) ∧ w.heap.size ≤ F ∧ w.heap.size ≤ G ∧ Below w.heap.size w w')
theorem newno_1 (n s S D P : Int) (w : World) (h : ¬ (1 ≤ n ∧ n ≤ 64 ∧ 0 ≤ s ∧ s < n)) : Calls Tryd.prog 16 #[.int .i64 n, .int .i64 s, .agg #[.int .i64 S, .int .i64 D, .int .i64 P]] w fun e w' => e = .returned (.tuple #[.pointer none, .int .i64 2]) ∧ Below w.heap.size w w' := by
  have HA := Lib.hid (below_alloc (Below.refl _ w) (.cells #[.int .i64 S, .int .i64 D, .int .i64 P] 45))
  by_cases h1 : n < 1
  · have d1 : decide (n < 1) = true := decide_eq_true h1
    clear h h1
    go_enter Tryd.func16, Tryd.ntmps16
    go_wp2_with fail
    go_ret2
    exact ⟨rfl, HA.out⟩
  have d1 : decide (n < 1) = false := decide_eq_false h1
  by_cases h2 : n > 64
  · have d2 : decide (n > 64) = true := decide_eq_true h2
    have d3 : decide (64 < n) = true := decide_eq_true h2
    clear h h1 h2
    go_enter Tryd.func16, Tryd.ntmps16
    go_wp2_with fail
    go_ret2
    exact ⟨rfl, HA.out⟩
  have d2 : decide (n > 64) = false := decide_eq_false h2
  have d3 : decide (64 < n) = false := decide_eq_false h2
  by_cases h3 : s < 0
  · have d4 : decide (s < 0) = true := decide_eq_true h3
    clear h h1 h2 h3
    go_enter Tryd.func16, Tryd.ntmps16
    go_wp2_with fail
    go_ret2
    exact ⟨rfl, HA.out⟩
  have d4 : decide (s < 0) = false := decide_eq_false h3
  have h4 : s ≥ n := by omega
  have d5 : decide (s ≥ n) = true := decide_eq_true h4
  have d6 : decide (n ≤ s) = true := decide_eq_true h4
  clear h h1 h2 h3 h4
  go_enter Tryd.func16, Tryd.ntmps16
  go_wp2_with fail
  go_ret2
  exact ⟨rfl, HA.out⟩
set_option maxRecDepth 100000 in
set_option maxHeartbeats 4000000 in
theorem fnew_any (n s S D P : Int) (w : World) : Calls Tryd.prog 16 #[.int .i64 n, .int .i64 s, .agg #[.int .i64 S, .int .i64 D, .int .i64 P]] w fun e w' => NewEnd w n s S D P e w' := by
  by_cases h : 1 ≤ n ∧ n ≤ 64 ∧ 0 ≤ s ∧ s < n
  case neg => exact (newno_1 n s S D P w h).mono fun e w' hx => .inl ⟨by unfold newOk; rw [decide_eq_false h]; rfl, hx⟩
  have hmx : Tryd.prog.follows .mixedOrders = true := by kernel_rfl
  obtain ⟨n0, n1, s0, s1⟩ := h
  obtain ⟨nn, rfl⟩ : ∃ nn : Nat, n = (nn : Int) := ⟨n.toNat, by omega⟩
  have d1 : decide ((nn : Int) < 1) = false := decide_eq_false (by omega)
  have d2 : decide ((nn : Int) > 64) = false := decide_eq_false (by omega)
  have d3 : decide (64 < (nn : Int)) = false := decide_eq_false (by omega)
  have d4 : decide (s < 0) = false := decide_eq_false (by omega)
  have d5 : decide (s ≥ (nn : Int)) = false := decide_eq_false (by omega)
  have d6 : decide ((nn : Int) ≤ s) = false := decide_eq_false (by omega)
  have hw1 : IntKind.i64.wrap ((nn : Int) - s) = (nn : Int) - s := by rw [IntKind.wrap_i64]; omega
  have HOK := Lib.hid (show newOk nn s S D P = rightR S D P by unfold newOk; rw [decide_eq_true ⟨n0, n1, s0, s1⟩]; rfl)
  have HNN := Lib.hid (show 1 ≤ nn ∧ nn ≤ 64 by omega)
  have hA := below_alloc (Below.refl _ w) (.cells #[.int .i64 S, .int .i64 D, .int .i64 P] 45)
  have nR := World.alloc_heap_new w (.cells #[.int .i64 S, .int .i64 D, .int .i64 P] 45)
  have KR := Lib.hid (fun W => rightR_any S D P W)
  have KF := Lib.hid (fun W => first_any nn W)
  have KG := Lib.hid (fun W => first_any (nn - s) W)
  have KL := Lib.hid (fun W => bless_any (firstI nn) (firstI (nn - s)) W)
  have HMK := Lib.hid (fun W => make_nodes nn (by omega) W)
  have HA := Lib.hid hA
  have NR := Lib.hid nR
  have HNO := Lib.hid (fun (h : rightR S D P = false) e w' (he : e = .returned (.tuple #[.pointer none, .int .i64 2])) (hb : Below w.heap.size w w') => (.inl ⟨HOK.out.trans h, he, hb⟩ : NewEnd w nn s S D P e w'))
  have HYES := Lib.hid (fun (h : rightR S D P = true) e w' F G (he : e = .returned (.tuple #[.pointer (some ⟨F, 0, none⟩), .int .i64 0])) (hf : Fl w' F G ⟨S, D, P, List.replicate nn (0, 0, 0), firstI nn &&& ~~~ firstI (nn - s), 0⟩) (h1 : w.heap.size ≤ F) (h2 : w.heap.size ≤ G) (hb : Below w.heap.size w w') => (.inr ⟨HOK.out.trans h, F, G, he, hf, h1, h2, hb⟩ : NewEnd w nn s S D P e w'))
  clear HOK
  have HLN := Lib.hid (show (List.replicate nn ((0, 0, 0) : N3)).length = nn from List.length_replicate)
  clear n0 n1 s0 s1 hA
  generalize rightR S D P = rr at *
  generalize List.replicate nn ((0, 0, 0) : N3) = ns at *
  generalize firstI (nn - s) = sg at *
  generalize firstI nn = sf at *
  have r0 := cell_of_block (o := 0) nR rfl
  have r1 := cell_of_block (o := 1) nR rfl
  have r2 := cell_of_block (o := 2) nR rfl
  clear nR
  go_enter Tryd.func16, Tryd.ntmps16
  go_upto_region 1 with fail
  generalize w.alloc (.cells #[.int .i64 S, .int .i64 D, .int .i64 P] 45) = W1 at *
  go_wp2_with fail
  refine (KR.out _).mono ?_
  rintro e w2 ⟨rfl, hb2⟩
  have HA2 := Lib.hid (below_next HA.out hb2)
  have NR2 := Lib.hid ((hb2.block _ (Array.getElem?_eq_some_iff.1 NR.out).1).trans NR.out)
  clear hb2 HA NR r0 r1 r2
  cases rr with
  | false =>
    go_wp2_with fail
    go_ret2
    exact HNO.out trivial _ _ rfl HA2.out
  | true =>
    go_wp2_with fail
    refine (KF.out _).mono ?_
    rintro e w3 ⟨rfl, rfl⟩
    go_wp2_with fail
    refine (KG.out _).mono ?_
    rintro e w3 ⟨rfl, rfl⟩
    go_wp2_with fail
    refine (KL.out _).mono ?_
    rintro e w3 ⟨rfl, rfl⟩
    generalize hsp : (sf &&& ~~~ sg) = sp at *
    clear hsp
    go_upto_region 4 with fail
    refine wp_region_held (S := fun X => X.cell? ⟨w.heap.size, 0, none⟩ = some (.int .i64 S) ∧ X.cell? ⟨w.heap.size, 1, none⟩ = some (.int .i64 D) ∧ X.cell? ⟨w.heap.size, 2, none⟩ = some (.int .i64 P)) hmx ?_
    have HA3 := Lib.hid (show Below w.heap.size w w2.drew from HA2.out.drew)
    have NR3 := Lib.hid (show w2.drew.heap[w.heap.size]? = _ from NR2.out)
    clear HA2 NR2
    change wpAnyH _ _ _ _ _ 8 _ _ w2.drew
    generalize w2.drew = w3 at *
    have hS : w3.cell? ⟨w.heap.size, 0, none⟩ = some (.int .i64 S) ∧ w3.cell? ⟨w.heap.size, 1, none⟩ = some (.int .i64 D) ∧ w3.cell? ⟨w.heap.size, 2, none⟩ = some (.int .i64 P) := ⟨cell_of_block (o := 0) NR3.out rfl, cell_of_block (o := 1) NR3.out rfl, cell_of_block (o := 2) NR3.out rfl⟩
    (refine wpAnyH_take (i := 0) (v := .agg #[.int .i64 S, .int .i64 D, .int .i64 P]) rfl (by decide +kernel) (by decide +kernel) (by decide +kernel) (fun _ _ _ h => h) (.inl ⟨by first | rfl | (go_simp; done), fun X hX => by obtain ⟨hx0, hx1, hx2⟩ := hX; first | (go_simp; done) | (go_simp; rfl)⟩) hS ?_)
    (refine wpAnyH_take (i := 1) (v := .int .i64 nn) rfl (by decide +kernel) (by decide +kernel) (by decide +kernel) (fun _ _ _ h => h) (.inl ⟨by first | rfl | (go_simp; done), fun X hX => by obtain ⟨hx0, hx1, hx2⟩ := hX; first | (go_simp; done) | (go_simp; rfl)⟩) hS ?_)
    (refine wpAnyH_take (i := 3) (v := .int .u64 (nv sp)) rfl (by decide +kernel) (by decide +kernel) (by decide +kernel) (fun _ _ _ h => h) (.inl ⟨by first | rfl | (go_simp; done), fun X hX => by obtain ⟨hx0, hx1, hx2⟩ := hX; first | (go_simp; done) | (go_simp; rfl)⟩) hS ?_)
    clear hS
    have hmk := HMK.out w3
    refine anyH_one (i := 2) (by decide +kernel) ?_
    refine opH_val (i := 2) (v := .slice (some ⟨w3.heap.size, 0, none⟩) nn nn) (w' := w3.alloc (.cells (flatN ns).toArray 78)) rfl (by first | rfl | (go_simp; done)) (by first | (go_simp; done) | (go_simp; rfl)) ?_
    have hA4 := below_alloc (Below.refl _ w3) (.cells (flatN ns).toArray 78)
    have NG := Lib.hid (World.alloc_heap_new w3 (.cells (flatN ns).toArray 78))
    have HA4 := Lib.hid (below_next HA3.out hA4)
    have NR4 := Lib.hid ((hA4.block _ (Array.getElem?_eq_some_iff.1 NR3.out).1).trans NR3.out)
    have HZ3 := Lib.hid (show w.heap.size ≤ w3.heap.size from HA3.out.size)
    clear hA4 hmk HA3 NR3
    generalize w3.alloc (.cells (flatN ns).toArray 78) = w4 at *
    generalize w3.heap.size = G at *
    have hS4 : w4.cell? ⟨w.heap.size, 0, none⟩ = some (.int .i64 S) ∧ w4.cell? ⟨w.heap.size, 1, none⟩ = some (.int .i64 D) ∧ w4.cell? ⟨w.heap.size, 2, none⟩ = some (.int .i64 P) := ⟨cell_of_block (o := 0) NR4.out rfl, cell_of_block (o := 1) NR4.out rfl, cell_of_block (o := 2) NR4.out rfl⟩
    refine ⟨hS4, ?_⟩
    (refine wpAnyH_take (i := 4) (v := .agg #[.int .i64 S, .int .i64 D, .int .i64 P, .slice (some ⟨G, 0, none⟩) nn nn, .int .u64 (nv sp), .int .i64 0]) rfl (by decide +kernel) (by decide +kernel) (by decide +kernel) (fun _ _ _ h => h) (.inl ⟨by first | rfl | (go_simp; done), fun X hX => by obtain ⟨hx0, hx1, hx2⟩ := hX; first | (go_simp; done) | (go_simp; rfl)⟩) hS4 ?_)
    clear hS4
    refine anyH_one (i := 5) (by decide +kernel) ?_
    refine opH_val (i := 5) (v := .pointer (some ⟨w4.heap.size, 0, none⟩)) (w' := w4.alloc (.cells #[.int .i64 S, .int .i64 D, .int .i64 P, .slice (some ⟨G, 0, none⟩) nn nn, .int .u64 (nv sp), .int .i64 0] 76)) rfl (by first | rfl | (go_simp; done)) (by first | (go_simp; done) | (go_simp; rfl)) ?_
    have hA5 := below_alloc (Below.refl _ w4) (.cells #[.int .i64 S, .int .i64 D, .int .i64 P, .slice (some ⟨G, 0, none⟩) nn nn, .int .u64 (nv sp), .int .i64 0] 76)
    have hlg := (Array.getElem?_eq_some_iff.1 NG.out).1
    have HFL := Lib.hid (show Fl (w4.alloc (.cells #[.int .i64 S, .int .i64 D, .int .i64 P, .slice (some ⟨G, 0, none⟩) nn nn, .int .u64 (nv sp), .int .i64 0] 76)) w4.heap.size G ⟨S, D, P, ns, sp, 0⟩ from
      ⟨by omega, by have := HNN.out; have := HLN.out; exact ⟨by show 1 ≤ ns.length; omega, by show ns.length ≤ 64; omega⟩, by unfold flC; dsimp only; rw [HLN.out]; exact World.alloc_heap_new w4 _, (hA5.block _ hlg).trans NG.out⟩)
    have HA5 := Lib.hid (below_next HA4.out hA5)
    have NR5 := Lib.hid ((hA5.block _ (Array.getElem?_eq_some_iff.1 NR4.out).1).trans NR4.out)
    have HZ4 := Lib.hid (show w.heap.size ≤ w4.heap.size from HA4.out.size)
    clear hA5 hlg HA4 NR4 NG
    generalize w4.alloc (.cells #[.int .i64 S, .int .i64 D, .int .i64 P, .slice (some ⟨G, 0, none⟩) nn nn, .int .u64 (nv sp), .int .i64 0] 76) = w5 at *
    generalize w4.heap.size = F at *
    have hS5 : w5.cell? ⟨w.heap.size, 0, none⟩ = some (.int .i64 S) ∧ w5.cell? ⟨w.heap.size, 1, none⟩ = some (.int .i64 D) ∧ w5.cell? ⟨w.heap.size, 2, none⟩ = some (.int .i64 P) := ⟨cell_of_block (o := 0) NR5.out rfl, cell_of_block (o := 1) NR5.out rfl, cell_of_block (o := 2) NR5.out rfl⟩
    refine ⟨hS5, ?_⟩
    (refine wpAnyH_take (i := 6) (v := .pointer (some ⟨F, 0, none⟩)) rfl (by decide +kernel) (by decide +kernel) (by decide +kernel) (fun _ _ _ h => h) (.inl ⟨by first | rfl | (go_simp; done), fun X hX => by obtain ⟨hx0, hx1, hx2⟩ := hX; first | (go_simp; done) | (go_simp; rfl)⟩) hS5 ?_)
    (refine wpAnyH_take (i := 7) (v := .int .i64 0) rfl (by decide +kernel) (by decide +kernel) (by decide +kernel) (fun _ _ _ h => h) (.inl ⟨by first | rfl | (go_simp; done), fun X hX => by obtain ⟨hx0, hx1, hx2⟩ := hX; first | (go_simp; done) | (go_simp; rfl)⟩) hS5 ?_)
    clear hS5
    refine wpAnyH_done (by decide +kernel) ?_ _
    go_simp
    go_wp2_with fail
    go_ret2
    exact HYES.out trivial _ _ F G rfl HFL.out HZ4.out HZ3.out HA5.out
theorem Fl.set4 {w : World} {F G : Nat} {f : FV} (h : Fl w F G f) (s : NSet) : Fl (w.setCell ⟨F, 4, none⟩ (.int .u64 (nv s))) F G { f with sp := s } := by
  have hw := (wrote_refl h.blk).set 4 (.int .u64 (nv s))
  exact ⟨h.ne, h.len, hw.there, (hw.rest _ h.ne.symm).trans h.row⟩
theorem Fl.set5 {w : World} {F G : Nat} {f : FV} (h : Fl w F G f) (s : Int) : Fl (w.setCell ⟨F, 5, none⟩ (.int .i64 s)) F G { f with sw := s } := by
  have hw := (wrote_refl h.blk).set 5 (.int .i64 s)
  exact ⟨h.ne, h.len, hw.there, (hw.rest _ h.ne.symm).trans h.row⟩
theorem Fl.setNode {w : World} {F G : Nat} {f : FV} (h : Fl w F G f) {k : Nat} (hk : k < f.ns.length) (x : N3) :
    Fl (((w.setCell ⟨G, k * 3, none⟩ (.int .i64 x.1)).setCell ⟨G, k * 3 + 1, none⟩ (.int .i64 x.2.1)).setCell ⟨G, k * 3 + 2, none⟩ (.int .i64 x.2.2)) F G { f with ns := f.ns.set k x } := by
  have hw := (((wrote_refl h.row).set (k * 3) (.int .i64 x.1)).set (k * 3 + 1) (.int .i64 x.2.1)).set (k * 3 + 2) (.int .i64 x.2.2)
  have ht := hw.there
  simp only [List.setIfInBounds_toArray] at ht
  rw [flatN_set f.ns k x hk] at ht
  have hl : (f.ns.set k x).length = f.ns.length := List.length_set
  refine ⟨h.ne, by show 1 ≤ (f.ns.set k x).length ∧ (f.ns.set k x).length ≤ 64; rw [hl]; exact h.len, ?_, ht⟩
  have := (hw.rest _ h.ne).trans h.blk
  unfold flC at this ⊢
  dsimp only
  rw [hl]
  exact this
end Go.Proofs.YtdpfbpmdpdfpdaaDoor
