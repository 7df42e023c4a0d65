/- Reservations (layer 18), the document's: Add. Conditions: the lengths' bounds; reservations that may be; the levels' likeness. -/
import Derived.Test.YtbhnjmdlagjfbaaMan
import Derived.Test.YtbhnjmdlagjfbaaMal
namespace Go.Proofs.Ytbhnjmdlagjfbaa
set_option linter.unusedVariables false
open Go.ChangeShapes Go.WideShapes Go.ChangeAt Go.RowKit
attribute [local go_sem ↓] Go.wp_at_zero Go.wp_at_succ comesTo_value_eq comesTo_skip_eq comesTo_enter_eq

/-- the list's box, the levels', the span's, the result's -/
structure Ad18 (w X : World) (n : Int) (v : Value) (first : Int) (vF : Value) (f t : Int) : Prop where
  b0 : X.heap[w.heap.size]? = some (.cells #[.int .i64 n, v] 35 (0, 0))
  b1 : X.heap[w.heap.size + 1]? = some (.cells #[.int .i64 first, vF] 28 (0, 0))
  b2 : X.heap[w.heap.size + 1 + 1]? = some (.cells #[.int .i64 f, .int .i64 t] 43 (0, 0))
  b3 : X.heap[w.heap.size + 1 + 1 + 1]? = some (.cells #[.int .i64 0, .slice none 0 0] 35 (0, 0))
  bel : Below w.heap.size w X
theorem Ad18.start (w : World) (n : Int) (v : Value) (first : Int) (vF : Value) (f t : Int) : Ad18 w ((((w.alloc (.cells #[.int .i64 n, v] 35)).alloc (.cells #[.int .i64 first, vF] 28)).alloc (.cells #[.int .i64 f, .int .i64 t] 43)).alloc (.cells #[.int .i64 0, .slice none 0 0] 35)) n v first vF f t := by
  have c1 := below_alloc (Below.refl _ w) (.cells #[.int .i64 n, v] 35)
  have n1 := World.alloc_heap_new w (.cells #[.int .i64 n, v] 35)
  have s1 : (w.alloc (.cells #[.int .i64 n, v] 35)).heap.size = w.heap.size + 1 := by simp
  generalize w.alloc (.cells #[.int .i64 n, v] 35) = A1 at *
  have c2 := below_alloc (Below.refl _ A1) (.cells #[.int .i64 first, vF] 28)
  have n2 := World.alloc_heap_new A1 (.cells #[.int .i64 first, vF] 28)
  have s2 : (A1.alloc (.cells #[.int .i64 first, vF] 28)).heap.size = A1.heap.size + 1 := by simp
  generalize A1.alloc (.cells #[.int .i64 first, vF] 28) = A2 at *
  have c3 := below_alloc (Below.refl _ A2) (.cells #[.int .i64 f, .int .i64 t] 43)
  have n3 := World.alloc_heap_new A2 (.cells #[.int .i64 f, .int .i64 t] 43)
  have s3 : (A2.alloc (.cells #[.int .i64 f, .int .i64 t] 43)).heap.size = A2.heap.size + 1 := by simp
  generalize A2.alloc (.cells #[.int .i64 f, .int .i64 t] 43) = A3 at *
  have c4 := below_alloc (Below.refl _ A3) (.cells #[.int .i64 0, .slice none 0 0] 35)
  have n4 := World.alloc_heap_new A3 (.cells #[.int .i64 0, .slice none 0 0] 35)
  rw [s1] at n2
  rw [s2, s1] at n3
  rw [s3, s2, s1] at n4
  refine ⟨(c4.block _ (by omega)).trans ((c3.block _ (by omega)).trans ((c2.block _ (by omega)).trans n1)), (c4.block _ (by omega)).trans ((c3.block _ (by omega)).trans n2), (c4.block _ (by omega)).trans n3, n4, below_next (below_next (below_next c1 c2) c3) c4⟩
theorem Ad18.below {w X X' : World} {n : Int} {v : Value} {first : Int} {vF : Value} {f t : Int} (h : Ad18 w X n v first vF f t) (hb : Below X.heap.size X X') : Ad18 w X' n v first vF f t :=
  ⟨(hb.block _ (Array.getElem?_eq_some_iff.1 h.b0).1).trans h.b0, (hb.block _ (Array.getElem?_eq_some_iff.1 h.b1).1).trans h.b1, (hb.block _ (Array.getElem?_eq_some_iff.1 h.b2).1).trans h.b2, (hb.block _ (Array.getElem?_eq_some_iff.1 h.b3).1).trans h.b3, below_next h.bel hb⟩
theorem Ad18.lt {w X : World} {n : Int} {v : Value} {first : Int} {vF : Value} {f t : Int} (h : Ad18 w X n v first vF f t) : w.heap.size + 3 < X.heap.size := (Array.getElem?_eq_some_iff.1 h.b3).1
theorem Ad18.turn {w X X' : World} {n n' : Int} {v v' : Value} {first : Int} {vF : Value} {f t : Int} (h : Ad18 w X n v first vF f t) (hw : WroteTo w.heap.size 35 #[.int .i64 n', v'] X X') : Ad18 w X' n' v' first vF f t :=
  ⟨hw.there, (hw.rest _ (by omega)).trans h.b1, (hw.rest _ (by omega)).trans h.b2, (hw.rest _ (by omega)).trans h.b3, hw.below h.bel (Nat.le_refl _)⟩
set_option maxRecDepth 100000 in
set_option maxHeartbeats 8000000 in
theorem radd18_any {w : World} {v vF : Value} {C : List ChgC} {S : List (Int × Int)} {first : Int} (hC : RowC w vF C) (hc : C.length ≤ 16) (hlk : LikeU first S C) (hr : RightU S) {l : List RV} (h : RdR w v l) (hl : l.length ≤ 8) (hw : okW l) {n : Int} (hn : 1 ≤ n ∧ n ≤ 1073741825) (f t W : Int) :
    Calls Try.prog 15 #[.agg #[.int .i64 n, v], .agg #[.int .i64 first, vF], .agg #[.int .i64 f, .int .i64 t], .int .i64 W] w fun e w' => ∃ v', e = .returned (.tuple #[.agg #[.int .i64 (addR S l n f t W).2.2.2, v'], .int .i64 (addR S l n f t W).1, .int .i64 (addR S l n f t W).2.1]) ∧ RdR w' v' (addR S l n f t W).2.2.1 ∧ Below w.heap.size w w' ∧ (Ty18 w v → Ty18 w' v') := by
  have hmx : Try.prog.follows .mixedOrders = true := by kernel_rfl
  have HRD := Lib.hid (fun (X : World) (hX : Below w.heap.size w X) => h.below hX)
  have HB0 := Lib.hid (Ad18.start w n v first vF f t)
  have HL := Lib.hid hl
  have HNB := Lib.hid hn
  have HLW := Lib.hid (fun (X : World) (hX : Below w.heap.size w X) => rlow18_any (hC.below hX) (by omega) (h.below hX) hl hw first)
  have HCL := Lib.hid (show (C ++ l.map chgR).length ≤ 1048576 by rw [List.length_append, List.length_map]; omega)
  have HFI := Lib.hid (fun (hm : mayR f t W = true) => fits_in hlk hr hw hm)
  obtain ⟨res, hres⟩ : ∃ r, r = addR S l n f t W := ⟨_, rfl⟩
  rw [← hres]
  have HRES := Lib.hid hres
  obtain ⟨ad, c, hv, _⟩ := id h
  obtain ⟨aF, cF, hvF⟩ := hC.form
  have HC := Lib.hid h
  subst hv hvF
  obtain ⟨len, hlen⟩ : ∃ x, x = l.length := ⟨_, rfl⟩
  have HLEN := Lib.hid hlen
  rw [← hlen] at HB0 HL HRD HLW ⊢
  clear hl hc hw hn hres h hC hlk hr hlen
  generalize C.length = cl at *
  have KM := Lib.hid (fun X => rmay_any f t W X)
  go_enter Try.func15, Try.ntmps15
  go_upto_region 1 with fail
  generalize (((w.alloc (.cells #[.int .i64 n, .slice ad len c] 35)).alloc (.cells #[.int .i64 first, .slice aF cl cF] 28)).alloc (.cells #[.int .i64 f, .int .i64 t] 43)).alloc (.cells #[.int .i64 0, .slice none 0 0] 35) = W1 at *
  have q0 : W1.cell? ⟨w.heap.size + 1 + 1, 0, none⟩ = some (.int .i64 f) := cell_of_block (o := 0) HB0.out.b2 rfl
  have q1 : W1.cell? ⟨w.heap.size + 1 + 1, 1, none⟩ = some (.int .i64 t) := cell_of_block (o := 1) HB0.out.b2 rfl
  go_wp2_with fail
  refine (KM.out _).mono ?_
  rintro e W2 ⟨rfl, hb⟩
  have HB2 := Lib.hid (HB0.out.below hb)
  clear hb q0 q1 KM HB0
  generalize hmm : mayR f t W = mm at *
  cases mm with
  | false =>
    have HE := Lib.hid (show res = (0, 2, l, n) from by rw [HRES.out]; unfold addR; rw [if_pos hmm])
    go_upto_region 2 with fail
    refine wp_region_lit ?_
    refine wpList_load_all rfl 35 _ rfl w.heap.size [.int .i64 n, .slice ad len c] _ (by go_simp) HB2.out.b0 Try.underlying35 rfl (by kernel_rfl) ?_
    refine wpList_store_all rfl 35 _ _ rfl (w.heap.size + 1 + 1 + 1) (T := 35) [.int .i64 n, .slice ad len c] (by go_simp) (by go_simp) HB2.out.b3 rfl (by kernel_rfl) rfl ?_
    intro w8 hw8
    have HW8 := Lib.hid hw8.there
    have HB8 := Lib.hid (hw8.below HB2.out.bel (by omega))
    have HR8 := Lib.hid (HRD.out w8 HB8.out)
    have HT8 := Lib.hid (fun (h : Ty18 w (.slice ad len c)) => h.below HB8.out)
    clear hw8
    go_wp2_with fail
    exact bodyPost_ret (results_allH3 [.int .i64 n, .slice ad len c] _ Try.results15 (by go_simp) HW8.out Try.underlying35 rfl (by kernel_rfl)) rfl ⟨_, by rw [HE.out]; first | done | rfl, by rw [HE.out]; exact HR8.out, HB8.out, HT8.out⟩
  | true =>
  have HMM := Lib.hid hmm
  clear hmm
  have q0 : W2.cell? ⟨w.heap.size, 0, none⟩ = some (.int .i64 n) := cell_of_block (o := 0) HB2.out.b0 rfl
  have q1 : W2.cell? ⟨w.heap.size, 1, none⟩ = some (.slice ad len c) := cell_of_block (o := 1) HB2.out.b0 rfl
  by_cases h8 : 8 ≤ len
  case pos =>
    have d1 : decide ((len : Int) ≥ 8) = true := decide_eq_true (by omega)
    have d2 : decide (8 ≤ (len : Int)) = true := decide_eq_true (by omega)
    have d3 : decide (8 ≤ len) = true := decide_eq_true h8
    have d4 : decide (len ≥ 8) = true := decide_eq_true h8
    have HE := Lib.hid (show res = (0, 15, l, n) from by rw [HRES.out]; unfold addR; rw [if_neg (by rw [HMM.out]; exact Bool.noConfusion), if_pos (.inl (by rw [← HLEN.out]; exact h8))])
    clear h8
    go_upto_region 4 with fail
    refine wp_region_lit ?_
    refine wpList_load_all rfl 35 _ rfl w.heap.size [.int .i64 n, .slice ad len c] _ (by go_simp) HB2.out.b0 Try.underlying35 rfl (by kernel_rfl) ?_
    refine wpList_store_all rfl 35 _ _ rfl (w.heap.size + 1 + 1 + 1) (T := 35) [.int .i64 n, .slice ad len c] (by go_simp) (by go_simp) HB2.out.b3 rfl (by kernel_rfl) rfl ?_
    intro w8 hw8
    have HW8 := Lib.hid hw8.there
    have HB8 := Lib.hid (hw8.below HB2.out.bel (by omega))
    have HR8 := Lib.hid (HRD.out w8 HB8.out)
    have HT8 := Lib.hid (fun (h : Ty18 w (.slice ad len c)) => h.below HB8.out)
    clear hw8
    go_wp2_with fail
    exact bodyPost_ret (results_allH3 [.int .i64 n, .slice ad len c] _ Try.results15 (by go_simp) HW8.out Try.underlying35 rfl (by kernel_rfl)) rfl ⟨_, by rw [HE.out]; first | done | rfl, by rw [HE.out]; exact HR8.out, HB8.out, HT8.out⟩
  have d1 : decide ((len : Int) ≥ 8) = false := decide_eq_false (by omega)
  have d2 : decide (8 ≤ (len : Int)) = false := decide_eq_false (by omega)
  have d3 : decide (8 ≤ len) = false := decide_eq_false h8
  have d4 : decide (len ≥ 8) = false := decide_eq_false h8
  by_cases hbig : n > 1073741824
  case pos =>
    have d5 : decide (n > 1073741824) = true := decide_eq_true hbig
    have d6 : decide (1073741824 < n) = true := decide_eq_true hbig
    have HE := Lib.hid (show res = (0, 15, l, n) from by rw [HRES.out]; unfold addR; rw [if_neg (by rw [HMM.out]; exact Bool.noConfusion), if_pos (.inr hbig)])
    clear h8 hbig
    go_upto_region 4 with fail
    refine wp_region_lit ?_
    refine wpList_load_all rfl 35 _ rfl w.heap.size [.int .i64 n, .slice ad len c] _ (by go_simp) HB2.out.b0 Try.underlying35 rfl (by kernel_rfl) ?_
    refine wpList_store_all rfl 35 _ _ rfl (w.heap.size + 1 + 1 + 1) (T := 35) [.int .i64 n, .slice ad len c] (by go_simp) (by go_simp) HB2.out.b3 rfl (by kernel_rfl) rfl ?_
    intro w8 hw8
    have HW8 := Lib.hid hw8.there
    have HB8 := Lib.hid (hw8.below HB2.out.bel (by omega))
    have HR8 := Lib.hid (HRD.out w8 HB8.out)
    have HT8 := Lib.hid (fun (h : Ty18 w (.slice ad len c)) => h.below HB8.out)
    clear hw8
    go_wp2_with fail
    exact bodyPost_ret (results_allH3 [.int .i64 n, .slice ad len c] _ Try.results15 (by go_simp) HW8.out Try.underlying35 rfl (by kernel_rfl)) rfl ⟨_, by rw [HE.out]; first | done | rfl, by rw [HE.out]; exact HR8.out, HB8.out, HT8.out⟩
  have d5 : decide (n > 1073741824) = false := decide_eq_false hbig
  have d6 : decide (1073741824 < n) = false := decide_eq_false hbig
  have HBIG := Lib.hid hbig
  have H8 := Lib.hid h8
  have HADD := Lib.hid (show addR S l n f t W = if fitsU (lowerU S (l.filter fun r => meetsU (r.2.1, r.2.2.1) (f, t))) f t W = false then (0, 16, l, n) else (n, 0, l ++ [(n, f, t, W)], n + 1) from by
    unfold addR
    rw [if_neg (by rw [HMM.out]; exact Bool.noConfusion), if_neg (by rw [not_or, ← HLEN.out]; exact ⟨h8, by omega⟩)])
  have HIN := Lib.hid (HFI.out rfl)
  go_upto_region 5 with fail
  clear d1 d2 d3 d4 d5 d6 q0 q1 hbig h8 HFI
  refine wp_region_held (S := fun X => X.cell? ⟨w.heap.size, 1, none⟩ = some (.slice ad len c) ∧ X.cell? ⟨w.heap.size + 1, 0, none⟩ = some (.int .i64 first) ∧ X.cell? ⟨w.heap.size + 1, 1, none⟩ = some (.slice aF cl cF) ∧ X.cell? ⟨w.heap.size + 1 + 1, 0, none⟩ = some (.int .i64 f) ∧ X.cell? ⟨w.heap.size + 1 + 1, 1, none⟩ = some (.int .i64 t)) hmx ?_
  have HBd := Lib.hid (HB2.out.below (show Below W2.heap.size W2 W2.drew from (Below.refl _ _).drew))
  clear HB2
  have HCE := Lib.hid (fun (X : World) (h : Ad18 w X n (.slice ad len c) first (.slice aF cl cF) f t) => (show X.cell? ⟨w.heap.size, 1, none⟩ = some (.slice ad len c) ∧ X.cell? ⟨w.heap.size + 1, 0, none⟩ = some (.int .i64 first) ∧ X.cell? ⟨w.heap.size + 1, 1, none⟩ = some (.slice aF cl cF) ∧ X.cell? ⟨w.heap.size + 1 + 1, 0, none⟩ = some (.int .i64 f) ∧ X.cell? ⟨w.heap.size + 1 + 1, 1, none⟩ = some (.int .i64 t) from ⟨cell_of_block (o := 1) h.b0 rfl, cell_of_block (o := 0) h.b1 rfl, cell_of_block (o := 1) h.b1 rfl, cell_of_block (o := 0) h.b2 rfl, cell_of_block (o := 1) h.b2 rfl⟩))
  change wpAnyH _ _ _ _ _ 11 _ _ W2.drew
  generalize W2.drew = V0 at *
  have hS := HCE.out _ HBd.out
  (refine wpAnyH_take (i := 0) (v := .agg #[.int .i64 first, .slice aF cl cF]) rfl (by decide +kernel) (by decide +kernel) (by decide +kernel) (fun _ _ _ h => h) (.inl ⟨by first | rfl | (go_simp; done), fun X hX => by obtain ⟨hx0, hx1, hx2, hx3, hx4⟩ := hX; first | (go_simp; done) | (go_simp; rfl)⟩) hS ?_)
  (refine wpAnyH_take (i := 1) (v := .pointer (some ⟨w.heap.size, 1, none⟩)) rfl (by decide +kernel) (by decide +kernel) (by decide +kernel) (fun _ _ _ h => h) (.inl ⟨by first | rfl | (go_simp; done), fun X hX => by obtain ⟨hx0, hx1, hx2, hx3, hx4⟩ := hX; first | (go_simp; done) | (go_simp; rfl)⟩) hS ?_)
  (refine wpAnyH_take (i := 2) (v := .slice ad len c) rfl (by decide +kernel) (by decide +kernel) (by decide +kernel) (fun _ _ _ h => h) (.inl ⟨by first | rfl | (go_simp; done), fun X hX => by obtain ⟨hx0, hx1, hx2, hx3, hx4⟩ := hX; first | (go_simp; done) | (go_simp; rfl)⟩) hS ?_)
  (refine wpAnyH_take (i := 4) (v := .agg #[.int .i64 f, .int .i64 t]) rfl (by decide +kernel) (by decide +kernel) (by decide +kernel) (fun _ _ _ h => h) (.inl ⟨by first | rfl | (go_simp; done), fun X hX => by obtain ⟨hx0, hx1, hx2, hx3, hx4⟩ := hX; first | (go_simp; done) | (go_simp; rfl)⟩) hS ?_)
  clear hS
  refine anyH_call (i := 3) (by decide +kernel) rfl (by first | rfl | (go_simp; done)) (by go_simp) (HLW.out V0 HBd.out.bel) ?_
  rintro e V1 ⟨vl, rfl, hrow, hb⟩
  have HB3 := Lib.hid (HBd.out.below hb)
  have KI := Lib.hid (rin_any hrow HCL.out first f t)
  clear hb hrow HBd HLW
  refine ⟨_, rfl, HCE.out _ HB3.out, ?_⟩
  generalize inL first (C ++ l.map chgR) f t = M at *
  refine anyH_call (i := 5) (by decide +kernel) rfl (by first | rfl | (go_simp; done)) (by go_simp) (KI.out) ?_
  rintro e V2 ⟨v1, v2, rfl, ho1, ho2, hb⟩
  have HB4 := Lib.hid (HB3.out.below hb)
  obtain ⟨a1, c1, rfl, hr1⟩ := ho1.form
  have hvl : (M.map (·.1)).length ≤ maxLen := by
    rcases ho1.2 with ⟨_, h0⟩ | ⟨_, cap, _, _, _, _, hc1, hm1, _⟩
    · rw [h0]; exact Nat.zero_le _
    · exact Nat.le_trans hc1 hm1
  clear ho1 ho2 hb HB3 KI
  generalize M.map (·.1) = V at *
  have hS := HCE.out _ HB4.out
  refine ⟨_, rfl, hS, ?_⟩
  obtain ⟨vn, hvn⟩ : ∃ x, x = V.length := ⟨_, rfl⟩
  rw [← hvn] at hr1 hvl ⊢
  have HVL := Lib.hid hvl
  have HVN := Lib.hid hvn
  have HR1 := Lib.hid hr1
  clear hvn hr1 hvl
  (refine wpAnyH_take (i := 6) (v := .tuple #[.slice a1 vn c1, v2]) rfl (by decide +kernel) (by decide +kernel) (by decide +kernel) (fun _ _ _ h => h) (.inl ⟨by first | rfl | (go_simp; done), fun X hX => by obtain ⟨hx0, hx1, hx2, hx3, hx4⟩ := hX; first | (go_simp; done) | (go_simp; rfl)⟩) hS ?_)
  (refine wpAnyH_take (i := 7) (v := .slice a1 vn c1) rfl (by decide +kernel) (by decide +kernel) (by decide +kernel) (fun _ _ _ h => h) (.inl ⟨by first | rfl | (go_simp; done), fun X hX => by obtain ⟨hx0, hx1, hx2, hx3, hx4⟩ := hX; first | (go_simp; done) | (go_simp; rfl)⟩) hS ?_)
  (refine wpAnyH_take (i := 8) (v := v2) rfl (by decide +kernel) (by decide +kernel) (by decide +kernel) (fun _ _ _ h => h) (.inl ⟨by first | rfl | (go_simp; done), fun X hX => by obtain ⟨hx0, hx1, hx2, hx3, hx4⟩ := hX; first | (go_simp; done) | (go_simp; rfl)⟩) hS ?_)
  (refine wpAnyH_take (i := 9) (v := .slice a1 vn c1) rfl (by decide +kernel) (by decide +kernel) (by decide +kernel) (fun _ _ _ h => h) (.inl ⟨by first | rfl | (go_simp; done), fun X hX => by obtain ⟨hx0, hx1, hx2, hx3, hx4⟩ := hX; first | (go_simp; done) | (go_simp; rfl)⟩) hS ?_)
  (refine wpAnyH_take (i := 10) (v := v2) rfl (by decide +kernel) (by decide +kernel) (by decide +kernel) (fun _ _ _ h => h) (.inl ⟨by first | rfl | (go_simp; done), fun X hX => by obtain ⟨hx0, hx1, hx2, hx3, hx4⟩ := hX; first | (go_simp; done) | (go_simp; rfl)⟩) hS ?_)
  clear hS HCE
  refine wpAnyH_done (by decide +kernel) ?_ _
  go_simp
  have HYES := Lib.hid (fun (hall : ∀ x ∈ V, W ≤ x) => (show res = (n, 0, l ++ [(n, f, t, W)], n + 1) from by
    rw [HRES.out, HADD.out, if_neg (by rw [HIN.out.2 hall]; exact Bool.noConfusion)]))
  have HNO := Lib.hid (fun (x : Int) (hx : x ∈ V) (hlo : x < W) => (show res = (0, 16, l, n) from by
    rw [HRES.out, HADD.out, if_pos (by
      cases hz : fitsU (lowerU S (l.filter fun r => meetsU (r.2.1, r.2.2.1) (f, t))) f t W with
      | false => rfl
      | true => have := HIN.out.1 hz x hx; omega)]))
  by_cases h0 : 0 < vn
  case neg =>
    obtain rfl : vn = 0 := by omega
    have HE := Lib.hid (HYES.out (fun x hx => by rw [List.eq_nil_of_length_eq_zero HVN.out.symm] at hx; cases hx))
    clear h0 HYES HNO
    go_wp2_with fail
    go_loopw [13] (fun i wr => i = .int .i64 0 ∧ wr = V2) (fun _ _ => 0)
    case atStart => exact ⟨rfl, rfl⟩
    case round =>
      obtain ⟨rfl, rfl⟩ := hrel
      have hd : decide ((0 : Int) < 0) = false := by decide
      have q0 : wr.cell? ⟨w.heap.size, 0, none⟩ = some (.int .i64 n) := cell_of_block (o := 0) HB4.out.b0 rfl
      go_upto_region 12 with fail
      clear q0
      refine Ap.wp_region_K (S1 := fun X => X.cell? ⟨w.heap.size + 1 + 1, 0, none⟩ = some (.int .i64 f) ∧ X.cell? ⟨w.heap.size + 1 + 1, 1, none⟩ = some (.int .i64 t)) (S2 := fun X => X.cell? ⟨w.heap.size, 1, none⟩ = some (.slice ad len c)) (js := 11) hmx ?_
      change Ap.wpAnyK _ _ _ _ _ _ _ 12 _ _ wr.drew
      have HB5 := Lib.hid (HB4.out.below (show Below wr.heap.size wr wr.drew from (Below.refl _ _).drew))
      clear HB4
      generalize wr.drew = X0 at *
      have HSX := Lib.hid (fun (X : World) (h : Ad18 w X n (.slice ad len c) first (.slice aF cl cF) f t) => (show (fun X : World => X.cell? ⟨w.heap.size + 1 + 1, 0, none⟩ = some (.int .i64 f) ∧ X.cell? ⟨w.heap.size + 1 + 1, 1, none⟩ = some (.int .i64 t)) X ∧ (fun X : World => X.cell? ⟨w.heap.size, 1, none⟩ = some (.slice ad len c)) X from ⟨⟨cell_of_block (o := 0) h.b2 rfl, cell_of_block (o := 1) h.b2 rfl⟩, cell_of_block (o := 1) h.b0 rfl⟩))
      have hSS := HSX.out _ HB5.out
      refine Ap.wpAnyK_take1 (i := 1) (v := .pointer (some ⟨w.heap.size, 1, none⟩)) rfl (by decide) (by decide +kernel) (by decide +kernel) (by decide +kernel) (fun _ _ _ h => h) (.inl ⟨by first | rfl | (go_simp; done), fun X hX => by have hx1 := hX.1; have hx2 := hX.2; clear hX; first | (go_simp; done) | (go_simp; rfl)⟩) hSS ?_
      refine Ap.wpAnyK_take2 (i := 2) (v := .slice ad len c) rfl (by decide) (by decide +kernel) (by decide +kernel) (by decide +kernel) rfl (by decide +kernel) (by decide +kernel) (fun _ _ _ h => h) (.inl ⟨by first | rfl | (go_simp; done), fun X hX => by have hx1 := hX.2; clear hX; first | (go_simp; done) | (go_simp; rfl)⟩) hSS ?_
      refine Ap.wpAnyK_take1 (i := 4) (v := .int .i64 n) rfl (by decide) (by decide +kernel) (by decide +kernel) (by decide +kernel) (fun _ _ _ h => h) (.inl ⟨by first | rfl | (go_simp; done), fun X hX => by have hx1 := hX.1; have hx2 := hX.2; clear hX; first | (go_simp; done) | (go_simp; rfl)⟩) hSS ?_
      refine Ap.wpAnyK_take1 (i := 5) (v := .agg #[.int .i64 f, .int .i64 t]) rfl (by decide) (by decide +kernel) (by decide +kernel) (by decide +kernel) (fun _ _ _ h => h) (.inl ⟨by first | rfl | (go_simp; done), fun X hX => by have hx1 := hX.1; have hx2 := hX.2; clear hX; first | (go_simp; done) | (go_simp; rfl)⟩) hSS ?_
      refine Ap.wpAnyK_take1 (i := 6) (v := .int .i64 W) rfl (by decide) (by decide +kernel) (by decide +kernel) (by decide +kernel) (fun _ _ _ h => h) (.inl ⟨by first | rfl | (go_simp; done), fun X hX => by have hx1 := hX.1; have hx2 := hX.2; clear hX; first | (go_simp; done) | (go_simp; rfl)⟩) hSS ?_
      refine Ap.wpAnyK_take1 (i := 7) (v := .agg #[.int .i64 n, .int .i64 f, .int .i64 t, .int .i64 W]) rfl (by decide) (by decide +kernel) (by decide +kernel) (by decide +kernel) (fun _ _ _ h => h) (.inl ⟨by first | rfl | (go_simp; done), fun X hX => by have hx1 := hX.1; have hx2 := hX.2; clear hX; first | (go_simp; done) | (go_simp; rfl)⟩) hSS ?_
      clear hSS
      have hrd := (HRD.out X0 HB5.out.bel).rdG
      rw [← HLEN.out] at hrd
      have hl8 := H8.out
      refine Ap.anyK_app2 (j0 := 0) (j1 := 3) (j2 := 8) (j3 := 9) (fuel := 2) (cs := #[.int .i64 n, .int .i64 f, .int .i64 t, .int .i64 W]) eltR18 X0.heap.size (.inl (by decide +kernel)) (.inl (by decide +kernel)) (by decide +kernel) (by decide +kernel) (by decide +kernel) (by decide +kernel) (by decide) rfl rfl rfl rfl ⟨rfl, rfl, rfl, rfl⟩ (by decide) ⟨rfl, rfl, rfl, rfl⟩ rfl rfl
        (by simp [Act.put]) (fun a' X => by first | (go_simp; done) | (go_simp; rfl)) (.slice ad len c) len (flatR l) (fun u0 u2 => ⟨by simp [Act.put, Act.eval], by simp [Act.put, Act.eval]⟩) hrd
        (fun u0 u1 X => ⟨by first | (go_simp; done) | (go_simp; rfl), by first | (go_simp; done) | (go_simp; rfl), by first | (go_simp; done) | (go_simp; rfl)⟩) rfl (by intro u hu; simp at hu; rcases hu with rfl | rfl | rfl | rfl <;> rfl) (by unfold maxLen; omega) (by omega) (Nat.le_refl _)
        (fun X hb => HSX.out _ (HB5.out.below hb)) ?_
      intro u0 u1 u2 v0 X ho hb
      have HB6 := Lib.hid (HB5.out.below hb)
      have HX0 := Lib.hid HB5.out.lt
      have ho' : X.ownsRow X0.heap.size 118 4 v0 (len + 1) (flatR (l ++ [(n, f, t, W)])) := by rw [flatR_snoc]; exact ho
      obtain ⟨a9, c9, rfl⟩ := own_formR ho'
      have HO6 := Lib.hid ho'
      clear ho ho' hb hrd hl8 HB5
      refine Ap.anyK_val1 (i := 10) (v := .pointer (some ⟨w.heap.size, 1, none⟩)) (w' := X) (by decide +kernel) rfl rfl (by first | (go_simp; done) | (go_simp; rfl)) (HSX.out _ HB6.out) ?_
      have z0 := cell_of_block (o := 1) HB6.out.b0 rfl
      have z1 := free_of_block 1 HB6.out.b0
      have hw := (wrote_refl HB6.out.b0).set 1 (.slice a9 (len + 1) c9)
      have HB7 := Lib.hid (show Ad18 w (X.setCell ⟨w.heap.size, 1, none⟩ (.slice a9 (len + 1) c9)) n (.slice a9 (len + 1) c9) first (.slice aF cl cF) f t from HB6.out.turn hw)
      have HO7 := Lib.hid (Ap.own_keep HO6.out (w' := X.setCell ⟨w.heap.size, 1, none⟩ (.slice a9 (len + 1) c9)) fun j hj => hw.rest j (by have := Ap.own_blk HO6.out j hj; have := HX0.out; omega))
      have hS7 : (fun X : World => X.cell? ⟨w.heap.size + 1 + 1, 0, none⟩ = some (.int .i64 f) ∧ X.cell? ⟨w.heap.size + 1 + 1, 1, none⟩ = some (.int .i64 t)) (X.setCell ⟨w.heap.size, 1, none⟩ (.slice a9 (len + 1) c9)) := ⟨cell_of_block (o := 0) HB7.out.b2 rfl, cell_of_block (o := 1) HB7.out.b2 rfl⟩
      clear hw
      refine Ap.anyK_store (i := 11) (w' := X.setCell ⟨w.heap.size, 1, none⟩ (.slice a9 (len + 1) c9)) (by decide +kernel) rfl rfl (by decide +kernel) (by first | (go_simp; done) | (go_simp; rfl)) hS7 ?_
      clear z0 z1 hS7 HB6 HO6
      generalize X.setCell ⟨w.heap.size, 1, none⟩ (.slice a9 (len + 1) c9) = X7 at *
      refine Ap.wpAnyK_done (by decide +kernel) ?_ _
      go_simp
      have z0 := cell_of_block (o := 0) HB7.out.b0 rfl
      have z1 := free_of_block 0 HB7.out.b0
      have hwn : IntKind.i64.wrap (n + 1) = n + 1 := by have := HNB.out; rw [IntKind.wrap_i64]; omega
      have hw := (wrote_refl HB7.out.b0).set 0 (.int .i64 (n + 1))
      have HB8' := Lib.hid (show Ad18 w (X7.setCell ⟨w.heap.size, 0, none⟩ (.int .i64 (n + 1))) (n + 1) (.slice a9 (len + 1) c9) first (.slice aF cl cF) f t from HB7.out.turn hw)
      have HO8 := Lib.hid (Ap.own_keep HO7.out (w' := X7.setCell ⟨w.heap.size, 0, none⟩ (.int .i64 (n + 1))) fun j hj => hw.rest j (by have := Ap.own_blk HO7.out j hj; have := HX0.out; omega))
      clear hw
      go_upto_region 14 with fail
      clear z0 z1 hwn HB7 HO7
      generalize X7.setCell ⟨w.heap.size, 0, none⟩ (.int .i64 (n + 1)) = X8 at *
      skip
      go_upto_region 14 with fail
      refine wp_region_lit ?_
      refine wpList_load_all rfl 35 _ rfl w.heap.size [.int .i64 (n + 1), .slice a9 (len + 1) c9] _ (by go_simp) HB8'.out.b0 Try.underlying35 rfl (by kernel_rfl) ?_
      refine wpList_yield (w' := X8) (v := .int .i64 n) rfl (by go_simp) ?_
      refine wpList_store_all rfl 35 _ _ rfl (w.heap.size + 1 + 1 + 1) (T := 35) [.int .i64 (n + 1), .slice a9 (len + 1) c9] (by go_simp) (by go_simp) HB8'.out.b3 rfl (by kernel_rfl) rfl ?_
      intro w8 hw8
      have HW8 := Lib.hid hw8.there
      have HB8 := Lib.hid (hw8.below HB8'.out.bel (by omega))
      have HR8 := Lib.hid (own_rdR (show (l ++ [(n, f, t, W)]).length = len + 1 from by rw [List.length_append, ← HLEN.out]; rfl) (Ap.own_keep HO8.out fun j hj => hw8.rest j (by have := Ap.own_blk HO8.out j hj; have := HX0.out; omega)))
      have HT8 := Lib.hid (fun (_ : Ty18 w (.slice ad len c)) => own_ty (Ap.own_keep HO8.out fun j hj => hw8.rest j (by have := Ap.own_blk HO8.out j hj; have := HX0.out; omega)))
      clear hw8
      go_wp2_with fail
      exact bodyPost_ret (results_allH3 [.int .i64 (n + 1), .slice a9 (len + 1) c9] _ Try.results15 (by go_simp) HW8.out Try.underlying35 rfl (by kernel_rfl)) rfl ⟨_, by rw [HE.out]; first | done | rfl, by rw [HE.out]; exact HR8.out, HB8.out, HT8.out⟩
  case pos =>
  obtain ⟨gv, rfl, _, _, hcv⟩ := HR1.out h0
  have HCV := Lib.hid hcv
  clear hcv HR1
  go_wp2_with fail
  go_loopw [13] (fun i wr => ∃ k : Nat, k ≤ vn ∧ i = .int .i64 k ∧ (∀ j, j < k → W ≤ V.getD j 0) ∧ wr = V2) (fun i _ => vn - (intOf i).toNat)
  case atStart => exact ⟨0, Nat.zero_le _, rfl, (fun j hj => by omega), rfl⟩
  case round =>
    obtain ⟨k, hk, rfl, hall, rfl⟩ := hrel
    have HALL := Lib.hid hall
    clear hall
    by_cases hlt : k < vn
    case pos =>
      have hd : decide (k < vn) = true := decide_eq_true hlt
      have hd2 : decide ((k : Int) < (vn : Int)) = true := decide_eq_true (by omega)
      have hkl : (k : Int) < (vn : Int) := by omega
      have hw1 : IntKind.i64.wrap ((k : Int) + 1) = (k : Int) + 1 := by have := HVL.out; unfold maxLen at this; rw [IntKind.wrap_i64]; omega
      have HK := Lib.hid hlt
      have c0 := HCV.out k hlt
      have HMEM := Lib.hid (show V.getD k 0 ∈ V from by
        have h1 : k < V.length := by rw [← HVN.out]; exact hlt
        rw [List.getD_eq_getElem?_getD, List.getElem?_eq_getElem h1]
        exact List.getElem_mem h1)
      have HNX := Lib.hid (fun (hge : W ≤ V.getD k 0) => (show ∀ j, j < k + 1 → W ≤ V.getD j 0 from fun j hj => by
        rcases Nat.lt_or_ge j k with h | h
        · exact HALL.out j h
        · rw [show j = k by omega]; exact hge))
      clear hk
      generalize V.getD k 0 = x at *
      by_cases hx : x < W
      case neg =>
        have d1 : decide (x < W) = false := decide_eq_false hx
        have HNX2 := Lib.hid (HNX.out (by omega))
        clear HNX hx HMEM
        go_wp2_with fail
        go_roundw
        case rel => exact ⟨k + 1, by have := HK.out; omega, by go_num, HNX2.out, by first | exact rfl | trivial⟩
        case measure => have := HK.out; simp [intOf]; omega
      case pos =>
        have d1 : decide (x < W) = true := decide_eq_true hx
        have HE := Lib.hid (HNO.out x HMEM.out hx)
        clear hx HNX HMEM
        skip
        go_upto_region 10 with fail
        refine wp_region_lit ?_
        refine wpList_load_all rfl 35 _ rfl w.heap.size [.int .i64 n, .slice ad len c] _ (by go_simp) HB4.out.b0 Try.underlying35 rfl (by kernel_rfl) ?_
        refine wpList_store_all rfl 35 _ _ rfl (w.heap.size + 1 + 1 + 1) (T := 35) [.int .i64 n, .slice ad len c] (by go_simp) (by go_simp) HB4.out.b3 rfl (by kernel_rfl) rfl ?_
        intro w8 hw8
        have HW8 := Lib.hid hw8.there
        have HB8 := Lib.hid (hw8.below HB4.out.bel (by omega))
        have HR8 := Lib.hid (HRD.out w8 HB8.out)
        have HT8 := Lib.hid (fun (h : Ty18 w (.slice ad len c)) => h.below HB8.out)
        clear hw8
        go_wp2_with fail
        exact bodyPost_ret (results_allH3 [.int .i64 n, .slice ad len c] _ Try.results15 (by go_simp) HW8.out Try.underlying35 rfl (by kernel_rfl)) rfl ⟨_, by rw [HE.out]; first | done | rfl, by rw [HE.out]; exact HR8.out, HB8.out, HT8.out⟩
    case neg =>
      obtain rfl : k = vn := by omega
      have hd : decide (k < k) = false := decide_eq_false (by omega)
      have hd2 : decide ((k : Int) < (k : Int)) = false := decide_eq_false (by omega)
      have HE := Lib.hid (HYES.out (fun x hx => by
        obtain ⟨j, hj, rfl⟩ := List.getElem_of_mem hx
        have := HALL.out j (by rw [HVN.out]; exact hj)
        rwa [List.getD_eq_getElem?_getD, List.getElem?_eq_getElem hj] at this))
      clear hlt hk h0 HYES HNO
      have q0 : wr.cell? ⟨w.heap.size, 0, none⟩ = some (.int .i64 n) := cell_of_block (o := 0) HB4.out.b0 rfl
      go_upto_region 12 with fail
      clear q0
      refine Ap.wp_region_K (S1 := fun X => X.cell? ⟨w.heap.size + 1 + 1, 0, none⟩ = some (.int .i64 f) ∧ X.cell? ⟨w.heap.size + 1 + 1, 1, none⟩ = some (.int .i64 t)) (S2 := fun X => X.cell? ⟨w.heap.size, 1, none⟩ = some (.slice ad len c)) (js := 11) hmx ?_
      change Ap.wpAnyK _ _ _ _ _ _ _ 12 _ _ wr.drew
      have HB5 := Lib.hid (HB4.out.below (show Below wr.heap.size wr wr.drew from (Below.refl _ _).drew))
      clear HB4
      generalize wr.drew = X0 at *
      have HSX := Lib.hid (fun (X : World) (h : Ad18 w X n (.slice ad len c) first (.slice aF cl cF) f t) => (show (fun X : World => X.cell? ⟨w.heap.size + 1 + 1, 0, none⟩ = some (.int .i64 f) ∧ X.cell? ⟨w.heap.size + 1 + 1, 1, none⟩ = some (.int .i64 t)) X ∧ (fun X : World => X.cell? ⟨w.heap.size, 1, none⟩ = some (.slice ad len c)) X from ⟨⟨cell_of_block (o := 0) h.b2 rfl, cell_of_block (o := 1) h.b2 rfl⟩, cell_of_block (o := 1) h.b0 rfl⟩))
      have hSS := HSX.out _ HB5.out
      refine Ap.wpAnyK_take1 (i := 1) (v := .pointer (some ⟨w.heap.size, 1, none⟩)) rfl (by decide) (by decide +kernel) (by decide +kernel) (by decide +kernel) (fun _ _ _ h => h) (.inl ⟨by first | rfl | (go_simp; done), fun X hX => by have hx1 := hX.1; have hx2 := hX.2; clear hX; first | (go_simp; done) | (go_simp; rfl)⟩) hSS ?_
      refine Ap.wpAnyK_take2 (i := 2) (v := .slice ad len c) rfl (by decide) (by decide +kernel) (by decide +kernel) (by decide +kernel) rfl (by decide +kernel) (by decide +kernel) (fun _ _ _ h => h) (.inl ⟨by first | rfl | (go_simp; done), fun X hX => by have hx1 := hX.2; clear hX; first | (go_simp; done) | (go_simp; rfl)⟩) hSS ?_
      refine Ap.wpAnyK_take1 (i := 4) (v := .int .i64 n) rfl (by decide) (by decide +kernel) (by decide +kernel) (by decide +kernel) (fun _ _ _ h => h) (.inl ⟨by first | rfl | (go_simp; done), fun X hX => by have hx1 := hX.1; have hx2 := hX.2; clear hX; first | (go_simp; done) | (go_simp; rfl)⟩) hSS ?_
      refine Ap.wpAnyK_take1 (i := 5) (v := .agg #[.int .i64 f, .int .i64 t]) rfl (by decide) (by decide +kernel) (by decide +kernel) (by decide +kernel) (fun _ _ _ h => h) (.inl ⟨by first | rfl | (go_simp; done), fun X hX => by have hx1 := hX.1; have hx2 := hX.2; clear hX; first | (go_simp; done) | (go_simp; rfl)⟩) hSS ?_
      refine Ap.wpAnyK_take1 (i := 6) (v := .int .i64 W) rfl (by decide) (by decide +kernel) (by decide +kernel) (by decide +kernel) (fun _ _ _ h => h) (.inl ⟨by first | rfl | (go_simp; done), fun X hX => by have hx1 := hX.1; have hx2 := hX.2; clear hX; first | (go_simp; done) | (go_simp; rfl)⟩) hSS ?_
      refine Ap.wpAnyK_take1 (i := 7) (v := .agg #[.int .i64 n, .int .i64 f, .int .i64 t, .int .i64 W]) rfl (by decide) (by decide +kernel) (by decide +kernel) (by decide +kernel) (fun _ _ _ h => h) (.inl ⟨by first | rfl | (go_simp; done), fun X hX => by have hx1 := hX.1; have hx2 := hX.2; clear hX; first | (go_simp; done) | (go_simp; rfl)⟩) hSS ?_
      clear hSS
      have hrd := (HRD.out X0 HB5.out.bel).rdG
      rw [← HLEN.out] at hrd
      have hl8 := H8.out
      refine Ap.anyK_app2 (j0 := 0) (j1 := 3) (j2 := 8) (j3 := 9) (fuel := 2) (cs := #[.int .i64 n, .int .i64 f, .int .i64 t, .int .i64 W]) eltR18 X0.heap.size (.inl (by decide +kernel)) (.inl (by decide +kernel)) (by decide +kernel) (by decide +kernel) (by decide +kernel) (by decide +kernel) (by decide) rfl rfl rfl rfl ⟨rfl, rfl, rfl, rfl⟩ (by decide) ⟨rfl, rfl, rfl, rfl⟩ rfl rfl
        (by simp [Act.put]) (fun a' X => by first | (go_simp; done) | (go_simp; rfl)) (.slice ad len c) len (flatR l) (fun u0 u2 => ⟨by simp [Act.put, Act.eval], by simp [Act.put, Act.eval]⟩) hrd
        (fun u0 u1 X => ⟨by first | (go_simp; done) | (go_simp; rfl), by first | (go_simp; done) | (go_simp; rfl), by first | (go_simp; done) | (go_simp; rfl)⟩) rfl (by intro u hu; simp at hu; rcases hu with rfl | rfl | rfl | rfl <;> rfl) (by unfold maxLen; omega) (by omega) (Nat.le_refl _)
        (fun X hb => HSX.out _ (HB5.out.below hb)) ?_
      intro u0 u1 u2 v0 X ho hb
      have HB6 := Lib.hid (HB5.out.below hb)
      have HX0 := Lib.hid HB5.out.lt
      have ho' : X.ownsRow X0.heap.size 118 4 v0 (len + 1) (flatR (l ++ [(n, f, t, W)])) := by rw [flatR_snoc]; exact ho
      obtain ⟨a9, c9, rfl⟩ := own_formR ho'
      have HO6 := Lib.hid ho'
      clear ho ho' hb hrd hl8 HB5
      refine Ap.anyK_val1 (i := 10) (v := .pointer (some ⟨w.heap.size, 1, none⟩)) (w' := X) (by decide +kernel) rfl rfl (by first | (go_simp; done) | (go_simp; rfl)) (HSX.out _ HB6.out) ?_
      have z0 := cell_of_block (o := 1) HB6.out.b0 rfl
      have z1 := free_of_block 1 HB6.out.b0
      have hw := (wrote_refl HB6.out.b0).set 1 (.slice a9 (len + 1) c9)
      have HB7 := Lib.hid (show Ad18 w (X.setCell ⟨w.heap.size, 1, none⟩ (.slice a9 (len + 1) c9)) n (.slice a9 (len + 1) c9) first (.slice aF cl cF) f t from HB6.out.turn hw)
      have HO7 := Lib.hid (Ap.own_keep HO6.out (w' := X.setCell ⟨w.heap.size, 1, none⟩ (.slice a9 (len + 1) c9)) fun j hj => hw.rest j (by have := Ap.own_blk HO6.out j hj; have := HX0.out; omega))
      have hS7 : (fun X : World => X.cell? ⟨w.heap.size + 1 + 1, 0, none⟩ = some (.int .i64 f) ∧ X.cell? ⟨w.heap.size + 1 + 1, 1, none⟩ = some (.int .i64 t)) (X.setCell ⟨w.heap.size, 1, none⟩ (.slice a9 (len + 1) c9)) := ⟨cell_of_block (o := 0) HB7.out.b2 rfl, cell_of_block (o := 1) HB7.out.b2 rfl⟩
      clear hw
      refine Ap.anyK_store (i := 11) (w' := X.setCell ⟨w.heap.size, 1, none⟩ (.slice a9 (len + 1) c9)) (by decide +kernel) rfl rfl (by decide +kernel) (by first | (go_simp; done) | (go_simp; rfl)) hS7 ?_
      clear z0 z1 hS7 HB6 HO6
      generalize X.setCell ⟨w.heap.size, 1, none⟩ (.slice a9 (len + 1) c9) = X7 at *
      refine Ap.wpAnyK_done (by decide +kernel) ?_ _
      go_simp
      have z0 := cell_of_block (o := 0) HB7.out.b0 rfl
      have z1 := free_of_block 0 HB7.out.b0
      have hwn : IntKind.i64.wrap (n + 1) = n + 1 := by have := HNB.out; rw [IntKind.wrap_i64]; omega
      have hw := (wrote_refl HB7.out.b0).set 0 (.int .i64 (n + 1))
      have HB8' := Lib.hid (show Ad18 w (X7.setCell ⟨w.heap.size, 0, none⟩ (.int .i64 (n + 1))) (n + 1) (.slice a9 (len + 1) c9) first (.slice aF cl cF) f t from HB7.out.turn hw)
      have HO8 := Lib.hid (Ap.own_keep HO7.out (w' := X7.setCell ⟨w.heap.size, 0, none⟩ (.int .i64 (n + 1))) fun j hj => hw.rest j (by have := Ap.own_blk HO7.out j hj; have := HX0.out; omega))
      clear hw
      go_upto_region 14 with fail
      clear z0 z1 hwn HB7 HO7
      generalize X7.setCell ⟨w.heap.size, 0, none⟩ (.int .i64 (n + 1)) = X8 at *
      skip
      go_upto_region 14 with fail
      refine wp_region_lit ?_
      refine wpList_load_all rfl 35 _ rfl w.heap.size [.int .i64 (n + 1), .slice a9 (len + 1) c9] _ (by go_simp) HB8'.out.b0 Try.underlying35 rfl (by kernel_rfl) ?_
      refine wpList_yield (w' := X8) (v := .int .i64 n) rfl (by go_simp) ?_
      refine wpList_store_all rfl 35 _ _ rfl (w.heap.size + 1 + 1 + 1) (T := 35) [.int .i64 (n + 1), .slice a9 (len + 1) c9] (by go_simp) (by go_simp) HB8'.out.b3 rfl (by kernel_rfl) rfl ?_
      intro w8 hw8
      have HW8 := Lib.hid hw8.there
      have HB8 := Lib.hid (hw8.below HB8'.out.bel (by omega))
      have HR8 := Lib.hid (own_rdR (show (l ++ [(n, f, t, W)]).length = len + 1 from by rw [List.length_append, ← HLEN.out]; rfl) (Ap.own_keep HO8.out fun j hj => hw8.rest j (by have := Ap.own_blk HO8.out j hj; have := HX0.out; omega)))
      have HT8 := Lib.hid (fun (_ : Ty18 w (.slice ad len c)) => own_ty (Ap.own_keep HO8.out fun j hj => hw8.rest j (by have := Ap.own_blk HO8.out j hj; have := HX0.out; omega)))
      clear hw8
      go_wp2_with fail
      exact bodyPost_ret (results_allH3 [.int .i64 (n + 1), .slice a9 (len + 1) c9] _ Try.results15 (by go_simp) HW8.out Try.underlying35 rfl (by kernel_rfl)) rfl ⟨_, by rw [HE.out]; first | done | rfl, by rw [HE.out]; exact HR8.out, HB8.out, HT8.out⟩
end Go.Proofs.Ytbhnjmdlagjfbaa
