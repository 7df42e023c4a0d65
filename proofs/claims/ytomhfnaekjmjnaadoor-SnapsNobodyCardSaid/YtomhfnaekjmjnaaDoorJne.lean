/- The records of bytes: Parse. Condition: errors.errorType reads as the program's text lays it. -/
import Derived.Test.YtomhfnaekjmjnaaDoorJnd
import Derived.Test.YtomhfnaekjmjnaaDoorGrowIn
namespace Go.Proofs.YtomhfnaekjmjnaaDoor
set_option linter.unusedVariables false
open Go.RowKit Go.Shelf Go.ChangeShapes Go.WideShapes Go.ChangeAt
attribute [local go_sem] Oper.semAt_some
attribute [local go_sem ↓] comesTo_value_eq comesTo_skip_eq comesTo_enter_eq

theorem frames_any (v : Value) (w : World) (hv : v.oneCell' = true) : Calls Tryd.prog 44 #[v] w fun e w' => e = .returned (.func (.func 65) #[] #[.pointer (some ⟨w.heap.size, 0, none⟩)]) ∧ w' = w.alloc (.cells #[v] 22) := by
  cases v <;> first | (simp [Value.oneCell'] at hv; done) | (
  go_enter Tryd.func44, Tryd.ntmps44
  go_wp2
  go_ret
  exact ⟨rfl, rfl⟩)
theorem grown_cells {W W' : World} {row : Option Nat} {B : Nat} (hg : W.grownBy W' row) (hr : ∀ r, row = some r → B ≤ r ∧ ∃ o : Obj, W.heap[r]? = some o ∧ o.isCells = false) {k : Nat} {cs : Array Value} {T : TypeId} {m : Nat × Nat} (h : W.heap[k]? = some (.cells cs T m)) : W'.heap[k]? = W.heap[k]? :=
  hg.block k (Array.getElem?_eq_some_iff.1 h).1 fun e => by
    obtain ⟨_, o, ho, hc⟩ := hr k e.symm
    rw [h] at ho
    cases ho
    cases hc
theorem putJ {W : World} {l : Nat} {o o' : Obj} (h : W.heap[l]? = some o) (h1 : o.isCells = false) {k : Nat} {cs : Array Value} {T : TypeId} {m : Nat × Nat} (hk : W.heap[k]? = some (.cells cs T m)) : (W.putObj l o').heap[k]? = W.heap[k]? :=
  World.putObj_heap_other fun e => by subst e; rw [hk] at h; cases h; cases h1
/-- what a parse leaves -/
def ParseEnd (w : World) (zs : List Int) (e : Ending) (w' : World) : Prop := ∃ v l, e = .returned (.tuple #[v, .int .i64 ((parseF zs).2 : Int)]) ∧ RecsJ w' w.heap.size v l ∧ l.map RV.rc = (parseF zs).1 ∧ Below w.heap.size w w'
/-- in the midst of a parse: what has come, where the variables lie -/
structure PI (w : World) (pre : List FR) (W : World) : Prop where
  row : ∃ v, Boxed W w.heap.size 33 v ∧ RecsJ W (w.heap.size + 3) v (pre.map (·.x))
  sum : Boxed W (w.heap.size + 1) 3 (.int .i64 (IntKind.i64.wrap (((pre.map (·.k)).sum : Nat) : Int)))
  bel : Below w.heap.size w W
  big : w.heap.size + 3 ≤ W.heap.size
/-- a variable that holds a record -/
def Boxed2 (W : World) (B : Nat) (x : RV) : Prop := W.heap[B]? = some (.cells #[.int .i64 x.g, x.val] 24 (0, 0))
theorem w64J (n : Int) : IntKind.i64.wrap n = wrap64 n := by rw [IntKind.wrap_i64]; unfold wrap64; rfl
theorem wrap_add (a b : Int) : IntKind.i64.wrap (IntKind.i64.wrap a + b) = IntKind.i64.wrap (a + b) := by
  simp only [IntKind.wrap_i64]
  omega
theorem cells_two (W : World) (x y : Value) (T : TypeId) (j : Nat) (u : Value) (h : [x, y][j]? = some u) : (W.alloc (.cells #[x, y] T)).cell? ((⟨W.heap.size, 0, none⟩ : Addr).add j) = some u := by
  have hadd : (⟨W.heap.size, 0, none⟩ : Addr).add j = ⟨W.heap.size, j, none⟩ := by unfold Addr.add; split <;> simp_all
  rw [hadd]
  refine cell_of_block (World.alloc_heap_new W _) ?_
  simpa using h
theorem sum_le {ys : List FR} {zs : List Int} (h : FramesS zs ys) : (ys.map (·.k)).sum ≤ zs.length := by
  rw [h.2]; exact parse_le zs.length zs (Nat.le_refl _)
set_option maxRecDepth 100000 in
set_option maxHeartbeats 1000000 in
theorem parse_any {w : World} {ad : Option Addr} {n c : Nat} {zs : List Int} (hT : TxtAt w (.slice ad n c) zs) (hc : n ≤ c) (hl : zs.length ≤ 1099511627775) (hE : ErrAt w) :
    Calls Tryd.prog 16 #[.slice ad n c] w fun e w' => ParseEnd w zs e w' := by
  have hmx : Tryd.prog.follows .mixedOrders = true := by kernel_rfl
  obtain ⟨i0, hi, hz0, hz1, hz2⟩ := info_parts info_rec
  have HL := Lib.hid hl
  have h1 := below_alloc (Below.refl _ w) (.cells #[.slice none 0 0] 33)
  have h2 := below_alloc h1 (.cells #[.int .i64 0] 3)
  have h3 := below_alloc h2 (.cells #[.slice ad n c] 22)
  have bL := Boxed.new w 33 (.slice none 0 0)
  have bN := Boxed.new (w.alloc (.cells #[.slice none 0 0] 33)) 3 (.int .i64 0)
  rw [World.size_alloc] at bN
  have bB := Boxed.new ((w.alloc (.cells #[.slice none 0 0] 33)).alloc (.cells #[.int .i64 0] 3)) 22 (.slice ad n c)
  rw [World.size_alloc, World.size_alloc] at bB
  have bL3 := (bL.alloc (.cells #[.int .i64 0] 3)).alloc (.cells #[.slice ad n c] 22)
  have bN3 := bN.alloc (.cells #[.slice ad n c] 22)
  have hs3 : (((w.alloc (.cells #[.slice none 0 0] 33)).alloc (.cells #[.int .i64 0] 3)).alloc (.cells #[.slice ad n c] 22)).heap.size = w.heap.size + 3 := by simp
  refine (callsIn_wide (n := 3)).1 ?_
  refine callsIn_of_wp_marks Tryd.func16 rfl trivial ?_ rfl
  simp only [Tryd.ntmps16, List.size_toArray, List.length_cons, List.length_nil, Nat.reduceAdd, Nat.reduceSub, Array.replicate_succ, Array.replicate_zero, List.push_toArray, List.append_toArray, List.nil_append, List.cons_append]
  gi_wp2_with (refine ⟨trivial, ?_⟩; gi_at_call 44; refine (callsIn_wide.2 (frames_any _ _ rfl)).mono ?_; rintro e w' ⟨rfl, rfl⟩)
  have hseq := frames1_told 2 (by omega) hT hc hl hE (w.heap.size + 1 + 1) (by omega) h3 bB
  rw [hs3] at hseq
  clear h1 h2 bL bN bB hl hE hT
  generalize ((w.alloc (.cells #[.slice none 0 0] 33)).alloc (.cells #[.int .i64 0] 3)).alloc (.cells #[.slice ad n c] 22) = W0 at *
  refine Told.range rfl (by omega) (gf := 65) (lb := #[.pointer (some ⟨w.heap.size + 1 + 1, 0, none⟩)]) rfl trivial (enters_of Tryd.func65 (by kernel_rfl) rfl) hseq (fun j hj => by omega)
    (fun {A B C} h k => ⟨h.1.trans k.1, fun i cs T m hB hi hT => (k.2 i cs T m hB ((h.2 i cs T m hB hi hT).trans hi) hT).trans (h.2 i cs T m hB hi hT)⟩)
    (fun W l o o' hl h h1 => ⟨(Below.refl _ W).grown (grownBy_putObj' W l o') (by have := (Array.getElem?_eq_some_iff.1 h).1; omega) (fun k e => by cases e; omega), fun k cs T m _ hk _ => putJ h h1 hk⟩)
    (Below.refl _ _) (fun _ => rfl)
    (PI w) (fun pre W W' row hs hg hr => ?_) (fun y W W' row hs hg hr => hs.of_block fun g cs m hg' _ => grown_cells hg hr hg') (fun pre A B hs hf => ?_)
    ⟨⟨_, bL3, RecsJ.nil⟩, bN3, h3, by omega⟩
    (fun y a' W => ∃ Bx, Boxed2 W Bx y.x ∧ a' = { tmps := #[.slice ad n c, undef, .slice none 0 0, .int .i64 0, .pointer (some ⟨w.heap.size, 0, none⟩), .pointer (some ⟨w.heap.size + 1, 0, none⟩), .pointer (some ⟨Bx, 0, none⟩), .int .i64 y.k, .slice ad n c, .func (.func 65) #[] #[.pointer (some ⟨w.heap.size + 1 + 1, 0, none⟩)], .agg #[.int .i64 y.x.g, y.x.val], .int .i64 y.k, undef, undef, undef, undef, undef, undef, undef, undef, undef], defers := [] })
    (fun y a' s W W' row hs hg hr => ?_) ?assign ?body ?done
  · obtain ⟨⟨v, hv, hrec⟩, hsum, hbel, hbig⟩ := hs
    exact ⟨⟨v, (grown_cells hg hr hv).trans hv, hrec.keep fun k cs T m _ hk _ => grown_cells hg hr hk⟩, (grown_cells hg hr hsum).trans hsum, hbel.grown hg hbel.size (fun k e => by have := (hr k e).1; omega), Nat.le_trans hbig hg.size⟩
  · obtain ⟨⟨v, hv, hrec⟩, hsum, hbel, hbig⟩ := hs
    exact ⟨⟨v, (hf.block _ hv.lt (by show ¬ (w.heap.size = w.heap.size + 1 + 1); omega)).trans hv, hrec.keep fun k cs T m hB hk _ => hf.block k (Array.getElem?_eq_some_iff.1 hk).1 (by show ¬ (k = w.heap.size + 1 + 1); omega)⟩, (hf.block _ hsum.lt (by show ¬ (w.heap.size + 1 = w.heap.size + 1 + 1); omega)).trans hsum, hbel.trans (hf.below hbel.size (fun j hj => by have hj' : j = w.heap.size + 1 + 1 := hj; omega)), Nat.le_trans hbig hf.size⟩
  · obtain ⟨Bx, hb, e⟩ := hs
    exact ⟨Bx, (grown_cells hg hr hb).trans hb, e⟩
  case assign =>
    intro l pre y W K hi hp hK
    obtain ⟨⟨g, bs, a⟩, k⟩ := y
    have hbA := below_alloc (Below.refl _ W) (.cells #[.int .i64 g, .slice a bs.length bs.length] 24)
    have HX := Lib.hid (hK _ (W.alloc (.cells #[.int .i64 g, .slice a bs.length bs.length] 24)) ((KeepsOthers.alloc W _).from _) ⟨hbA.mono hi.bel.size, KeepT.of_below hbA⟩
      ⟨by
        obtain ⟨v, hv, hr⟩ := hi.row
        exact ⟨v, hv.alloc _, hr.below hbA⟩, hi.sum.alloc _, hi.bel.trans (hbA.mono hi.bel.size), Nat.le_trans hi.big hbA.size⟩ (hp.below hbA) ⟨W.heap.size, World.alloc_heap_new W _, rfl⟩)
    clear hK hi hp hbA
    dsimp only [encF, RV.val] at HX ⊢
    gi_wp2
    exact HX.out
  case body =>
    rintro l pre y a' W hi hp ⟨Bx, hx, rfl⟩ hlen
    obtain ⟨⟨g, bs, a⟩, k⟩ := y
    obtain ⟨⟨v, hv, hrec⟩, hsum, hbel, hbig⟩ := hi
    dsimp only [RV.val] at hp hx ⊢
    unfold Boxed2 at hx
    dsimp only [RV.val] at hx
    have cv := hv.cell
    have cs := hsum.cell
    have x0 := cell_of_block (o := 0) hx rfl
    have x1 := cell_of_block (o := 1) hx rfl
    have fv := hv.frozen
    have fs := hsum.frozen
    have hLl : (pre.map (·.x)).length = pre.length := List.length_map _
    have hlen' : (pre.map (·.x)).length ≤ zs.length := by omega
    have hzl := HL.out
    have hq2 : IntKind.i64.wrap (IntKind.i64.wrap (((pre.map (·.k)).sum : Nat) : Int) + (k : Int)) = IntKind.i64.wrap ((((pre ++ [(⟨⟨g, bs, a⟩, k⟩ : FR)]).map (·.k)).sum : Nat) : Int) := by
      rw [wrap_add]; congr 1; simp
    have hL2 : (pre ++ [(⟨⟨g, bs, a⟩, k⟩ : FR)]).map (·.x) = pre.map (·.x) ++ [⟨g, bs, a⟩] := by simp
    have HQ2 := Lib.hid hq2
    have HL2 := Lib.hid hL2
    generalize pre ++ [(⟨⟨g, bs, a⟩, k⟩ : FR)] = pre' at *
    generalize (pre.map (·.x)) = L at *
    generalize IntKind.i64.wrap (((pre.map (·.k)).sum : Nat) : Int) = q at *
    clear hq2 hL2 hLl hlen
    have hob := Ap.own_blk hrec.row
    have hol := Ap.own_lt hrec.row
    have HOB := Lib.hid hob
    have HOL := Lib.hid hol
    have HRec := Lib.hid hrec
    have HP := Lib.hid hp
    have hmx1 : L.length + 1 ≤ maxLen := by unfold maxLen; omega
    have hmx2 : (L.length + 1) * 32 ≤ 140737488355328 := by omega
    have hbg : w.heap.size + 3 ≤ (W.alloc (.cells #[.int .i64 g, .slice a bs.length bs.length] 24)).heap.size := by simp; omega
    have HV := Lib.hid hv
    have HSm := Lib.hid hsum
    have HBel := Lib.hid hbel
    have HBig := Lib.hid hbig
    clear hob hol hrec hp hlen' hzl hv hsum hbel hbig hx
    gi_wp2_with (gi_at_builtin; refine wpListIn_append_own _ rfl _ _ 33 rfl (w.heap.size + 3) 24 i0 (.agg #[.int .i64 0, .slice none 0 0]) 2 32 Tryd.underlying33 hi hz0 hz1 hz2 rfl (by decide) v L.length (flatJ L) rfl (HRec.out.row.alloc _) ⟨W.heap.size, 0, none⟩ 1 1 (flatJ [⟨g, bs, a⟩]) rfl rfl (fun j u hj => cells_two W _ _ _ j u hj) (by intro u hu; simp [flatJ, RV.val] at hu; rcases hu with rfl | rfl <;> rfl) hmx1 hmx2 hbg ?_; intro v' w1 hown' hgrow _; obtain ⟨g', cap', rfl⟩ := ownsRow_succ hown'; have hv1 := Boxed.kept (HV.out.alloc _) hgrow (fun e => by have := HOB.out _ e.symm; omega); have hs1 := Boxed.kept (HSm.out.alloc _) hgrow (fun e => by have := HOB.out _ e.symm; omega); have cv1 := hv1.cell; have fv1 := hv1.frozen; have cs1 := hs1.cell; have fs1 := hs1.frozen; have HO' := Lib.hid hown'; have HG := Lib.hid hgrow; have HV1 := Lib.hid hv1; have HS1 := Lib.hid hs1; clear hown' hgrow hv1 hs1)
    have hw1 := (wrote_refl HV1.out).set 0 (.slice (some ⟨g', 0, none⟩) (L.length + 1) cap')
    have nS := (hw1.rest (w.heap.size + 1) (by omega)).trans HS1.out
    have hw2 := (wrote_refl nS).set 0 (.int .i64 (IntKind.i64.wrap (q + (k : Int))))
    have hrest : ∀ j, j ≠ w.heap.size → j ≠ w.heap.size + 1 → j < W.heap.size → some j ≠ v.ownBlock → ((w1.setCell ⟨w.heap.size, 0, none⟩ (.slice (some ⟨g', 0, none⟩) (L.length + 1) cap')).setCell ⟨w.heap.size + 1, 0, none⟩ (.int .i64 (IntKind.i64.wrap (q + (k : Int))))).heap[j]? = W.heap[j]? := fun j h1 h2 h3 h4 =>
      (hw2.rest j h2).trans ((hw1.rest j h1).trans ((HG.out.block j (by simp; omega) h4).trans (Below.heap_alloc W _ j h3)))
    have hrow2 : ∀ j, w.heap.size + 3 ≤ j → ((w1.setCell ⟨w.heap.size, 0, none⟩ (.slice (some ⟨g', 0, none⟩) (L.length + 1) cap')).setCell ⟨w.heap.size + 1, 0, none⟩ (.int .i64 (IntKind.i64.wrap (q + (k : Int))))).heap[j]? = w1.heap[j]? := fun j h =>
      (hw2.rest j (by omega)).trans (hw1.rest j (by omega))
    have hown : ∀ (j : Nat) cs T m, W.heap[j]? = some (Obj.cells cs T m) → (T = 5 ∨ T = 22) → some j ≠ v.ownBlock := fun j cs T m hj hT e => by
      rcases HRec.out.row.2 with ⟨e2, _⟩ | ⟨g2, cap2, cur2, e2, _, hh, _⟩
      · rw [e2] at e; cases e
      · rw [e2] at e
        simp only [Value.ownBlock, Option.some.injEq] at e
        subst e
        rw [hj] at hh
        cases hh
        rcases hT with h | h <;> exact absurd h (by decide)
    have hkeep : ∀ (j : Nat) cs T m, W.heap[j]? = some (Obj.cells cs T m) → (T = 5 ∨ T = 22) → ((w1.setCell ⟨w.heap.size, 0, none⟩ (.slice (some ⟨g', 0, none⟩) (L.length + 1) cap')).setCell ⟨w.heap.size + 1, 0, none⟩ (.int .i64 (IntKind.i64.wrap (q + (k : Int))))).heap[j]? = W.heap[j]? := fun j cs T m hj hT =>
      hrest j (fun e => by subst e; rw [show W.heap[w.heap.size]? = _ from HV.out] at hj; cases hj; rcases hT with h | h <;> exact absurd h (by decide)) (fun e => by subst e; rw [show W.heap[w.heap.size + 1]? = _ from HSm.out] at hj; cases hj; rcases hT with h | h <;> exact absurd h (by decide)) (Array.getElem?_eq_some_iff.1 hj).1 (hown j cs T m hj hT)
    have hbl : Below w.heap.size W ((w1.setCell ⟨w.heap.size, 0, none⟩ (.slice (some ⟨g', 0, none⟩) (L.length + 1) cap')).setCell ⟨w.heap.size + 1, 0, none⟩ (.int .i64 (IntKind.i64.wrap (q + (k : Int))))) :=
      (((Below.grown ((below_alloc (Below.refl _ W) _).mono HBel.out.size) HG.out (by have := HBel.out.size; simp; omega) (fun j e => by have := HOB.out j e; omega)).setCell (p := ⟨w.heap.size, 0, none⟩) (Nat.le_refl _) _).setCell (p := ⟨w.heap.size + 1, 0, none⟩) (Nat.le_succ _) _)
    have hko : KeepsOthers W ((w1.setCell ⟨w.heap.size, 0, none⟩ (.slice (some ⟨g', 0, none⟩) (L.length + 1) cap')).setCell ⟨w.heap.size + 1, 0, none⟩ (.int .i64 (IntKind.i64.wrap (q + (k : Int))))) :=
      (((KeepsOthers.alloc W _).trans (KeepsOthers.of_grownBy HG.out fun j o ej hj => by
        rcases (World.ownsRow.alloc HRec.out.row (Obj.cells #[.int .i64 g, .slice a bs.length bs.length] 24)).2 with ⟨e2, _⟩ | ⟨g2, cap2, cur2, e2, _, hh, _⟩
        · rw [e2] at ej; cases ej
        · rw [e2] at ej
          simp only [Value.ownBlock, Option.some.injEq] at ej
          subst ej
          rw [hh] at hj
          cases hj
          rfl)).trans (KeepsOthers.setCell _ _ _)).trans (KeepsOthers.setCell _ _ _)
    have HE := Lib.hid (show Told.ends (w.heap.size + 3) (KpJ w.heap.size) (PI w) pre' W .normal { tmps := #[], defers := [] } ((w1.setCell ⟨w.heap.size, 0, none⟩ (.slice (some ⟨g', 0, none⟩) (L.length + 1) cap')).setCell ⟨w.heap.size + 1, 0, none⟩ (.int .i64 (IntKind.i64.wrap (q + (k : Int))))) from by
      refine ⟨rfl, hko.from _, ⟨hbl, fun j cs T m _ hj hT => hkeep j cs T m hj hT⟩, ⟨_, (hw2.rest _ (by omega)).trans hw1.there, ?_⟩, ?_, HBel.out.trans hbl, Nat.le_trans HBig.out hbl.size⟩
      · rw [HL2.out]
        refine ⟨?_, fun x hx => ?_⟩
        · rw [List.length_append, flatJ_append]
          exact Ap.own_keep HO'.out fun j hj => hrow2 j (Ap.own_blk HO'.out j hj)
        · rcases List.mem_append.1 hx with hx | hx
          · exact (HRec.out.txt x hx).of_block fun j cs m hj _ => hkeep j cs _ m hj (.inl rfl)
          · rw [List.mem_singleton.1 hx]
            exact HP.out.of_block fun j cs m hj _ => hkeep j cs _ m hj (.inl rfl)
      · rw [← HQ2.out]
        exact hw2.there)
    clear hw1 nS hw2 hrest hrow2 hown hkeep hbl hko cv cs x0 x1 fv fs
    gi_wp2
    have h := HE.out.2
    rw [w64J] at h
    rw [← hs3] at h
    exact ⟨rfl, h⟩
  case done =>
    rintro D ys W hD hS ⟨⟨v, hv, hrec⟩, hsum, hbel, hbig⟩ hK
    have hle := sum_le hS
    have hzl := HL.out
    have hwz : IntKind.i64.wrap (((ys.map (·.k)).sum : Nat) : Int) = (((ys.map (·.k)).sum : Nat) : Int) := by rw [IntKind.wrap_i64]; omega
    rw [hwz, hS.2] at hsum
    have cv := hv.cell
    have cs := hsum.cell
    have HRec := Lib.hid hrec
    have HS := Lib.hid hS.1
    have HBel := Lib.hid hbel
    have HK := Lib.hid hK
    have hvf : ∃ a m c, v = .slice a m c := by
      rcases hrec.form with ⟨_, rfl⟩ | ⟨g, c, rfl, _⟩
      · exact ⟨_, _, _, rfl⟩
      · exact ⟨_, _, _, rfl⟩
    obtain ⟨va, vn, vc, rfl⟩ := hvf
    clear hrec hS hbel hK hle hzl hwz hbig
    gi_wp2
    refine wpIn_region_grow WideF.wide (fun w' => w' = W.drew) hmx (by kernel_rfl) (by kernel_rfl) rfl ?_
    iterate 4 (refine textS_run ?_ ?_ (fun W hS => ?_) ?_; rotate_left; (focus go_simp); (focus (subst hS; go_simp; all_goals (first | exact ⟨rfl, rfl⟩ | rfl | (refine ⟨?_, rfl⟩; rfl)))); (try go_simp))
    refine textS_nil ?_
    have hK2 : W.drew.heap[D]? = some (.deferred (some [])) := HK.out
    have HE := Lib.hid (show RecsJ (W.drew.putObj D (.deferred none)) w.heap.size (.slice va vn vc) (ys.map (·.x)) ∧ Below w.heap.size w (W.drew.putObj D (.deferred none)) from
      ⟨((HRec.out.base (by omega)).below (Below.refl _ _).drew).keep fun k cs T m _ hk _ => putJ hK2 rfl hk, (Below.drew HBel.out).trans ((Below.refl _ W.drew).grown (grownBy_putObj' W.drew D _) (by have := HBel.out.size; show w.heap.size ≤ W.heap.size; exact this) (fun k e => by cases e; omega))⟩)
    gi_wp2
    refine ⟨by simp, .inl ⟨_, _, rfl, run_takeDeferred hK2, ?_⟩⟩
    exact ⟨_, results_tmp2 rfl _ _ _, _, _, rfl, HE.out.1, by rw [← HS.out]; simp [List.map_map, Function.comp_def], HE.out.2⟩
end Go.Proofs.YtomhfnaekjmjnaaDoor
