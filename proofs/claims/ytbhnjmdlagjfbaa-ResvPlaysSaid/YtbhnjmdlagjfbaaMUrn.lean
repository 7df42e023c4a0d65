/- Levels (layer 10), the document's: In. Condition: the lengths' bounds. -/
import Derived.Test.YtbhnjmdlagjfbaaMam
import Derived.Test.YtbhnjmdlagjfbaaMab
namespace Go.Proofs.Ytbhnjmdlagjfbaa
set_option linter.unusedVariables false
open Go.ChangeShapes Go.WideShapes Go.ChangeAt Go.RowKit
attribute [local go_sem ↓] Go.wp_at_zero Go.wp_at_succ comesTo_value_eq comesTo_skip_eq comesTo_enter_eq

def endAt (l : List Int) (j : Nat) : Int := if j + 1 < l.length then l.getD (j + 1) 0 else 1099511627776
/-- what In has told of the first k parts -/
def inPre (first : Int) (C : List ChgC) (P : Int × Int) (l : List Int) (k : Nat) : List (Int × Int) := (List.range k).flatMap fun j => inStep first C P (l.getD j 0) (endAt l j)
theorem inPre_succ (first : Int) (C : List ChgC) (P : Int × Int) (l : List Int) (k : Nat) : inPre first C P l (k + 1) = inPre first C P l k ++ inStep first C P (l.getD k 0) (endAt l k) := by
  unfold inPre
  rw [List.range_succ, List.flatMap_append]
  simp
theorem endAt_zero (x : Int) (r : List Int) : endAt (x :: r) 0 = endT r := by
  unfold endAt endT
  cases r with
  | nil => simp
  | cons y s => simp
theorem endAt_succ (x : Int) (r : List Int) (j : Nat) : endAt (x :: r) (j + 1) = endAt r j := by
  unfold endAt
  simp only [List.length_cons, Nat.add_lt_add_iff_right, List.getD_cons_succ]
theorem inPre_all (first : Int) (C : List ChgC) (P : Int × Int) (l : List Int) : inPre first C P l l.length = inU first C P l := by
  unfold inPre
  generalize hF : inStep first C P = F
  have key : ∀ l : List Int, ((List.range l.length).flatMap fun j => F (l.getD j 0) (endAt l j)) = inU first C P l := by
    intro l
    induction l with
    | nil => rfl
    | cons x r ih =>
      rw [List.length_cons, List.range_succ_eq_map, List.flatMap_cons, List.flatMap_map]
      simp only [List.getD_cons_zero, List.getD_cons_succ, endAt_zero, Nat.succ_eq_add_one, endAt_succ]
      rw [ih]
      show F x (endT r) ++ inU first C P r = inStep first C P x (endT r) ++ inU first C P r
      rw [hF]
  exact key l
theorem inStep_len (first : Int) (C : List ChgC) (P : Int × Int) (x e : Int) : (inStep first C P x e).length ≤ 1 := by
  unfold inStep
  split <;> simp
theorem inPre_len (first : Int) (C : List ChgC) (P : Int × Int) (l : List Int) (k : Nat) : (inPre first C P l k).length ≤ k := by
  induction k with
  | zero => simp [inPre]
  | succ k ih =>
    rw [inPre_succ, List.length_append]
    have := inStep_len first C P (l.getD k 0) (endAt l k)
    omega
theorem info_int10 : (Try.prog.info? 3).map (fun i => (i.zero, i.size, i.bytes)) = some (some (.int .i64 0), 1, 8) := by kernel_rfl
theorem eltI : Ap.Elt Try.prog 53 3 1 8 :=
  ⟨Try.underlying53, by obtain ⟨i, h1, h2, h3, h4⟩ := info_parts3 info_int10; exact ⟨i, _, h1, h2, h3, h4, rfl⟩, by decide⟩
/-- an own row of numbers -/
def OwnN (w : World) (B : Nat) (e : TypeId) (v : Value) (l : List Int) : Prop := w.ownsRow B e 1 v l.length (flatT l)
theorem OwnN.form {w : World} {B : Nat} {e : TypeId} {v : Value} {l : List Int} (h : OwnN w B e v l) : ∃ ad c, v = .slice ad l.length c ∧ (0 < l.length → ∃ g, ad = some ⟨g, 0, none⟩ ∧ B ≤ g ∧ g < w.heap.size ∧ ∀ k, k < l.length → w.cell? ⟨g, k, none⟩ = some (.int .i64 (l.getD k 0))) := by
  rcases h.2 with ⟨e', h0⟩ | ⟨g, cap, cur, e', hB, hg, hc, _⟩
  · exact ⟨none, 0, by rw [e', h0], fun h => by omega⟩
  · refine ⟨_, cap, e', fun _ => ⟨g, rfl, hB, (Array.getElem?_eq_some_iff.1 hg).1, fun k hk => ?_⟩⟩
    have h' : w.ownsRow B e 1 (.slice (some ⟨g, 0, none⟩) l.length cap) l.length (flatT l) := by rw [← e']; exact h
    refine (h'.cellAt k (by omega)).trans ?_
    unfold flatT
    rw [List.getElem?_map, List.getElem?_eq_getElem hk, List.getD_eq_getElem?_getD, List.getElem?_eq_getElem hk]
    rfl
/-- rows of other elements lie apart -/
theorem OwnN.apart {w : World} {B B' : Nat} {e e' : TypeId} {v v' : Value} {l l' : List Int} (h : OwnN w B e v l) (h' : OwnN w B' e' v' l') (hne : e ≠ e') : ∀ k, v.ownBlock = some k → v'.ownBlock ≠ some k := by
  intro k hk hk'
  rcases h.2 with ⟨rfl, _⟩ | ⟨g, cap, cur, rfl, _, hg, _⟩
  · cases hk
  · rcases h'.2 with ⟨rfl, _⟩ | ⟨g', cap', cur', rfl, _, hg', _⟩
    · cases hk'
    · simp only [Value.ownBlock, Option.some.injEq] at hk hk'
      subst hk
      subst hk'
      rw [hg] at hg'
      have := Option.some.inj hg'
      injection this with _ h2
      exact hne h2
theorem OwnN.ne_block {w : World} {B b : Nat} {e T : TypeId} {v : Value} {l : List Int} {cs : Array Value} {fr : Nat × Nat} (h : OwnN w B e v l) (hb : w.heap[b]? = some (.cells cs T fr)) (hT : T ≠ e) : v.ownBlock ≠ some b := by
  intro hk
  rcases h.2 with ⟨rfl, _⟩ | ⟨g, cap, cur, rfl, _, hg, _⟩
  · cases hk
  · simp only [Value.ownBlock, Option.some.injEq] at hk
    subst hk
    rw [hg] at hb
    have := Option.some.inj hb
    injection this with _ h2
    exact hT h2.symm
set_option maxRecDepth 100000 in
set_option maxHeartbeats 16000000 in
theorem rin_any {w : World} {v : Value} {C : List ChgC} (h : RowC w v C) (hlen : C.length ≤ 1048576) (first f t : Int) :
    Calls Try.prog 58 #[.agg #[.int .i64 first, v], .agg #[.int .i64 f, .int .i64 t]] w fun e w' => ∃ v1 v2, e = .returned (.tuple #[v1, v2]) ∧ OwnN w' w.heap.size 3 v1 ((inL first C f t).map (·.1)) ∧ OwnN w' w.heap.size 2 v2 ((inL first C f t).map (·.2)) ∧ Below w.heap.size w w' := by
  have hmx : Try.prog.follows .mixedOrders = true := by kernel_rfl
  obtain ⟨ad, cp, hv⟩ := h.form
  have hb0 := below_alloc (below_alloc (Below.refl _ w) (.cells #[.int .i64 first, v] 28)) (.cells #[.int .i64 f, .int .i64 t] 43)
  have hs1 : (w.alloc (.cells #[.int .i64 first, v] 28)).heap.size = w.heap.size + 1 := by simp
  have n1 := World.alloc_heap_new (w.alloc (.cells #[.int .i64 first, v] 28)) (.cells #[.int .i64 f, .int .i64 t] 43)
  rw [hs1] at n1
  have n0 := ((below_alloc (Below.refl _ (w.alloc (.cells #[.int .i64 first, v] 28))) (.cells #[.int .i64 f, .int .i64 t] 43)).block w.heap.size (by omega)).trans (World.alloc_heap_new w (.cells #[.int .i64 first, v] 28))
  have H := Lib.hid (fun W (hb : Below w.heap.size w W) => h.below hb)
  clear h hs1
  subst hv
  obtain ⟨cF, hcF⟩ : ∃ x, x = (cleanI (f, t)).1 := ⟨_, rfl⟩
  obtain ⟨cT, hcT⟩ : ∃ x, x = (cleanI (f, t)).2 := ⟨_, rfl⟩
  have KCl := Lib.hid (show ∀ W, Calls Try.prog 115 #[.agg #[.int .i64 f, .int .i64 t]] W fun e w' => e = .returned (.agg #[.int .i64 cF, .int .i64 cT]) ∧ Below W.heap.size W w' from fun W => by rw [hcF, hcT]; exact rclean_any f t W)
  have hin : inL first C f t = inU first C (cF, cT) (putT (timesU C) cF) := by unfold inL; rw [hcF, hcT]
  rw [hin]
  clear hin hcF hcT
  go_enter Try.func58, Try.ntmps58
  go_upto_region 1 with fail
  generalize (w.alloc (.cells #[.int .i64 first, .slice ad C.length cp] 28)).alloc (.cells #[.int .i64 f, .int .i64 t] 43) = W at *
  have c0 := cell_of_block (o := 0) n1 rfl
  have c1 := cell_of_block (o := 1) n1 rfl
  go_wp2_with fail
  refine (KCl.out _).mono ?_
  rintro e W2 ⟨rfl, hb2⟩
  have k0 := (Array.getElem?_eq_some_iff.1 n0).1
  have k1 := (Array.getElem?_eq_some_iff.1 n1).1
  have m0 := (hb2.block _ k0).trans n0
  have m1 := (hb2.block _ k1).trans n1
  have d0 := cell_of_block (o := 0) m1 rfl
  have d1 := cell_of_block (o := 1) m1 rfl
  have f0 := free_of_block 0 m1
  have f1 := free_of_block 1 m1
  have hw := ((wrote_refl m1).set 0 (.int .i64 cF)).set 1 (.int .i64 cT)
  have HB3 := Lib.hid (hw.below (below_next hb0 hb2) (by omega))
  have HS3 := Lib.hid ((hw.rest w.heap.size (by omega)).trans m0)
  have HP3 := Lib.hid hw.there
  clear c0 c1 hw m0 m1 n0 n1 hb0 hb2
  go_upto_region 4 with fail
  clear d0 d1 f0 f1
  generalize ((W2.setCell ⟨w.heap.size + 1, 0, none⟩ (.int .i64 cF)).setCell ⟨w.heap.size + 1, 1, none⟩ (.int .i64 cT)) = W3 at *
  have p0 := (Array.getElem?_eq_some_iff.1 HS3.out).1
  have p1 := (Array.getElem?_eq_some_iff.1 HP3.out).1
  refine Ap.wp_region_K (S1 := fun X => X.heap[w.heap.size]? = some (.cells #[.int .i64 first, .slice ad C.length cp] 28 (0, 0)) ∧ X.heap[w.heap.size + 1]? = some (.cells #[.int .i64 cF, .int .i64 cT] 43 (0, 0))) (S2 := fun _ => True) (js := 5) hmx ?_
  change Ap.wpAnyK _ _ _ _ _ _ _ 6 _ _ W3.drew
  have hSS : (fun X : World => X.heap[w.heap.size]? = some (.cells #[.int .i64 first, .slice ad C.length cp] 28 (0, 0)) ∧ X.heap[w.heap.size + 1]? = some (.cells #[.int .i64 cF, .int .i64 cT] 43 (0, 0))) W3.drew ∧ (fun _ : World => True) W3.drew := ⟨⟨HS3.out, HP3.out⟩, trivial⟩
  refine Ap.wpAnyK_take1 (i := 0) (v := .agg #[.int .i64 first, .slice ad C.length cp]) rfl (by decide) (by decide +kernel) (by decide +kernel) (by decide +kernel) (fun _ _ _ h => h) (.inl ⟨by first | rfl | (go_simp; done), fun X hX => by have hx1 := cell_of_block (o := 0) hX.1 rfl; have hx2 := cell_of_block (o := 1) hX.1 rfl; have hx3 := cell_of_block (o := 0) hX.2 rfl; have hx4 := cell_of_block (o := 1) hX.2 rfl; clear hX; first | (go_simp; done) | (go_simp; rfl)⟩) hSS ?_
  refine Ap.wpAnyK_take1 (i := 2) (v := .pointer (some ⟨w.heap.size + 1, 0, none⟩)) rfl (by decide) (by decide +kernel) (by decide +kernel) (by decide +kernel) (fun _ _ _ h => h) (.inl ⟨by first | rfl | (go_simp; done), fun X hX => by have hx1 := cell_of_block (o := 0) hX.1 rfl; have hx2 := cell_of_block (o := 1) hX.1 rfl; have hx3 := cell_of_block (o := 0) hX.2 rfl; have hx4 := cell_of_block (o := 1) hX.2 rfl; clear hX; first | (go_simp; done) | (go_simp; rfl)⟩) hSS ?_
  refine Ap.wpAnyK_take1 (i := 3) (v := .int .i64 cF) rfl (by decide) (by decide +kernel) (by decide +kernel) (by decide +kernel) (fun _ _ _ h => h) (.inl ⟨by first | rfl | (go_simp; done), fun X hX => by have hx1 := cell_of_block (o := 0) hX.1 rfl; have hx2 := cell_of_block (o := 1) hX.1 rfl; have hx3 := cell_of_block (o := 0) hX.2 rfl; have hx4 := cell_of_block (o := 1) hX.2 rfl; clear hX; first | (go_simp; done) | (go_simp; rfl)⟩) hSS ?_
  refine Ap.anyK_call (i := 1) (by decide +kernel) rfl rfl (by go_simp) (rtimes_list (H.out _ (Below.drew HB3.out)) hlen first) ?_
  rintro e X ⟨v1, rfl, hr1, hbx1⟩
  have hS1 : (fun X : World => X.heap[w.heap.size]? = some (.cells #[.int .i64 first, .slice ad C.length cp] 28 (0, 0)) ∧ X.heap[w.heap.size + 1]? = some (.cells #[.int .i64 cF, .int .i64 cT] 43 (0, 0))) X := ⟨(hbx1.block _ p0).trans hSS.1.1, (hbx1.block _ p1).trans hSS.1.2⟩
  refine ⟨_, rfl, ⟨hS1, fun _ => trivial⟩, ?_⟩
  obtain ⟨g1, n1, cp1, rfl⟩ : ∃ g n c, v1 = .slice (some ⟨g, 0, none⟩) n c := by obtain ⟨g, c, e, _⟩ := hr1; exact ⟨_, _, _, e⟩
  have htl := timesU_len C
  refine Ap.anyK_call (i := 4) (by decide +kernel) rfl rfl (by go_simp) (rput_any hr1 (by omega) cF) ?_
  rintro e X2 ⟨v2, rfl, hr2, hbx2⟩
  have hx1s := hbx1.size
  have hS2 : (fun X : World => X.heap[w.heap.size]? = some (.cells #[.int .i64 first, .slice ad C.length cp] 28 (0, 0)) ∧ X.heap[w.heap.size + 1]? = some (.cells #[.int .i64 cF, .int .i64 cT] 43 (0, 0))) X2 := ⟨(hbx2.block _ (Nat.lt_of_lt_of_le p0 hx1s)).trans hS1.1, (hbx2.block _ (Nat.lt_of_lt_of_le p1 hx1s)).trans hS1.2⟩
  refine ⟨_, rfl, ⟨hS2, fun _ => trivial⟩, ?_⟩
  have hpl := putT_len (timesU C) cF
  obtain ⟨l, hlE⟩ : ∃ l, l = putT (timesU C) cF := ⟨_, rfl⟩
  rw [← hlE] at hr2 hpl
  have HLE := Lib.hid hlE.symm
  clear hlE
  obtain ⟨gl, cl, rfl, hcl, hgl, hrl⟩ := hr2
  refine Ap.anyK_val1 (i := 5) (v := .slice (some ⟨gl, 0, none⟩) l.length cl) (w' := X2) (by decide +kernel) rfl rfl (by first | (go_simp; done) | (go_simp; rfl)) ⟨hS2, trivial⟩ ?_
  refine Ap.wpAnyK_done (by decide +kernel) ?_ _
  have HB4 := Lib.hid (below_next (below_next (Below.drew HB3.out) hbx1) hbx2)
  have HS4 := Lib.hid hS2.1
  have HP4 := Lib.hid hS2.2
  have HL := Lib.hid hrl
  clear hrl hS2 hS1 hSS hbx1 hbx2 hr1 HB3 HS3 HP3 hx1s
  have p0 := (Array.getElem?_eq_some_iff.1 HS4.out).1
  have p1 := (Array.getElem?_eq_some_iff.1 HP4.out).1
  go_wp2_with fail
  go_loopw [6, 7, 9, 10, 11] (fun o m i e b wr => ∃ k : Nat, k ≤ l.length ∧ i = .int .i64 k ∧ OwnN wr X2.heap.size 3 o ((inPre first C (cF, cT) l k).map (·.1)) ∧ OwnN wr X2.heap.size 2 m ((inPre first C (cF, cT) l k).map (·.2)) ∧ Below X2.heap.size X2 wr) (fun _ _ i _ _ _ => l.length - (intOf i).toNat)
  case atStart => exact ⟨0, by omega, rfl, ⟨rfl, .inl ⟨rfl, rfl⟩⟩, ⟨rfl, .inl ⟨rfl, rfl⟩⟩, Below.refl _ _⟩
  case round =>
    obtain ⟨k, hk, rfl, ho, hm, hb⟩ := hrel
    have hpl2 := inPre_len first C (cF, cT) l k
    have HBr := Lib.hid hb
    obtain ⟨oa, oc, rfl, _⟩ := ho.form
    obtain ⟨ma, mc, rfl, _⟩ := hm.form
    rw [List.length_map] at ho hm
    rw [List.length_map, List.length_map]
    obtain ⟨np, hnp⟩ : ∃ n, n = (inPre first C (cF, cT) l k).length := ⟨_, rfl⟩
    rw [← hnp] at ho hm hpl2 ⊢
    have HNP := Lib.hid hnp
    have HO := Lib.hid ho
    have HM := Lib.hid hm
    clear hb ho hm hnp
    by_cases hlt : k < l.length
    case neg =>
      have hd : decide (k < l.length) = false := decide_eq_false hlt
      have hke : k = l.length := by omega
      have HR1 := Lib.hid (show OwnN wr w.heap.size 3 (.slice oa np oc) ((inU first C (cF, cT) l).map (·.1)) from own_less (by have := HO.out; rw [hke, inPre_all] at this; exact this) HB4.out.size)
      have HR2 := Lib.hid (show OwnN wr w.heap.size 2 (.slice ma np mc) ((inU first C (cF, cT) l).map (·.2)) from own_less (by have := HM.out; rw [hke, inPre_all] at this; exact this) HB4.out.size)
      have HB9 := Lib.hid (Below.trans HB4.out (Below.mono HBr.out HB4.out.size))
      clear HO HM hke
      go_wp2_with fail
      go_ret2
      exact ⟨.slice oa np oc, .slice ma np mc, rfl, by rw [HLE.out]; exact HR1.out, by rw [HLE.out]; exact HR2.out, HB9.out⟩
    case pos =>
      have hd : decide (k < l.length) = true := decide_eq_true hlt
      have hix : (k : Int) < (l.length : Int) := by omega
      have hw1 : IntKind.i64.wrap ((k : Int) + 1) = ((k + 1 : Nat) : Int) := by rw [IntKind.wrap_i64]; omega
      have q0 := (HBr.out.cell (p := ⟨gl, k, none⟩) hgl).trans (HL.out k hlt)
      have hglr : gl < wr.heap.size := Nat.lt_of_lt_of_le hgl HBr.out.size
      go_upto_if 29 with fail
      go_cut [10] (fun s wx => s = .int .i64 (endAt l k) ∧ wx = wr)
      case first =>
        by_cases h1 : k + 1 < l.length
        case pos =>
          have hd1 : decide (k + 1 < l.length) = true := decide_eq_true h1
          have hix1 : ((k + 1 : Nat) : Int) < (l.length : Int) := by omega
          have q1 := (HBr.out.cell (p := ⟨gl, k + 1, none⟩) hgl).trans (HL.out (k + 1) h1)
          have E := Lib.hid (show endAt l k = l.getD (k + 1) 0 by unfold endAt; rw [if_pos h1])
          generalize l.getD (k + 1) 0 = y at *
          go_wp2_with fail
          go_meet
          exact ⟨by rw [E.out], rfl⟩
        case neg =>
          have hd1 : decide (k + 1 < l.length) = false := decide_eq_false h1
          have E := Lib.hid (show endAt l k = 1099511627776 by unfold endAt; rw [if_neg h1])
          go_wp2_with fail
          go_meet
          exact ⟨by rw [E.out], rfl⟩
      case rest =>
      obtain ⟨rfl, hwc⟩ := hcut
      rw [hwc]
      clear hwc
      have HPS := Lib.hid (inPre_succ first C (cF, cT) l k)
      generalize endAt l k = e at *
      generalize l.getD k 0 = x at *
      have s4 := (HBr.out.block _ p0).trans HS4.out
      have s5 := (HBr.out.block _ p1).trans HP4.out
      have s4l := (Array.getElem?_eq_some_iff.1 s4).1
      have s5l := (Array.getElem?_eq_some_iff.1 s5).1
      have t0 := cell_of_block (o := 0) s5 rfl
      have t1 := cell_of_block (o := 1) s5 rfl
      obtain ⟨z1, hz1⟩ : ∃ z, z = (cutI (cF, cT) (x, e)).1 := ⟨_, rfl⟩
      obtain ⟨z2, hz2⟩ : ∃ z, z = (cutI (cF, cT) (x, e)).2 := ⟨_, rfl⟩
      have KC := Lib.hid (fun W => (show Calls Try.prog 118 #[.agg #[.int .i64 cF, .int .i64 cT], .agg #[.int .i64 x, .int .i64 e]] W fun e w' => e = .returned (.agg #[.int .i64 z1, .int .i64 z2]) ∧ Below W.heap.size W w' from by rw [hz1, hz2]; exact rcut_any cF cT x e W))
      have hz1b : 0 ≤ z1 ∧ z1 ≤ 1099511627776 ∧ 0 ≤ z2 ∧ z2 ≤ 1099511627776 := by
        rw [hz1, hz2]
        have a1 := clampI_bounds cF
        have a2 := clampI_bounds cT
        have a3 := clampI_bounds x
        have a4 := clampI_bounds e
        unfold cutI bothT bothF
        simp only
        split
        · simp
        · simp only; omega
      have HST := Lib.hid (show inStep first C (cF, cT) x e = if z1 < z2 then [(ratU first C z1, z2 - z1)] else [] by rw [hz1, hz2]; rfl)
      clear hz1 hz2
      go_upto_region 11 with fail
      refine wp_region_boxes wr (by kernel_rfl) (by kernel_rfl) (Below.refl _ _) ?_
      (refine textB_det ?_ rfl rfl ?_ (fun W hS => ?_) ?_; rotate_left; (focus go_simp); (focus (obtain ⟨hc, hf⟩ := bcell hS; go_simp; first | (refine ⟨?_, Below.refl _ _⟩; rfl) | rfl | exact Below.refl _ _)); (try go_simp))
      (refine textB_det ?_ rfl rfl ?_ (fun W hS => ?_) ?_; rotate_left; (focus go_simp); (focus (obtain ⟨hc, hf⟩ := bcell hS; go_simp; first | (refine ⟨?_, Below.refl _ _⟩; rfl) | rfl | exact Below.refl _ _)); (try go_simp))
      (refine textB_det ?_ rfl rfl ?_ (fun W hS => ?_) ?_; rotate_left; (focus go_simp); (focus (obtain ⟨hc, hf⟩ := bcell hS; go_simp; first | (refine ⟨?_, Below.refl _ _⟩; rfl) | rfl | exact Below.refl _ _)); (try go_simp))
      (refine textB_det ?_ rfl rfl ?_ (fun W hS => ?_) ?_; rotate_left; (focus go_simp); (focus (obtain ⟨hc, hf⟩ := bcell hS; go_simp; first | (refine ⟨?_, Below.refl _ _⟩; rfl) | rfl | exact Below.refl _ _)); (try go_simp))
      (refine textB_det ?_ rfl rfl ?_ (fun W hS => ?_) ?_; rotate_left; (focus go_simp); (focus (obtain ⟨hc, hf⟩ := bcell hS; go_simp; first | (refine ⟨?_, Below.refl _ _⟩; rfl) | rfl | exact Below.refl _ _)); (try go_simp))
      (refine textB_det ?_ rfl rfl ?_ (fun W hS => ?_) ?_; rotate_left; (focus go_simp); (focus (obtain ⟨hc, hf⟩ := bcell hS; go_simp; first | (refine ⟨?_, Below.refl _ _⟩; rfl) | rfl | exact Below.refl _ _)); (try go_simp))
      (refine textB_det ?_ rfl rfl ?_ (fun W hS => ?_) ?_; rotate_left; (focus go_simp); (focus (obtain ⟨hc, hf⟩ := bcell hS; go_simp; first | (refine ⟨?_, Below.refl _ _⟩; rfl) | rfl | exact Below.refl _ _)); (try go_simp))
      (refine textB_det ?_ rfl rfl ?_ (fun W hS => ?_) ?_; rotate_left; (focus go_simp); (focus (obtain ⟨hc, hf⟩ := bcell hS; go_simp; refine (KC.out _).mono ?_; rintro e w1 ⟨rfl, hb⟩; refine ⟨?_, hb⟩; rfl)); (try go_simp))
      (refine textB_al _ (43) (#[.int .i64 0, .int .i64 0]) rfl rfl rfl (fun ρ W => ?_) ?_; (focus (first | rfl | (go_simp; done) | (go_simp; rfl))); (try go_simp))
      (refine textB_st _ _ _ (#[.int .i64 z1, .int .i64 z2]) rfl rfl rfl rfl (fun b W hb => ?_) ?_; (focus (have c0 := cell_of_block (o := 0) hb rfl; have f0 := free_of_block 0 hb; have c1 := cell_of_block (o := 1) hb rfl; have f1 := free_of_block 1 hb; refine ⟨_, (by first | (go_simp; done) | (go_simp; rfl)), ((wrote_refl hb).set 0 (.int .i64 z1)).set 1 (.int .i64 z2)⟩)); (try go_simp))
      intro blk w2 hb2 hbx hbd
      have hq := hbx _ List.mem_cons_self
      dsimp only at hq
      simp only [List.map_cons, List.map_nil, putAll]
      obtain ⟨hq1, hq2⟩ := hq
      clear hbx hbd
      generalize blk 11 = bq at *
      clear blk
      have HB2 := Lib.hid hb2
      have HQ := Lib.hid hq2
      have HO2 := Lib.hid (show OwnN w2 X2.heap.size 3 (.slice oa np oc) ((inPre first C (cF, cT) l k).map (·.1)) from Ap.own_below HO.out hb2)
      have HM2 := Lib.hid (show OwnN w2 X2.heap.size 2 (.slice ma np mc) ((inPre first C (cF, cT) l k).map (·.2)) from Ap.own_below HM.out hb2)
      have s42 := (hb2.block _ s4l).trans s4
      have u0 := cell_of_block (o := 0) hq2 rfl
      have u1 := cell_of_block (o := 1) hq2 rfl
      have v0 := cell_of_block (o := 0) s42 rfl
      have v1 := cell_of_block (o := 1) s42 rfl
      have hbB := Below.trans HBr.out (Below.mono hb2 HBr.out.size)
      have HBB := Lib.hid hbB
      clear hb2 hq1 hq2 t0 t1 s4 s5 q0 HO HM KC hbB
      by_cases hz : z1 < z2
      case neg =>
        have hdz : decide (z1 < z2) = false := decide_eq_false hz
        have E := Lib.hid (show inPre first C (cF, cT) l (k + 1) = inPre first C (cF, cT) l k by rw [HPS.out, HST.out, if_neg hz, List.append_nil])
        go_wp2_with fail
        exact ⟨⟨k + 1, by omega, rfl, by rw [E.out]; exact HO2.out, by rw [E.out]; exact HM2.out, HBB.out⟩, by show l.length - (((k + 1 : Nat) : Int)).toNat < l.length - ((k : Int)).toNat; omega⟩
      case pos =>
        have hdz : decide (z1 < z2) = true := decide_eq_true hz
        have hwz : IntKind.i64.wrap (z2 - z1) = z2 - z1 := by rw [IntKind.wrap_i64]; omega
        have E := Lib.hid (show inPre first C (cF, cT) l (k + 1) = inPre first C (cF, cT) l k ++ [(ratU first C z1, z2 - z1)] by rw [HPS.out, HST.out, if_pos hz])
        have hB4s := HB4.out.size
        have hBBs := HBB.out.size
        have KA := Lib.hid (rat_any (H.out w2 (Below.trans HB4.out (Below.mono HBB.out HB4.out.size))) (by omega) first z1)
        generalize ratU first C z1 = va at *
        go_upto_region 13 with fail
        refine wp_region_lit ?_
        refine wpList_yield (w' := w2) (v := .slice oa np oc) rfl (by first | (go_simp; done) | (go_simp; rfl)) ?_
        refine wpList_yield (w' := w2) (v := .agg #[.int .i64 first, .slice ad C.length cp]) rfl (by first | (go_simp; done) | (go_simp; rfl)) ?_
        refine wpList_yield (w' := w2) (v := .pointer (some ⟨bq, 0, none⟩)) rfl (by first | (go_simp; done) | (go_simp; rfl)) ?_
        refine wpList_yield (w' := w2) (v := .int .i64 z1) rfl (by first | (go_simp; done) | (go_simp; rfl)) ?_
        refine wpList_enter rfl (by go_simp) KA.out ?_
        rintro e3 w3 ⟨rfl, hb3⟩
        refine ⟨_, rfl, ?_⟩
        refine wpList_yield (w' := w3.alloc (.cells #[.int .i64 va] 3)) (v := .slice (some ⟨w3.heap.size, 0, none⟩) 1 1) rfl (by first | (go_simp; done) | (go_simp; rfl)) ?_
        have hbA := below_alloc (Below.refl _ w3) (.cells #[.int .i64 va] 3)
        have hs3 := hb3.size
        have ho3 : OwnN (w3.alloc (.cells #[.int .i64 va] 3)) X2.heap.size 3 (.slice oa np oc) ((inPre first C (cF, cT) l k).map (·.1)) := Ap.own_below (Ap.own_below HO2.out hb3) hbA
        have hm3 : OwnN (w3.alloc (.cells #[.int .i64 va] 3)) X2.heap.size 2 (.slice ma np mc) ((inPre first C (cF, cT) l k).map (·.2)) := Ap.own_below (Ap.own_below HM2.out hb3) hbA
        have hq3 := (hbA.block bq (Nat.lt_of_lt_of_le (Array.getElem?_eq_some_iff.1 HQ.out).1 hs3)).trans ((hb3.block bq (Array.getElem?_eq_some_iff.1 HQ.out).1).trans HQ.out)
        have hn3 : np = ((inPre first C (cF, cT) l k).map (·.1)).length := by rw [List.length_map]; exact HNP.out
        have hn4 : np = ((inPre first C (cF, cT) l k).map (·.2)).length := by rw [List.length_map]; exact HNP.out
        obtain ⟨o4, w4, hrun, hown, hgr, hbel⟩ := Ap.run_app eltI 53 X2.heap.size (.slice oa np oc) np _ (by have := ho3; unfold OwnN at this; rw [← hn3] at this; exact this) _ 1 _ (rd_one w3 #[.int .i64 va] 3 (size := 1) rfl (by intro u hu; simp at hu; subst hu; rfl)) (by unfold maxLen; omega) (by omega) (by have := hbA.size; omega)
        refine wpList_yield (w' := w4) (v := o4) rfl (Ap.exec_app rfl (by go_simp) (by go_simp) hrun) ?_
        have ho4 : OwnN w4 X2.heap.size 3 o4 ((inPre first C (cF, cT) l (k + 1)).map (·.1)) := by
          rw [E.out, List.map_append]
          unfold OwnN
          rw [List.length_append, ← hn3, show flatT ((inPre first C (cF, cT) l k).map (·.1) ++ [(va, z2 - z1)].map (·.1)) = flatT ((inPre first C (cF, cT) l k).map (·.1)) ++ [Value.int .i64 va] by simp [flatT]]
          exact hown
        have hm4 : OwnN w4 X2.heap.size 2 (.slice ma np mc) ((inPre first C (cF, cT) l k).map (·.2)) := Ap.own_keep hm3 fun j hj => hgr.block j (Ap.own_lt hm3 j hj) (fun e => hm3.apart ho3 (by decide) j hj e.symm)
        have hq4 := (hgr.block bq (Array.getElem?_eq_some_iff.1 hq3).1 (fun e => ho3.ne_block hq3 (by decide) e.symm)).trans hq3
        have HB5 := Lib.hid (Below.trans (Below.trans HBB.out (Below.mono (Below.trans hb3 (Below.mono hbA hs3)) HBB.out.size)) hbel)
        obtain ⟨o4a, o4n, o4c, rfl⟩ : ∃ a n c, o4 = .slice a n c := by obtain ⟨a, c, e, _⟩ := ho4.form; exact ⟨_, _, _, e⟩
        have HO4 := Lib.hid ho4
        have HM4 := Lib.hid hm4
        have u0 := cell_of_block (o := 0) hq4 rfl
        have u1 := cell_of_block (o := 1) hq4 rfl
        have HQ4 := Lib.hid hq4
        clear ho3 hm3 hq3 hrun hown hgr hbel ho4 hm4 hq4 hb3 hbA v0 v1 s42
        go_upto_region 14 with fail
        refine wp_region_lit ?_
        refine wpList_yield (w' := w4) (v := .slice ma np mc) rfl (by first | (go_simp; done) | (go_simp; rfl)) ?_
        refine wpList_yield (w' := w4) (v := .pointer (some ⟨bq, 1, none⟩)) rfl (by first | (go_simp; done) | (go_simp; rfl)) ?_
        refine wpList_yield (w' := w4) (v := .int .i64 z2) rfl (by first | (go_simp; done) | (go_simp; rfl)) ?_
        refine wpList_yield (w' := w4) (v := .pointer (some ⟨bq, 0, none⟩)) rfl (by first | (go_simp; done) | (go_simp; rfl)) ?_
        refine wpList_yield (w' := w4) (v := .int .i64 z1) rfl (by first | (go_simp; done) | (go_simp; rfl)) ?_
        refine wpList_yield (w' := w4) (v := .int .i64 (z2 - z1)) rfl (by first | (go_simp; done) | (go_simp; rfl)) ?_
        refine wpList_yield (w' := w4.alloc (.cells #[.int .i64 (z2 - z1)] 2)) (v := .slice (some ⟨w4.heap.size, 0, none⟩) 1 1) rfl (by first | (go_simp; done) | (go_simp; rfl)) ?_
        have hbA := below_alloc (Below.refl _ w4) (.cells #[.int .i64 (z2 - z1)] 2)
        have ho5 : OwnN (w4.alloc (.cells #[.int .i64 (z2 - z1)] 2)) X2.heap.size 3 (.slice o4a o4n o4c) ((inPre first C (cF, cT) l (k + 1)).map (·.1)) := Ap.own_below HO4.out hbA
        have hm5 : OwnN (w4.alloc (.cells #[.int .i64 (z2 - z1)] 2)) X2.heap.size 2 (.slice ma np mc) ((inPre first C (cF, cT) l k).map (·.2)) := Ap.own_below HM4.out hbA
        obtain ⟨m6, w6, hrun, hown, hgr, hbel⟩ := Ap.run_app eltT 113 X2.heap.size (.slice ma np mc) np _ (by have := hm5; unfold OwnN at this; rw [← hn4] at this; exact this) _ 1 _ (rd_one w4 #[.int .i64 (z2 - z1)] 2 (size := 1) rfl (by intro u hu; simp at hu; subst hu; rfl)) (by unfold maxLen; omega) (by omega) (by have := hbA.size; have := HB5.out.size; omega)
        refine wpList_yield (w' := w6) (v := m6) rfl (Ap.exec_app rfl (by go_simp) (by go_simp) hrun) ?_
        have hm6 : OwnN w6 X2.heap.size 2 m6 ((inPre first C (cF, cT) l (k + 1)).map (·.2)) := by
          rw [E.out, List.map_append]
          unfold OwnN
          rw [List.length_append, ← hn4, show flatT ((inPre first C (cF, cT) l k).map (·.2) ++ [(va, z2 - z1)].map (·.2)) = flatT ((inPre first C (cF, cT) l k).map (·.2)) ++ [Value.int .i64 (z2 - z1)] by simp [flatT]]
          exact hown
        have ho6 : OwnN w6 X2.heap.size 3 (.slice o4a o4n o4c) ((inPre first C (cF, cT) l (k + 1)).map (·.1)) := Ap.own_keep ho5 fun j hj => hgr.block j (Ap.own_lt ho5 j hj) (fun e => ho5.apart hm5 (by decide) j hj e.symm)
        have HB6 := Lib.hid (Below.trans (Below.trans HB5.out (Below.mono hbA HB5.out.size)) hbel)
        obtain ⟨m6a, m6n, m6c, rfl⟩ : ∃ a n c, m6 = .slice a n c := by obtain ⟨a, c, e, _⟩ := hm6.form; exact ⟨_, _, _, e⟩
        have HO6 := Lib.hid ho6
        have HM6 := Lib.hid hm6
        clear ho5 hm5 hrun hown hgr hbel ho6 hm6 hbA u0 u1
        go_wp2_with fail
        exact ⟨⟨k + 1, by omega, rfl, HO6.out, HM6.out, HB6.out⟩, by show l.length - (((k + 1 : Nat) : Int)).toNat < l.length - ((k : Int)).toNat; omega⟩
end Go.Proofs.Ytbhnjmdlagjfbaa
