/- Sort of any items (prio), of any number; a row of items that came in. Condition: at most a million items. -/
import Derived.Test.YtbhnjmdlagjfbaaPrioOne
import Derived.Test.YtbhnjmdlagjfbaaSsItemB
import Derived.Test.YtbhnjmdlagjfbaaAppTwo
import Derived.Test.YtbhnjmdlagjfbaaRelL
import Derived.Test.YtbhnjmdlagjfbaaEqs
import Derived.Test.YtbhnjmdlagjfbaaMid
import Derived.Deep.SlicePairs
import Derived.Shelf.SlSortFuncK.ComposeK
namespace Go.Proofs.Ytbhnjmdlagjfbaa
set_option linter.unusedVariables false
open Go.ChangeShapes Go.WideShapes Go.ChangeAt Go.RowKit Go.Sort Go.Shelf
attribute [local go_sem ↓] Go.wp_at_zero Go.wp_at_succ

theorem swoP : SWO lessB where
  irrefl x := by unfold lessB; simp
  trans x y z h1 h2 := by
    unfold lessB at *
    split at h1 <;> split at h2 <;> split <;> simp only [decide_eq_true_eq] at * <;> omega
  ntrans x y z h1 h2 := by
    unfold lessB at *
    split at h1 <;> split at h2 <;> split <;> simp only [decide_eq_false_iff_not] at * <;> omega
theorem lessB_total (x y : Int × Int) (h1 : lessB x y = false) (h2 : lessB y x = false) : x = y := by
  obtain ⟨a, b⟩ := x
  obtain ⟨c, d⟩ := y
  unfold lessB at h1 h2
  simp only at h1 h2
  by_cases e : b = d
  · subst e
    simp only [if_true, decide_eq_false_iff_not] at h1 h2
    have : a = c := by omega
    rw [this]
  · rw [if_neg e] at h1
    rw [if_neg (fun h => e h.symm)] at h2
    simp only [decide_eq_false_iff_not] at h1 h2
    omega
theorem addp (b off k : Nat) : (⟨b, off, none⟩ : Addr).add k = ⟨b, off + k, none⟩ := by unfold Addr.add; split <;> simp_all
def RowP (w : World) (v : Value) (l : List (Int × Int)) : Prop :=
  ∃ a c, v = .slice a l.length c ∧ l.length ≤ c ∧ (0 < l.length → ∃ b off, a = some ⟨b, off, none⟩ ∧ ∀ k, k < l.length → w.cell? ⟨b, off + k * 2, none⟩ = some (.int .i64 (l.getD k (0, 0)).1) ∧ w.cell? ⟨b, off + k * 2 + 1, none⟩ = some (.int .i64 (l.getD k (0, 0)).2))
theorem RowP.below {w w' : World} {v : Value} {l : List (Int × Int)} (h : RowP w v l) (hb : Below w.heap.size w w') : RowP w' v l := by
  obtain ⟨a, c, h1, h2, h3⟩ := h
  refine ⟨a, c, h1, h2, fun h0 => ?_⟩
  obtain ⟨b, off, e, hc⟩ := h3 h0
  exact ⟨b, off, e, fun k hk => ⟨(hb.cell (World.block_lt_of_cell? w _ (hc k hk).1)).trans (hc k hk).1, (hb.cell (World.block_lt_of_cell? w _ (hc k hk).2)).trans (hc k hk).2⟩⟩
theorem flatS_one : ∀ (l : List (Int × Int)) u, u ∈ flatS l → u.oneCell' = true
  | [], u, hu => by cases hu
  | p :: r, u, hu => by
    simp only [flatS, List.mem_cons] at hu
    rcases hu with rfl | rfl | hu
    · rfl
    · rfl
    · exact flatS_one r u hu
theorem RowP.rdg {w : World} {v : Value} {l : List (Int × Int)} (h : RowP w v l) : Ap.RdG w 2 v l.length (flatS l) := by
  obtain ⟨a, c, h1, h2, h3⟩ := h
  refine ⟨⟨a, c, h1, fun e => ?_, fun x hx j u hj => ?_, fun x hx hm => ?_⟩, flatS_length l, flatS_one l⟩
  · by_cases h0 : 0 < l.length
    · obtain ⟨b, off, e', _⟩ := h3 h0
      rw [e'] at e; cases e
    · omega
  · have hj' : j < l.length * 2 := by
      rcases Nat.lt_or_ge j (l.length * 2) with h | h
      · exact h
      · rw [List.getElem?_eq_none (by rw [flatS_length]; exact h)] at hj; cases hj
    obtain ⟨b, off, e', hc⟩ := h3 (by omega)
    rw [e'] at hx
    cases hx
    have hk : j / 2 < l.length := by omega
    rw [addp]
    rcases Nat.mod_two_eq_zero_or_one j with h | h
    · have e := flatS_get0 l (j / 2) hk
      rw [show j / 2 * 2 = j by omega] at e
      rw [e] at hj
      cases hj
      have := (hc (j / 2) hk).1
      rw [show off + j / 2 * 2 = off + j by omega] at this
      exact this
    · have e := flatS_get1 l (j / 2) hk
      rw [show j / 2 * 2 + 1 = j by omega] at e
      rw [e] at hj
      cases hj
      have := (hc (j / 2) hk).2
      rw [show off + j / 2 * 2 + 1 = off + j by omega] at this
      exact this
  · obtain ⟨b, off, e', hc⟩ := h3 hm
    rw [e'] at hx
    cases hx
    exact World.block_lt_of_cell? w _ (hc 0 hm).1
theorem RowP.take {w : World} {a : Option Addr} {n c : Nat} {l : List (Int × Int)} (h : RowP w (.slice a n c) l) (m : Nat) (hm : m ≤ l.length) : RowP w (.slice a m c) (l.take m) := by
  obtain ⟨a', c', h1, h2, h3⟩ := h
  injection h1 with e1 e2 e3
  subst e1 e3
  have hl : (l.take m).length = m := by simp; omega
  refine ⟨a, c, by rw [hl], by omega, fun h0 => ?_⟩
  rw [hl] at h0
  obtain ⟨b, off, e, hc⟩ := h3 (by omega)
  refine ⟨b, off, e, fun k hk => ?_⟩
  rw [hl] at hk
  have : (l.take m).getD k (0, 0) = l.getD k (0, 0) := by simp [List.getD, hk]
  rw [this]
  exact hc k (by omega)
theorem OwnT.rowP {w : World} {B : Nat} {v : Value} {l : List (Int × Int)} (h : OwnT w B v l) : RowP w v l := by
  rcases h.2 with ⟨rfl, h0⟩ | ⟨g, cap, cur, hv, hB, hg, hc, _, _, ht⟩
  · have : l = [] := by
      cases l with
      | nil => rfl
      | cons p r => simp [flatS] at h0
    subst this
    exact ⟨none, 0, rfl, Nat.le_refl _, fun h => by simp at h⟩
  · refine ⟨_, cap, hv, hc, fun h0 => ⟨g, 0, rfl, fun k hk => ?_⟩⟩
    subst hv
    have hx := World.ownsRow.cells h (g := g) rfl
    have a0 := hx (k * 2) _ (flatS_get0 l k hk)
    have a1 := hx (k * 2 + 1) _ (flatS_get1 l k hk)
    rw [addp] at a0 a1
    exact ⟨a0, a1⟩
theorem eltP : Ap.Elt Try.prog 94 97 2 16 :=
  ⟨Try.underlying94, (by obtain ⟨i0, hi, hz0, hz1, hz2⟩ := info_parts info_item; exact ⟨i0, _, hi, hz0, hz1, hz2, rfl⟩), by decide⟩
theorem layItem : SsItem.Lay Try.prog 2 where
  mixed := by kernel_rfl
  fR := by kernel_rfl
  fT := by kernel_rfl
  fM := by kernel_rfl
  fS := by kernel_rfl
  aE := Try.isAgg97
  zE := Try.sizeOf97
  t0 := by kernel_rfl
  a0 := fun w => by first | kernel_rfl | rfl
  z0 := fun w => by first | kernel_rfl | rfl
  v0 := fun w => by first | kernel_rfl | rfl
  t3 := by kernel_rfl
  a3 := fun w => by first | kernel_rfl | rfl
  z3 := fun w => by first | kernel_rfl | rfl
  v3 := fun w => by first | kernel_rfl | rfl
  t4 := by kernel_rfl
  a4 := fun w => by first | kernel_rfl | rfl
  z4 := fun w => by first | kernel_rfl | rfl
  v4 := fun w => by first | kernel_rfl | rfl
  t5 := by kernel_rfl
  a5 := fun w => by first | kernel_rfl | rfl
  z5 := fun w => by first | kernel_rfl | rfl
  v5 := fun w => by first | kernel_rfl | rfl
  t6 := by kernel_rfl
  a6 := fun w => by first | kernel_rfl | rfl
  z6 := fun w => by first | kernel_rfl | rfl
  v6 := fun w => by first | kernel_rfl | rfl
  t7 := by kernel_rfl
  a7 := fun w => by first | kernel_rfl | rfl
  z7 := fun w => by first | kernel_rfl | rfl
  v7 := fun w => by first | kernel_rfl | rfl
theorem encS_one (x : Int × Int) : ∀ v ∈ encS x, v.oneCell' = true := fun v hv => by
  simp only [encS, List.mem_cons, List.not_mem_nil, or_false] at hv
  rcases hv with rfl | rfl <;> rfl
theorem enterP : ∀ args w, (callFunc 108 args).run Try.prog w = .ok (.enter 108 args) w := enters_of Try.func108 (by kernel_rfl) rfl
theorem ins_item {w0 : World} {g c : Nat} {d0 : Array (Int × Int)} (R : RowK encS 2 w0 g 0 d0) (a b : Nat) (d : Array (Int × Int)) (w : World) (hs : d0.size = d.size) (S : SWK encS 2 w0 g 0 d w) (hab : a ≤ b) (hb : b ≤ d.size) (hsz : d.size < 4611686018427387904) :
    Calls Try.prog 160 #[.slice (some ⟨g, 0, none⟩) d.size c, .int .i64 a, .int .i64 b, .func (.func 108) #[] #[]] w fun e w' => e = .returned (.tuple #[]) ∧ SWK encS 2 w0 g 0 (Sort.insertionSort (ltOf cfP) d a b) w' := by
  have h := AnyQ.insertionSortCmpFunc Try.insItem 2 Try.isAgg97 Try.sizeOf97 encS R.hk R.h1 cfP 108 #[] g 0 c a b d w enterP (fun _ _ _ _ x y => order_prio x y _) (S.holds R.hblk R.hH hs.symm) (S.lt R.hblk) hab hb hsz
  refine Calls.mono h ?_
  rintro e w' ⟨h1, n, os, h2⟩
  exact ⟨h1, by rw [h2]; exact S.on R.hblk n _ os (Ss.insertionSort_size _ _ _ _)⟩
theorem stable_items (g c : Nat) (l : List (Int × Int)) (w : World) (hl : l.length ≤ 1000000) (hH : HoldsK encS 2 w g 0 l.toArray) (hblk : g < w.heap.size) :
    Calls Try.prog 107 #[.slice (some ⟨g, 0, none⟩) l.length c, .func (.func 108) #[] #[]] w fun e w' => e = .returned (.tuple #[]) ∧ ∃ n os, w' = sortWorldK encS 2 w g 0 n (Ss.isort lessB l).toArray os := by
  have R : RowK encS 2 w g 0 l.toArray := ⟨fun _ => rfl, encS_one, hH, hblk⟩
  have h := SsItem.sort_any layItem (by kernel_rfl) R cfP (by rw [ltOf_cfP']; exact swoP) 108 #[] enterP (fun _ _ _ _ x y => order_prio x y _) c (enters_of Try.func160 (by kernel_rfl) rfl) (fun a b d W h1 h2 h3 h4 h5 => ins_item R a b d W h1 h2 h3 h4 h5) (by simp; omega)
  rw [ltOf_cfP'] at h
  exact h
/-! of no items -/
theorem ins_none (a : Option Addr) (c : Nat) (fv : Value) (w : World) : Calls Try.prog 160 #[.slice a 0 c, .int .i64 0, .int .i64 0, fv] w fun e w' => e = .returned (.tuple #[]) ∧ w' = w := by
  go_enter Try.func160, Try.ntmps160
  go_wp2_with fail
  go_loop [8] (fun s => s = .int .i64 1) (fun _ => 0)
  case atStart => rfl
  case round =>
    obtain rfl := hrel
    go_wp2
    go_end0
    exact ⟨rfl, rfl⟩
theorem stable_none (a : Option Addr) (c : Nat) (fv : Value) (w : World) : Calls Try.prog 144 #[.slice a 0 c, .int .i64 0, fv] w fun e w' => e = .returned (.tuple #[]) ∧ w' = w := by
  go_enter Try.func144, Try.ntmps144
  go_wp2_with fail
  go_loopw [7, 8] (fun x y wr => x = .int .i64 0 ∧ y = .int .i64 20 ∧ wr = w) (fun _ _ _ => 0)
  case atStart => exact ⟨rfl, rfl, rfl⟩
  case round =>
    obtain ⟨rfl, rfl, rfl⟩ := hrel
    go_wp2_with fail
    refine (ins_none a c fv wr).mono ?_
    rintro e w1 ⟨rfl, rfl⟩
    go_wp2_with fail
    go_loopw [6] (fun s wx => s = .int .i64 20 ∧ wx = w1) (fun _ _ => 0)
    case atStart => exact ⟨rfl, rfl⟩
    case round =>
      obtain ⟨rfl, rfl⟩ := hrel
      go_wp2
      go_end0
      exact ⟨rfl, rfl⟩
theorem stablef_none (a : Option Addr) (c : Nat) (fv : Value) (w : World) : Calls Try.prog 107 #[.slice a 0 c, fv] w fun e w' => e = .returned (.tuple #[]) ∧ w' = w := by
  go_enter Try.func107, Try.ntmps107
  go_wp2_with fail
  refine (stable_none a c fv w).mono ?_
  rintro e w1 ⟨rfl, rfl⟩
  go_wp2
  go_end0
  exact ⟨rfl, rfl⟩
set_option maxRecDepth 100000 in
/-- slices.Clone of any row of items -/
theorem clone_rd {w : World} {v : Value} {l : List (Int × Int)} (hr : RowP w v l) (hl : l.length ≤ 1000000) :
    Calls Try.prog 106 #[v] w fun e w' => ∃ v', e = .returned v' ∧ OwnT w' w.heap.size v' l ∧ Below w.heap.size w w' := by
  obtain ⟨a, c, rfl, hc, _⟩ := id hr
  have hrd := hr.rdg
  cases a with
  | none =>
    have hl0 : l = [] := by
      obtain ⟨ad, c', h1, h2, _⟩ := hrd.form
      injection h1 with h3 _ _
      exact List.eq_nil_of_length_eq_zero (h2 h3.symm)
    subst hl0
    have h := AnyE.slices_Clone_nil Try.cloneItem 0 c w
    refine Calls.mono h ?_
    rintro e w' ⟨rfl, rfl⟩
    exact ⟨_, rfl, ⟨rfl, .inl ⟨rfl, rfl⟩⟩, Below.refl _ _⟩
  | some x =>
    have hA := below_alloc (Below.refl _ w) (.cells #[] 97)
    have hO := Ap.own_made w 97 (size := 2) (Nat.le_refl w.heap.size)
    obtain ⟨v', w2, e0, e1, _, e2⟩ := Ap.run_app eltP 94 w.heap.size _ 0 [] hO _ l.length (flatS l) (hrd.mono hA) (by unfold maxLen; omega) (by omega) hA.size
    rw [List.nil_append, Nat.zero_add] at e1
    have E0 := Lib.hid e0
    have E1 := Lib.hid (show OwnT w2 w.heap.size v' l from e1)
    have E2 := Lib.hid (hA.trans e2)
    clear e0 e1 e2 hO hA hrd hr
    generalize l.length = n at *
    have q22 : ∀ W : World, (binOp .eql 94 (.slice (some x) n c) (.slice none 0 0)).run Try.prog W = .ok (.bool false) W := fun W => Lib.run_eql_slice_nil W _ _ (some x) n c 0 0 Try.underlying94
    go_enter Try.func106, Try.ntmps106
    go_upto_region 3 with fail
    refine wp_region_lit ?_
    refine wpList_yield (w' := w.alloc (.cells #[] 97)) (v := .slice (some ⟨w.heap.size, 0, none⟩) 0 0) rfl (by first | (go_simp; done) | (go_simp; rfl)) ?_
    refine wpList_yield (w' := w.alloc (.cells #[] 97)) (v := .slice (some x) n c) rfl (by first | (go_simp; done) | (go_simp; rfl)) ?_
    refine wpList_yield (w' := w2) (v := v') rfl (Ap.exec_app rfl (by go_simp) (by go_simp) E0.out) ?_
    refine wpList_yield (w' := w2) (v := v') rfl (by first | (go_simp; done) | (go_simp; rfl)) ?_
    rename_i hK
    refine hK _ _ ?_
    go_simp
    go_wp2_with fail
    go_ret
    exact ⟨v', rfl, E1.out, E2.out⟩
/-- **Sort of any items** -/
theorem psort_any {w : World} {v : Value} {l : List (Int × Int)} (hr : RowP w v l) (hl : l.length ≤ 1000000) :
    Calls Try.prog 47 #[v] w fun e w' => ∃ v', e = .returned v' ∧ OwnT w' w.heap.size v' (Ss.isort lessB l) ∧ Below w.heap.size w w' := by
  have HC := Lib.hid (clone_rd hr hl)
  have HL := Lib.hid hl
  clear hr hl
  go_enter Try.func47, Try.ntmps47
  go_wp2_with fail
  refine HC.out.mono ?_
  rintro e w1 ⟨v', rfl, hown, hb1⟩
  rcases hown.2 with ⟨hv, h0⟩ | ⟨g, cap, cur, hv, hg, hh, hn, hcap, hsz, htake⟩
  · have hl0 : l = [] := by
      cases l with
      | nil => rfl
      | cons p r => simp [flatS] at h0
    subst hl0
    subst hv
    have HO := Lib.hid hown
    have HB := Lib.hid hb1
    clear hown hb1 h0 HC
    go_wp2_with fail
    refine (stablef_none none 0 _ w1).mono ?_
    rintro e w2 ⟨rfl, rfl⟩
    go_wp2
    go_ret
    exact ⟨_, rfl, HO.out, HB.out⟩
  · subst hv
    have HH := Lib.hid (holdsS hh htake)
    have hgl : g < w1.heap.size := (Array.getElem?_eq_some_iff.1 hh).1
    have HO := Lib.hid (fun k os => own_sorted (k := k) (os := os) (l' := Ss.isort lessB l) hown (Ss.isort_length _ _) hb1.size)
    have HB := Lib.hid hb1
    have KS := Lib.hid (stable_items g cap l w1 HL.out HH.out hgl)
    clear hown hb1 hh hn hcap hsz htake hg HC HH hgl HL
    go_wp2_with fail
    refine KS.out.mono ?_
    rintro e w2 ⟨rfl, k, os, hw⟩
    have HF := Lib.hid (HO.out k os)
    rw [← hw] at HF
    clear hw
    go_wp2
    go_ret
    exact ⟨_, rfl, HF.out.1, HB.out.trans HF.out.2⟩
/-! items that came in -/
theorem cells_item : Try.prog.cellsOf 97 = 2 := by kernel_rfl
theorem items_open {H : Type} {enc : TypeId × Value → H} {W : World} {a : Option Addr} {len cap : Nat} {d : DataW H} {p : List MemPlace}
    (h : DataW.Trod enc Try.prog W 0 (fun _ => true) true 94 (.slice a len cap) d p) :
    ∃ zs : List (Int × Int), RowP W (.slice a len cap) zs ∧ zs.length = len := by
  obtain ⟨fuel, hf⟩ := h
  rcases Go.Deep.open_slice_pairs Try.underlying94 Try.underlying97 cells_item rfl rfl (by kernel_rfl) (by kernel_rfl) hf with ⟨hcs, _⟩ | ⟨x, l, c, m, n, V0, V1, D0, D1, P0, P1, hcs, _, hl, hm, hmm, hd, hcell⟩
  · simp [Value.cells] at hcs
    obtain ⟨rfl, rfl, rfl⟩ := hcs
    exact ⟨[], ⟨none, 0, rfl, by simp, fun h => by simp at h⟩, rfl⟩
  · simp [Value.cells] at hcs
    obtain ⟨rfl, rfl, rfl⟩ := hcs
    have hlm : len ≤ m := by rw [hmm]; split <;> omega
    have each : ∀ i, i < len → ∃ q : Int × Int, V0 i = .int .i64 q.1 ∧ V1 i = .int .i64 q.2 := by
      intro i hi
      obtain ⟨_, _, h0, h1⟩ := hcell i (by omega)
      obtain ⟨z0, e0, _⟩ := DataW.trod_int Try.underlying3 h0
      obtain ⟨z1, e1, _⟩ := DataW.trod_int Try.underlying3 h1
      exact ⟨(z0, z1), by simpa using e0, by simpa using e1⟩
    have hex : ∃ f : Nat → Int × Int, ∀ i, i < len → V0 i = .int .i64 (f i).1 ∧ V1 i = .int .i64 (f i).2 := by
      refine ⟨fun i => if hi : i < len then Classical.choose (each i hi) else (0, 0), fun i hi => ?_⟩
      simp only [dif_pos hi]
      exact Classical.choose_spec (each i hi)
    obtain ⟨f, hf2⟩ := hex
    have hlen : ((List.range len).map f).length = len := by simp
    refine ⟨(List.range len).map f, ⟨some x, cap, by rw [hlen], by rw [hlen]; exact hl, fun h0 => ?_⟩, hlen⟩
    rw [hlen] at h0
    obtain ⟨b, off, spot⟩ := x
    have hc := (hcell 0 (by omega)).1
    have hspot : spot = none := by simpa [Addr.add] using World.cell?_spot hc
    subst hspot
    have hplain : ∀ k, (⟨b, off, none⟩ : Addr).add k = ⟨b, off + k, none⟩ := fun k => by unfold Addr.add; split <;> simp_all
    have hg : ∀ k, k < len → ((List.range len).map f).getD k (0, 0) = f k := fun k hk => by simp [List.getD, hk]
    refine ⟨b, off, rfl, fun k hk => ?_⟩
    rw [hlen] at hk
    refine ⟨?_, ?_⟩
    · rw [hg k hk, ← (hf2 k hk).1, ← hplain]
      exact (hcell k (by omega)).1
    · rw [hg k hk, ← (hf2 k hk).2, Nat.add_assoc, ← hplain]
      exact (hcell k (by omega)).2.1
end Go.Proofs.Ytbhnjmdlagjfbaa
