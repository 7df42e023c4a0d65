/- Laws that belong together: Rows of steps that a call has made itself (layer 10). Condition: at most 2^40 of them.; Levels (layer 10): how a step is laid behind others (the literal in change). Condition: at most 2^42 steps.; Levels (layer 10): what change does to each run (its literal). Condition: at most 2^42 steps. -/
import Derived.Test.YtbhnjmdlagjfbaaMae
import Derived.Laws.OwnMore
import Derived.Laws.MakeOwn
import Derived.Maps.AppendAt
import Derived.OwnWalk
import Derived.Deep.DeepCutAuto
namespace Go.Proofs.Ytbhnjmdlagjfbaa
set_option linter.unusedVariables false
open Go.ChangeShapes Go.WideShapes Go.ChangeAt Go.RowKit

def flatU : List (Int × Int) → List Value
  | [] => []
  | p :: r => .int .i64 p.1 :: .int .i64 p.2 :: flatU r
theorem flatU_length : ∀ l, (flatU l).length = l.length * 2
  | [] => rfl
  | p :: r => by simp [flatU, flatU_length r]; omega
theorem flatU_append : ∀ a b, flatU (a ++ b) = flatU a ++ flatU b
  | [], b => rfl
  | p :: r, b => by simp [flatU, flatU_append r b]
theorem flatU_get : ∀ (l : List (Int × Int)) (k : Nat), k < l.length → (flatU l)[k * 2]? = some (.int .i64 (l.getD k (0, 0)).1) ∧ (flatU l)[k * 2 + 1]? = some (.int .i64 (l.getD k (0, 0)).2)
  | [], k, h => by simp at h
  | p :: r, 0, _ => by simp [flatU]
  | p :: r, k + 1, h => by
    have := flatU_get r k (by simpa using h)
    rw [show (k + 1) * 2 = k * 2 + 1 + 1 by omega]
    simpa [flatU] using this
theorem flatU_one (l : List (Int × Int)) : ∀ u ∈ flatU l, u.oneCell' = true := by
  induction l with
  | nil => intro u hu; simp [flatU] at hu
  | cons p r ih =>
    intro u hu
    simp only [flatU, List.mem_cons] at hu
    rcases hu with rfl | rfl | hu
    · rfl
    · rfl
    · exact ih u hu
theorem info_step : (Try.prog.info? 140).map (fun i => (i.zero, i.size, i.bytes)) = some (some (.agg #[.int .i64 0, .int .i64 0]), 2, 16) := by kernel_rfl
theorem info_parts3 {i? : Option TypeInfo} {z : Value} {s b : Nat} (h : i?.map (fun i => (i.zero, i.size, i.bytes)) = some (some z, s, b)) : ∃ i, i? = some i ∧ i.zero = some z ∧ i.size = s ∧ i.bytes = b := by
  cases i? with
  | none => cases h
  | some i => injection h with h; injection h with h1 h2; injection h2 with h2 h3; exact ⟨i, rfl, h1, h2, h3⟩
/-- a row of steps of the call's own, from block B on -/
def OwnU (w : World) (B : Nat) (v : Value) (l : List (Int × Int)) : Prop := w.ownsRow B 140 2 v l.length (flatU l)
theorem OwnU.blockOf {w w' : World} {B : Nat} {v : Value} {l : List (Int × Int)} (h : OwnU w B v l) (hb : ∀ k, v.ownBlock = some k → w'.heap[k]? = w.heap[k]?) : OwnU w' B v l := by
  refine ⟨h.1, ?_⟩
  rcases h.2 with hn | ⟨g, cap, cur, hv, hB, hg, rest⟩
  · exact .inl hn
  · refine .inr ⟨g, cap, cur, hv, hB, ?_, rest⟩
    rw [hb g (by rw [hv]; rfl)]; exact hg
theorem OwnU.lt {w : World} {B : Nat} {v : Value} {l : List (Int × Int)} (h : OwnU w B v l) {k : Nat} (hk : v.ownBlock = some k) : B ≤ k ∧ k < w.heap.size := by
  rcases h.2 with ⟨rfl, _⟩ | ⟨g, cap, cur, rfl, hB, hg, rest⟩
  · cases hk
  · simp only [Value.ownBlock, Option.some.injEq] at hk
    subst hk
    exact ⟨hB, (Array.getElem?_eq_some_iff.1 hg).1⟩
theorem OwnU.below {w w' : World} {B : Nat} {v : Value} {l : List (Int × Int)} (h : OwnU w B v l) (hb : Below w.heap.size w w') : OwnU w' B v l := h.blockOf fun k hk => hb.block k (h.lt hk).2
theorem OwnU.nil {w : World} {B : Nat} : OwnU w B (.slice none 0 0) [] := ⟨rfl, .inl ⟨rfl, rfl⟩⟩
theorem OwnU.form {w : World} {B : Nat} {v : Value} {l : List (Int × Int)} (h : OwnU w B v l) : ∃ ad c, v = .slice ad l.length c ∧ l.length ≤ c ∧ (0 < l.length → ∃ g, ad = some ⟨g, 0, none⟩ ∧ B ≤ g ∧ g < w.heap.size) := by
  rcases h.2 with ⟨e, h0⟩ | ⟨g, cap, cur, e, hB, hg, hc, _⟩
  · exact ⟨none, 0, by rw [e, h0], by omega, fun h => by omega⟩
  · exact ⟨_, cap, e, hc, fun _ => ⟨g, rfl, hB, (Array.getElem?_eq_some_iff.1 hg).1⟩⟩
theorem OwnU.row {w : World} {B g n c : Nat} {l : List (Int × Int)} (h : OwnU w B (.slice (some ⟨g, 0, none⟩) n c) l) : URow w g l := by
  have hn : n = l.length := by
    rcases h.2 with ⟨e, _⟩ | ⟨g', cap, cur, e, _⟩ <;> cases e <;> rfl
  subst hn
  intro k hk
  have h1 := flatU_get l k hk
  exact ⟨(h.cellAt (k * 2) (by omega)).trans h1.1, (h.cellAt (k * 2 + 1) (by omega)).trans h1.2⟩
section
variable {ops : Array Oper} {rest : List Oper} {o : Oper} {a : Act} {w : World} {Q : Exit → Act → World → Prop}
/-- APPEND of one step -/
theorem wpList_append_step (hgd : o.guard = none) (s x : Operand)
    (ho : o.op = .call { callee := .builtin .append, args := #[s, x], argTypes := #[135, 135] })
    (B : Nat) (v : Value) (l : List (Int × Int)) (hs : a.eval s = v) (hown : OwnU w B v l) (g c : Nat) (p : Int × Int) (hx : a.eval x = .slice (some ⟨g, 0, none⟩) 1 c)
    (c0 : w.cell? ⟨g, 0, none⟩ = some (.int .i64 p.1)) (c1 : w.cell? ⟨g, 1, none⟩ = some (.int .i64 p.2)) (h63 : l.length + 1 ≤ 4398046511104) (hB : B ≤ w.heap.size)
    (h : ∀ (v' : Value) (w' : World), OwnU w' B v' (l ++ [p]) → w.grownBy w' v.ownBlock → (v'.ownBlock = v.ownBlock ∨ v'.ownBlock = some w.heap.size) → wpList Try.prog ops Q rest (a.put o.dst v') w') : wpList Try.prog ops Q (o :: rest) a w := by
  obtain ⟨i0, hi, hz0, hz1, hz2⟩ := info_parts3 info_step
  refine wpList_append_own_at w hgd s x 135 ho B 140 i0 (.agg #[.int .i64 0, .int .i64 0]) 2 16 Try.underlying135 hi hz0 hz1 hz2 rfl (by decide) v l.length (flatU l) hs hown
      ⟨g, 0, none⟩ 1 c (flatU [p]) hx rfl (fun j u hj => ?_) (fun u hu => flatU_one _ u hu) (by unfold maxLen; omega) (by omega) hB (fun v' w' h1 h2 _ h4 => ?_)
  · match j, hj with
    | 0, hj => simp [flatU] at hj; subst hj; simpa [Addr.add] using c0
    | 1, hj => simp [flatU] at hj; subst hj; simpa [Addr.add] using c1
    | j + 2, hj => simp [flatU] at hj
  · exact h v' w' (by unfold OwnU; rw [List.length_append, flatU_append]; exact h1) h2 h4
/-- a row made with spare room -/
theorem wpList_make_step (hgd : o.guard = none) (x y : Operand) (ho : o.op = .makeSlice 135 x y) (c : Nat) (hx : a.eval x = .int .i64 0) (hy : a.eval y = .int .i64 (c : Int)) (hc : c ≤ 1099511627780)
    (h : ∀ cs, OwnU (w.alloc (.cells cs 140)) w.heap.size (.slice (some ⟨w.heap.size, 0, none⟩) 0 c) [] → wpList Try.prog ops Q rest (a.put o.dst (.slice (some ⟨w.heap.size, 0, none⟩) 0 c)) (w.alloc (.cells cs 140))) : wpList Try.prog ops Q (o :: rest) a w := by
  obtain ⟨i0, hi, hz0, hz1, hz2⟩ := info_parts3 info_step
  obtain ⟨w', hr, h1, h2⟩ := run_make_own (P := Try.prog) w w.heap.size 135 140 i0 (.agg #[.int .i64 0, .int .i64 0]) 2 Try.underlying135 hi hz0 hz1 .i64 .i64 c (by rw [hz2]; omega) (by unfold maxLen; omega) (Nat.le_refl _)
  have hr2 := run_make (P := Try.prog) w 135 140 i0 (.agg #[.int .i64 0, .int .i64 0]) Try.underlying135 hi hz0 .i64 .i64 0 (c : Int) (Int.le_refl _) (by omega) (by rw [hz2]; omega) (by omega)
  have he := hr.symm.trans hr2
  injection he with _ he
  subst he
  have h3 : OwnU _ w.heap.size (.slice (some ⟨w.heap.size, 0, none⟩) 0 c) [] := h1
  refine wpList_yield hgd ?_ (h _ h3)
  unfold execOp
  simp only [ho, hx, hy, Sem.run_bind, hr, Result.andThen_ok]
  rfl
end
theorem grown_below {w w' : World} {r : Option Nat} {B : Nat} (h : w.grownBy w' r) (hB : B ≤ w.heap.size) (hr : ∀ k, r = some k → B ≤ k) : Below B w w' := Below.grown (Below.refl _ _) h hB hr
end Go.Proofs.Ytbhnjmdlagjfbaa
namespace Go.Proofs.Ytbhnjmdlagjfbaa
set_option linter.unusedVariables false
open Go.ChangeShapes Go.WideShapes Go.ChangeAt Go.RowKit
attribute [local go_sem ↓] Go.wp_at_zero Go.wp_at_succ comesTo_value_eq comesTo_skip_eq comesTo_enter_eq

/-- a level laid from a time on, where it is another one than the last -/
def layU (l : List (Int × Int)) (at_ lv : Int) : List (Int × Int) := if l.getLast?.map (·.2) = some lv then l else l ++ [(at_, lv)]
theorem layU_len (l : List (Int × Int)) (a v : Int) : (layU l a v).length ≤ l.length + 1 := by unfold layU; split <;> simp
theorem last_getD {l : List (Int × Int)} (h : 0 < l.length) : l.getLast? = some (l.getD (l.length - 1) (0, 0)) := by
  rw [List.getLast?_eq_getElem?, List.getD_eq_getElem?_getD, List.getElem?_eq_getElem (by omega)]
  rfl
/-- a change under way: the span's box, the function's, the row's, lay's -/
structure ChgU (w W : World) (z : Nat) (f t : Int) (bf : FuncId) (bc : Array Value) (l : List (Int × Int)) : Prop where
  span : W.heap[w.heap.size]? = some (.cells #[.int .i64 f, .int .i64 t] 39 (0, 0))
  func : W.heap[w.heap.size + 1]? = some (.cells #[.func (.func bf) #[] bc] 160 (0, 0))
  row : ∃ v, W.heap[z + 1]? = some (.cells #[v] 135 (0, 0)) ∧ OwnU W (z) v l ∧ ∀ k, v.ownBlock = some k → k = z ∨ z + 3 ≤ k
  lay : W.heap[z + 2]? = some (.cells #[.func (.func 141) #[] #[.pointer (some ⟨z + 1, 0, none⟩)]] 201 (0, 0))
  bel : Below w.heap.size w W
  hz : w.heap.size + 1 < z
theorem ChgU.below {w W W' : World} {z : Nat} {f t : Int} {bf : FuncId} {bc : Array Value} {l : List (Int × Int)} (h : ChgU w W z f t bf bc l) (hb : Below W.heap.size W W') : ChgU w W' z f t bf bc l := by
  obtain ⟨v, hv, ho, hk⟩ := h.row
  exact ⟨(hb.block _ (Array.getElem?_eq_some_iff.1 h.span).1).trans h.span, (hb.block _ (Array.getElem?_eq_some_iff.1 h.func).1).trans h.func, ⟨v, (hb.block _ (Array.getElem?_eq_some_iff.1 hv).1).trans hv, ho.below hb, hk⟩, (hb.block _ (Array.getElem?_eq_some_iff.1 h.lay).1).trans h.lay, below_next h.bel hb, h.hz⟩
theorem ChgU.big {w W : World} {z : Nat} {f t : Int} {bf : FuncId} {bc : Array Value} {l : List (Int × Int)} (h : ChgU w W z f t bf bc l) : z + 3 ≤ W.heap.size := (Array.getElem?_eq_some_iff.1 h.lay).1
/-- the row has grown, and its box holds the new one -/
theorem ChgU.grow {w W W' : World} {z : Nat} {f t : Int} {bf : FuncId} {bc : Array Value} {l l' : List (Int × Int)} (h : ChgU w W z f t bf bc l) {v v' : Value} (hv : W.heap[z + 1]? = some (.cells #[v] 135 (0, 0)))
    (hk : ∀ k, v.ownBlock = some k → k = z ∨ z + 3 ≤ k) (ho' : OwnU W' (z) v' l') (hg : W.grownBy W' v.ownBlock) (hn : v'.ownBlock = v.ownBlock ∨ v'.ownBlock = some W.heap.size) :
    ChgU w (W'.setCell ⟨z + 1, 0, none⟩ v') z f t bf bc l' := by
  have hb := h.big
  have hz := h.hz
  have same : ∀ k, k < W.heap.size → (k < z ∨ k = z + 1 ∨ k = z + 2) → W'.heap[k]? = W.heap[k]? := fun k h1 h2 => hg.block k h1 fun e => by
    have := hk k e.symm
    omega
  have hlt := (Array.getElem?_eq_some_iff.1 hv).1
  have hw := (wrote_refl ((same (z + 1) hlt (by omega)).trans hv)).set 0 v'
  have hbel : Below w.heap.size w W' := h.bel.grown hg h.bel.size fun k e => by have := hk k e; omega
  refine ⟨(hw.rest _ (by omega)).trans ((same _ (by omega) (by omega)).trans h.span), (hw.rest _ (by omega)).trans ((same _ (by omega) (by omega)).trans h.func), ⟨v', hw.there, ho'.blockOf fun k e => hw.rest k ?_, fun k e => ?_⟩, (hw.rest _ (by omega)).trans ((same _ (by omega) (by omega)).trans h.lay), hw.below hbel (by omega), hz⟩
  · rcases hn with h1 | h1
    · have := hk k (h1 ▸ e); omega
    · rw [h1] at e; injection e with e; omega
  · rcases hn with h1 | h1
    · exact hk k (h1 ▸ e)
    · rw [h1] at e; injection e with e; omega
/-- a block that the row does not lie in -/
def NotRow (z : Nat) (W : World) (q : Nat) : Prop := ∀ v, W.heap[z + 1]? = some (.cells #[v] 135 (0, 0)) → v.ownBlock ≠ some q
set_option maxRecDepth 100000 in
set_option maxHeartbeats 4000000 in
theorem lay_any {w W : World} {z : Nat} {f t : Int} {bf : FuncId} {bc : Array Value} {l : List (Int × Int)} (h : ChgU w W z f t bf bc l) (hl : l.length + 1 ≤ 4398046511104) (a lv : Int) :
    Calls Try.prog 141 #[.int .i64 a, .int .i64 lv, .pointer (some ⟨z + 1, 0, none⟩)] W fun e w' => (∃ v, e = .returned v) ∧ ChgU w w' z f t bf bc (layU l a lv) ∧ ∀ q, z + 3 ≤ q → q < W.heap.size → NotRow z W q → w'.heap[q]? = W.heap[q]? ∧ NotRow z w' q := by
  obtain ⟨v, hv, ho, hk⟩ := h.row
  obtain ⟨ad, c, rfl, hc, had⟩ := ho.form
  have c0 := cell_of_block (o := 0) hv rfl
  have H := Lib.hid h
  have HV := Lib.hid hv
  have HO := Lib.hid ho
  have HK := Lib.hid hk
  have hbig := h.big
  have hz := h.hz
  clear h hk hv ho
  obtain ⟨res, hres⟩ : ∃ r, r = layU l a lv := ⟨_, rfl⟩
  rw [← hres]
  have HR := Lib.hid hres
  clear hres
  by_cases hz : l.length = 0
  case pos =>
    have E := Lib.hid (show res = l ++ [(a, lv)] by rw [HR.out]; obtain rfl := List.length_eq_zero_iff.1 hz; rfl)
    have hd : ((l.length : Int) == 0) = true := beq_iff_eq.2 (by omega)
    clear had hz
    go_enter Try.func141, Try.ntmps141
    go_upto_region 1 with fail
    refine wp_region_lit ?_
    refine wpList_yield (w' := W) (v := .slice ad l.length c) rfl (by first | (go_simp; done) | (go_simp; rfl)) ?_
    refine wpList_yield (w' := W) (v := .int .i64 a) rfl (by first | (go_simp; done) | (go_simp; rfl)) ?_
    refine wpList_yield (w' := W) (v := .int .i64 lv) rfl (by first | (go_simp; done) | (go_simp; rfl)) ?_
    refine wpList_yield (w' := W) (v := .agg #[.int .i64 a, .int .i64 lv]) rfl (by first | (go_simp; done) | (go_simp; rfl)) ?_
    refine wpList_yield (w' := W.alloc (.cells #[.int .i64 a, .int .i64 lv] 140)) (v := .slice (some ⟨W.heap.size, 0, none⟩) 1 1) rfl (by first | (go_simp; done) | (go_simp; rfl)) ?_
    have hA := below_alloc (Below.refl _ W) (.cells #[.int .i64 a, .int .i64 lv] 140)
    have hN := World.alloc_heap_new W (.cells #[.int .i64 a, .int .i64 lv] 140)
    have H1 := Lib.hid (H.out.below hA)
    have HV1 := Lib.hid ((hA.block _ (Array.getElem?_eq_some_iff.1 HV.out).1).trans HV.out)
    have HO1 := Lib.hid (HO.out.below hA)
    have n0 := cell_of_block (o := 0) hN rfl
    have n1 := cell_of_block (o := 1) hN rfl
    have HA := Lib.hid hA
    have HSZ := Lib.hid (show W.heap.size < (W.alloc (.cells #[.int .i64 a, .int .i64 lv] 140)).heap.size by simp)
    clear hA hN c0
    generalize W.alloc (.cells #[.int .i64 a, .int .i64 lv] 140) = W1 at *
    refine wpList_append_step rfl _ _ rfl (z) (.slice ad l.length c) l (by go_simp) HO1.out W.heap.size 1 (a, lv) (by go_simp) n0 n1 hl (by have := H1.out.big; omega) ?_
    intro v' W2 ho' hg hn
    have HG := Lib.hid (H1.out.grow HV1.out HK.out ho' hg hn)
    have HKP := Lib.hid (show ∀ q, z + 3 ≤ q → q < W.heap.size → NotRow z W q → (W2.setCell ⟨z + 1, 0, none⟩ v').heap[q]? = W.heap[q]? ∧ NotRow z (W2.setCell ⟨z + 1, 0, none⟩ v') q from fun q h1 h2 h3 => by
      have hq := h3 _ HV.out
      have hlt := (Array.getElem?_eq_some_iff.1 HV1.out).1
      have hbb := (hg.block (z + 1) hlt (fun e => by have := HK.out _ e.symm; omega)).trans HV1.out
      have hw := (wrote_refl hbb).set 0 v'
      refine ⟨(hw.rest q (by omega)).trans ((hg.block q (by have := HSZ.out; omega) (fun e => hq e.symm)).trans (HA.out.block q h2)), fun u hu => ?_⟩
      rw [hw.there] at hu
      have hu' : u = v' := by injection hu with hu; injection hu with hu; simpa using hu.symm
      rw [hu']
      rcases hn with h4 | h4
      · rw [h4]; exact hq
      · rw [h4]; intro e; injection e with e; have := HSZ.out; omega)
    have hbx : W2.heap[z + 1]? = some (.cells #[.slice ad l.length c] 135 (0, 0)) := (hg.block _ (by have := H1.out.big; omega) (fun e => by have := HK.out _ e.symm; omega)).trans HV1.out
    obtain ⟨ad', c', rfl, _, _⟩ := ho'.form
    rw [List.length_append] at HKP
    have b0 := cell_of_block (o := 0) hbx rfl
    have f0 := free_of_block 0 hbx
    clear hbx ho' hg hn n0 n1
    go_wp2_with fail
    exact bodyPost_end (v := .tuple #[]) (by simp [results, Try.results141, go_sem]) rfl ⟨⟨_, rfl⟩, by rw [E.out]; have h9 := HG.out; rw [List.length_append] at h9; exact h9, HKP.out⟩
  case neg =>
  have hlast := last_getD (show 0 < l.length by omega)
  obtain ⟨g, rfl, hg1, hg2⟩ := had (by omega)
  have hrow := HO.out.row (l.length - 1) (by omega)
  have hd : ((l.length : Int) == 0) = false := beq_eq_false_iff_ne.2 (by omega)
  have hw1 : IntKind.i64.wrap ((l.length : Int) - 1) = ((l.length - 1 : Nat) : Int) := by rw [IntKind.wrap_i64]; omega
  have hix : ((l.length - 1 : Nat) : Int) < (l.length : Int) := by omega
  have r1 := hrow.2
  have HLAST := Lib.hid (show l.getLast?.map (·.2) = some (l.getD (l.length - 1) (0, 0)).2 by rw [hlast]; rfl)
  clear hrow hlast had
  generalize (l.getD (l.length - 1) (0, 0)).2 = lx at *
  generalize hm : l.length - 1 = m at *
  clear hm
  cases hne : (lx != lv) with
  | true =>
    have E := Lib.hid (show res = l ++ [(a, lv)] by rw [HR.out]; unfold layU; rw [HLAST.out, if_neg (by intro h; injection h with h; rw [h] at hne; simp at hne)])
    have had : True := trivial
    obtain ⟨ad, hadd⟩ : ∃ ad, ad = some (⟨g, 0, none⟩ : Addr) := ⟨_, rfl⟩
    go_enter Try.func141, Try.ntmps141
    go_upto_region 1 with fail
    rw [← hadd] at c0 HV HO HK ⊢
    clear hadd r1 hw1 hix hd hne hz
    refine wp_region_lit ?_
    refine wpList_yield (w' := W) (v := .slice ad l.length c) rfl (by first | (go_simp; done) | (go_simp; rfl)) ?_
    refine wpList_yield (w' := W) (v := .int .i64 a) rfl (by first | (go_simp; done) | (go_simp; rfl)) ?_
    refine wpList_yield (w' := W) (v := .int .i64 lv) rfl (by first | (go_simp; done) | (go_simp; rfl)) ?_
    refine wpList_yield (w' := W) (v := .agg #[.int .i64 a, .int .i64 lv]) rfl (by first | (go_simp; done) | (go_simp; rfl)) ?_
    refine wpList_yield (w' := W.alloc (.cells #[.int .i64 a, .int .i64 lv] 140)) (v := .slice (some ⟨W.heap.size, 0, none⟩) 1 1) rfl (by first | (go_simp; done) | (go_simp; rfl)) ?_
    have hA := below_alloc (Below.refl _ W) (.cells #[.int .i64 a, .int .i64 lv] 140)
    have hN := World.alloc_heap_new W (.cells #[.int .i64 a, .int .i64 lv] 140)
    have H1 := Lib.hid (H.out.below hA)
    have HV1 := Lib.hid ((hA.block _ (Array.getElem?_eq_some_iff.1 HV.out).1).trans HV.out)
    have HO1 := Lib.hid (HO.out.below hA)
    have n0 := cell_of_block (o := 0) hN rfl
    have n1 := cell_of_block (o := 1) hN rfl
    have HA := Lib.hid hA
    have HSZ := Lib.hid (show W.heap.size < (W.alloc (.cells #[.int .i64 a, .int .i64 lv] 140)).heap.size by simp)
    clear hA hN c0
    generalize W.alloc (.cells #[.int .i64 a, .int .i64 lv] 140) = W1 at *
    refine wpList_append_step rfl _ _ rfl (z) (.slice ad l.length c) l (by go_simp) HO1.out W.heap.size 1 (a, lv) (by go_simp) n0 n1 hl (by have := H1.out.big; omega) ?_
    intro v' W2 ho' hg hn
    have HG := Lib.hid (H1.out.grow HV1.out HK.out ho' hg hn)
    have HKP := Lib.hid (show ∀ q, z + 3 ≤ q → q < W.heap.size → NotRow z W q → (W2.setCell ⟨z + 1, 0, none⟩ v').heap[q]? = W.heap[q]? ∧ NotRow z (W2.setCell ⟨z + 1, 0, none⟩ v') q from fun q h1 h2 h3 => by
      have hq := h3 _ HV.out
      have hlt := (Array.getElem?_eq_some_iff.1 HV1.out).1
      have hbb := (hg.block (z + 1) hlt (fun e => by have := HK.out _ e.symm; omega)).trans HV1.out
      have hw := (wrote_refl hbb).set 0 v'
      refine ⟨(hw.rest q (by omega)).trans ((hg.block q (by have := HSZ.out; omega) (fun e => hq e.symm)).trans (HA.out.block q h2)), fun u hu => ?_⟩
      rw [hw.there] at hu
      have hu' : u = v' := by injection hu with hu; injection hu with hu; simpa using hu.symm
      rw [hu']
      rcases hn with h4 | h4
      · rw [h4]; exact hq
      · rw [h4]; intro e; injection e with e; have := HSZ.out; omega)
    have hbx : W2.heap[z + 1]? = some (.cells #[.slice ad l.length c] 135 (0, 0)) := (hg.block _ (by have := H1.out.big; omega) (fun e => by have := HK.out _ e.symm; omega)).trans HV1.out
    obtain ⟨ad', c', rfl, _, _⟩ := ho'.form
    rw [List.length_append] at HKP
    have b0 := cell_of_block (o := 0) hbx rfl
    have f0 := free_of_block 0 hbx
    clear hbx ho' hg hn n0 n1
    go_wp2_with fail
    exact bodyPost_end (v := .tuple #[]) (by simp [results, Try.results141, go_sem]) rfl ⟨⟨_, rfl⟩, by rw [E.out]; have h9 := HG.out; rw [List.length_append] at h9; exact h9, HKP.out⟩
  | false =>
    have E := Lib.hid (show res = l by rw [HR.out]; unfold layU; rw [HLAST.out, if_pos (by rw [show lx = lv by simpa using hne])])
    go_enter Try.func141, Try.ntmps141
    go_wp2_with fail
    exact bodyPost_end (v := .tuple #[]) (by simp [results, Try.results141, go_sem]) rfl ⟨⟨_, rfl⟩, by rw [E.out]; exact H.out, fun q h1 h2 h3 => ⟨rfl, h3⟩⟩
end Go.Proofs.Ytbhnjmdlagjfbaa
namespace Go.Proofs.Ytbhnjmdlagjfbaa
set_option linter.unusedVariables false
open Go.ChangeShapes Go.WideShapes Go.ChangeAt Go.RowKit
attribute [local go_sem ↓] Go.wp_at_zero Go.wp_at_succ comesTo_value_eq comesTo_skip_eq comesTo_enter_eq

def step1 (t : Int × Int) (l : List (Int × Int)) (r : Int × Int × Int) : List (Int × Int) := if r.1 < t.1 then layU l r.1 r.2.2 else l
def step2 (t : Int × Int) (fn : Int → Int) (l : List (Int × Int)) (r : Int × Int × Int) : List (Int × Int) :=
  if clampI (cutI (r.1, r.2.1) t).2 ≤ clampI (cutI (r.1, r.2.1) t).1 then l else layU l (cutI (r.1, r.2.1) t).1 (fn r.2.2)
def step3 (t : Int × Int) (l : List (Int × Int)) (r : Int × Int × Int) : List (Int × Int) := if t.2 < r.2.1 then layU l (maxU r.1 t.2) r.2.2 else l
/-- one span of one level taken into the new steps -/
def stepU (t : Int × Int) (fn : Int → Int) (l : List (Int × Int)) (r : Int × Int × Int) : List (Int × Int) := step3 t (step2 t fn (step1 t l r) r) r
theorem step1_len (t : Int × Int) (l : List (Int × Int)) (r : Int × Int × Int) : (step1 t l r).length ≤ l.length + 1 := by unfold step1; split; exact layU_len _ _ _; omega
theorem step2_len (t : Int × Int) (fn : Int → Int) (l : List (Int × Int)) (r : Int × Int × Int) : (step2 t fn l r).length ≤ l.length + 1 := by unfold step2; split; omega; exact layU_len _ _ _
theorem step3_len (t : Int × Int) (l : List (Int × Int)) (r : Int × Int × Int) : (step3 t l r).length ≤ l.length + 1 := by unfold step3; split; exact layU_len _ _ _; omega
theorem stepU_len (t : Int × Int) (fn : Int → Int) (l : List (Int × Int)) (r : Int × Int × Int) : (stepU t fn l r).length ≤ l.length + 3 := by
  unfold stepU
  have h1 := step1_len t l r
  have h2 := step2_len t fn (step1 t l r) r
  have h3 := step3_len t (step2 t fn (step1 t l r) r) r
  omega
/-- a change under way that keeps a box beside it -/
structure ChgK (w W : World) (z : Nat) (f t : Int) (bf : FuncId) (bc : Array Value) (l : List (Int × Int)) (q : Nat) (o : Obj) : Prop where
  chg : ChgU w W z f t bf bc l
  box : W.heap[q]? = some o
  notRow : NotRow z W q
theorem NotRow.below {z : Nat} {W W' : World} {q : Nat} (h : NotRow z W q) (hl : z + 1 < W.heap.size) (hb : Below W.heap.size W W') : NotRow z W' q := fun v hv => h v (by rw [← hb.block _ hl]; exact hv)
theorem ChgK.below {w W W' : World} {z : Nat} {f t : Int} {bf : FuncId} {bc : Array Value} {l : List (Int × Int)} {q : Nat} {o : Obj} (h : ChgK w W z f t bf bc l q o) (hb : Below W.heap.size W W') : ChgK w W' z f t bf bc l q o :=
  ⟨h.chg.below hb, (hb.block _ (Array.getElem?_eq_some_iff.1 h.box).1).trans h.box, h.notRow.below (by have := h.chg.big; omega) hb⟩
theorem notRow_new {w W : World} {z : Nat} {f t : Int} {bf : FuncId} {bc : Array Value} {l : List (Int × Int)} (h : ChgU w W z f t bf bc l) {q : Nat} (hq : W.heap.size ≤ q) : NotRow z W q := fun v hv e => by
  obtain ⟨v', hv', ho, _⟩ := h.row
  rw [hv] at hv'
  have : v = v' := by injection hv' with hv'; injection hv' with hv'; simpa using hv'
  rw [this] at e
  have := (ho.lt e).2
  omega
theorem lay_keeps {w W : World} {z : Nat} {f t : Int} {bf : FuncId} {bc : Array Value} {l : List (Int × Int)} {q : Nat} {o : Obj} (h : ChgK w W z f t bf bc l q o) (hq : z + 3 ≤ q) (hl : l.length + 1 ≤ 4398046511104) (a lv : Int) :
    Calls Try.prog 141 #[.int .i64 a, .int .i64 lv, .pointer (some ⟨z + 1, 0, none⟩)] W fun e w' => (∃ v, e = .returned v) ∧ ChgK w w' z f t bf bc (layU l a lv) q o := by
  refine (lay_any h.chg hl a lv).mono ?_
  rintro e w' ⟨hv, hc, hk⟩
  have := hk q hq (Array.getElem?_eq_some_iff.1 h.box).1 h.notRow
  exact ⟨hv, hc, this.1.trans h.box, this.2⟩
set_option maxRecDepth 100000 in
set_option maxHeartbeats 8000000 in
theorem visit_any {w W : World} {z : Nat} {f t : Int} {bf : FuncId} {bc : Array Value} {l : List (Int × Int)} (h : ChgU w W z f t bf bc l) (hl : l.length + 3 ≤ 4398046511104) (fn : Int → Int) (hE : Go.Proofs.Enters Try.prog bf)
    (hF : ∀ a W', Below w.heap.size w W' → Calls Try.prog bf (#[.int .i64 a] ++ bc) W' fun e w' => e = .returned (.int .i64 (fn a)) ∧ W' = w') (rf rt lv : Int) :
    Calls Try.prog 142 #[.agg #[.int .i64 rf, .int .i64 rt], .int .i64 lv, .pointer (some ⟨w.heap.size, 0, none⟩), .pointer (some ⟨z + 2, 0, none⟩), .pointer (some ⟨w.heap.size + 1, 0, none⟩)] W
      fun e w' => e = .returned (.bool true) ∧ ChgU w w' z f t bf bc (stepU (f, t) fn l (rf, rt, lv)) := by
  have hmx : Try.prog.follows .mixedOrders = true := by kernel_rfl
  unfold Go.Proofs.Enters at hE
  have HF := Lib.hid hF
  obtain ⟨l1, hl1⟩ : ∃ x, x = step1 (f, t) l (rf, rt, lv) := ⟨_, rfl⟩
  obtain ⟨l2, hl2⟩ : ∃ x, x = step2 (f, t) fn l1 (rf, rt, lv) := ⟨_, rfl⟩
  obtain ⟨l3, hl3⟩ : ∃ x, x = step3 (f, t) l2 (rf, rt, lv) := ⟨_, rfl⟩
  have hst : stepU (f, t) fn l (rf, rt, lv) = l3 := by rw [hl3, hl2, hl1]; rfl
  rw [hst]
  have n1 : l1.length ≤ l.length + 1 := by rw [hl1]; exact step1_len _ _ _
  have n2 : l2.length ≤ l1.length + 1 := by rw [hl2]; exact step2_len _ _ _ _
  have L1 := Lib.hid hl1
  have L2 := Lib.hid hl2
  have L3 := Lib.hid hl3
  clear hF hst hl1 hl2 hl3
  have hA := below_alloc (Below.refl _ W) (.cells #[.int .i64 rf, .int .i64 rt] 39)
  have hN := World.alloc_heap_new W (.cells #[.int .i64 rf, .int .i64 rt] 39)
  have hbig := h.big
  have hnr := (notRow_new h (Nat.le_refl W.heap.size)).below (by omega) hA
  have H1 := Lib.hid (show ChgK w _ z f t bf bc l W.heap.size _ from ⟨h.below hA, hN, hnr⟩)
  have hqb : z + 3 ≤ W.heap.size := hbig
  clear h hA hN hnr hbig
  go_enter Try.func142, Try.ntmps142
  go_upto_region 1 with fail
  generalize W.alloc (.cells #[.int .i64 rf, .int .i64 rt] 39) = W1 at *
  generalize W.heap.size = q at *
  have s0 := cell_of_block (o := 0) H1.out.chg.span rfl
  have r0 := cell_of_block (o := 0) H1.out.box rfl
  go_upto_if 13 with fail
  go_cut [] (fun wx => ChgK w wx z f t bf bc l1 q (.cells #[.int .i64 rf, .int .i64 rt] 39 (0, 0)))
  case first =>
    cases hc : decide (rf < f) with
    | true =>
      have E := Lib.hid (show l1 = layU l rf lv by rw [L1.out]; exact if_pos (of_decide_eq_true hc))
      have y0 := cell_of_block (o := 0) H1.out.chg.lay rfl
      go_wp2_with fail
      refine (lay_keeps H1.out hqb (by omega) rf lv).mono ?_
      rintro e W2 ⟨⟨_, rfl⟩, hk⟩
      have HK := Lib.hid hk
      clear hk
      go_wp2_with fail
      go_meet
      rw [E.out]; exact HK.out
    | false =>
      have E := Lib.hid (show l1 = l by rw [L1.out]; exact if_neg (of_decide_eq_false hc))
      go_wp2_with fail
      go_meet
      rw [E.out]; exact H1.out
  case rest =>
  have H2 := Lib.hid hcut
  clear hcut H1 s0 r0
  have s0 := cell_of_block (o := 0) H2.out.chg.span rfl
  have s1 := cell_of_block (o := 1) H2.out.chg.span rfl
  have r0 := cell_of_block (o := 0) H2.out.box rfl
  have r1 := cell_of_block (o := 1) H2.out.box rfl
  have L2b := Lib.hid (show l2 = if clampI (cutI (rf, rt) (f, t)).2 ≤ clampI (cutI (rf, rt) (f, t)).1 then l1 else layU l1 (cutI (rf, rt) (f, t)).1 (fn lv) from L2.out)
  have KC := Lib.hid (fun W => cut_any rf rt f t W)
  clear L2
  generalize cutI (rf, rt) (f, t) = ci at *
  obtain ⟨c1, c2⟩ := ci
  simp only at KC L2b
  have KE := Lib.hid (fun W => empty_any c1 c2 W)
  go_upto_region 3 with fail
  go_wp2_with fail
  refine (KC.out _).mono ?_
  rintro e W3 ⟨rfl, hb3⟩
  have H3 := Lib.hid (H2.out.below hb3)
  clear hb3 H2 s0 s1 r0 r1
  have hnp3 := notRow_new H3.out.chg (Nat.le_refl W3.heap.size)
  have hp5 := H3.out.chg.big
  have hA := below_alloc (Below.refl _ W3) (.cells #[.int .i64 c1, .int .i64 c2] 39)
  have hnp4 := hnp3.below (by omega) hA
  clear hnp3
  have hN := World.alloc_heap_new W3 (.cells #[.int .i64 c1, .int .i64 c2] 39)
  have H4 := Lib.hid (H3.out.below hA)
  clear hA
  go_upto_region 4 with fail
  generalize W3.alloc (.cells #[.int .i64 c1, .int .i64 c2] 39) = W4 at *
  obtain ⟨p, hp⟩ : ∃ p, p = W3.heap.size := ⟨_, rfl⟩
  rw [← hp] at hN hnp4 hp5 ⊢
  clear hp H3
  have i0 := cell_of_block (o := 0) hN rfl
  have i1 := cell_of_block (o := 1) hN rfl
  go_wp2_with fail
  refine (KE.out _).mono ?_
  rintro e W5 ⟨rfl, hb5⟩
  have H5 := Lib.hid (H4.out.below hb5)
  have HI := Lib.hid ((hb5.block _ (Array.getElem?_eq_some_iff.1 hN).1).trans hN)
  have HNP := Lib.hid (hnp4.below (by have := H4.out.chg.big; omega) hb5)
  clear hb5 hN H4 i0 i1 hnp4
  go_upto_if 24 with fail
  go_cut [] (fun wx => ChgK w wx z f t bf bc l2 q (.cells #[.int .i64 rf, .int .i64 rt] 39 (0, 0)))
  case first =>
    cases hc : decide (clampI c2 ≤ clampI c1) with
    | true =>
      have E := Lib.hid (show l2 = l1 by rw [L2b.out]; exact if_pos (of_decide_eq_true hc))
      go_wp2_with fail
      go_meet
      rw [E.out]; exact H5.out
    | false =>
      have E := Lib.hid (show l2 = layU l1 c1 (fn lv) by rw [L2b.out]; exact if_neg (of_decide_eq_false hc))
      clear hc
      go_upto_region 5 with fail
      have H6 := Lib.hid (H5.out.below (show Below W5.heap.size W5 W5.drew from (Below.refl _ _).drew))
      have HNP6 := Lib.hid (HNP.out.below (by have := H5.out.chg.big; omega) (show Below W5.heap.size W5 W5.drew from (Below.refl _ _).drew))
      have HI6 := Lib.hid (show W5.drew.heap[p]? = _ from HI.out)
      have y0 := cell_of_block (o := 0) H6.out.chg.lay rfl
      have b0 := cell_of_block (o := 0) H6.out.chg.func rfl
      have i0 : W5.drew.cell? ⟨p, 0, none⟩ = some (.int .i64 c1) := cell_of_block (o := 0) HI.out rfl
      refine wp_region_held (S := fun X => X.cell? ⟨z + 2, 0, none⟩ = some (.func (.func 141) #[] #[.pointer (some ⟨z + 1, 0, none⟩)]) ∧ X.cell? ⟨w.heap.size + 1, 0, none⟩ = some (.func (.func bf) #[] bc) ∧ X.cell? ⟨p, 0, none⟩ = some (.int .i64 c1)) hmx ?_
      change wpAnyH _ _ _ _ _ 7 _ _ W5.drew
      generalize W5.drew = W6 at *
      have hSS : W6.cell? ⟨z + 2, 0, none⟩ = some (.func (.func 141) #[] #[.pointer (some ⟨z + 1, 0, none⟩)]) ∧ W6.cell? ⟨w.heap.size + 1, 0, none⟩ = some (.func (.func bf) #[] bc) ∧ W6.cell? ⟨p, 0, none⟩ = some (.int .i64 c1) := ⟨y0, b0, i0⟩
      clear y0 b0 i0
      refine wpAnyH_take (i := 0) (v := .func (.func 141) #[] #[.pointer (some ⟨z + 1, 0, none⟩)]) rfl (by decide +kernel) (by decide +kernel) (by decide +kernel) (fun _ _ _ h => h) (.inl ⟨by first | rfl | (go_simp; done), fun X hX => by have hx1 := hX.1; have hx2 := hX.2.1; have hx3 := hX.2.2; clear hX; first | (go_simp; done) | (go_simp; rfl)⟩) hSS ?_
      refine wpAnyH_take (i := 1) (v := .pointer (some ⟨p, 0, none⟩)) rfl (by decide +kernel) (by decide +kernel) (by decide +kernel) (fun _ _ _ h => h) (.inl ⟨by first | rfl | (go_simp; done), fun X hX => by have hx1 := hX.1; have hx2 := hX.2.1; have hx3 := hX.2.2; clear hX; first | (go_simp; done) | (go_simp; rfl)⟩) hSS ?_
      refine wpAnyH_take (i := 2) (v := .int .i64 c1) rfl (by decide +kernel) (by decide +kernel) (by decide +kernel) (fun _ _ _ h => h) (.inl ⟨by first | rfl | (go_simp; done), fun X hX => by have hx1 := hX.1; have hx2 := hX.2.1; have hx3 := hX.2.2; clear hX; first | (go_simp; done) | (go_simp; rfl)⟩) hSS ?_
      refine wpAnyH_take (i := 3) (v := .func (.func bf) #[] bc) rfl (by decide +kernel) (by decide +kernel) (by decide +kernel) (fun _ _ _ h => h) (.inl ⟨by first | rfl | (go_simp; done), fun X hX => by have hx1 := hX.1; have hx2 := hX.2.1; have hx3 := hX.2.2; clear hX; first | (go_simp; done) | (go_simp; rfl)⟩) hSS ?_
      refine wpAnyH_take (i := 4) (v := .int .i64 lv) rfl (by decide +kernel) (by decide +kernel) (by decide +kernel) (fun _ _ _ h => h) (.inl ⟨by first | rfl | (go_simp; done), fun X hX => by have hx1 := hX.1; have hx2 := hX.2.1; have hx3 := hX.2.2; clear hX; first | (go_simp; done) | (go_simp; rfl)⟩) hSS ?_
      refine anyH_call (i := 5) (by decide +kernel) rfl (by first | rfl | (go_simp; done)) (by go_simp) (HF.out lv _ H6.out.chg.bel) ?_
      rintro e W7 ⟨rfl, rfl⟩
      refine ⟨_, rfl, hSS, ?_⟩
      refine anyH_call (i := 6) (by decide +kernel) rfl (by first | rfl | (go_simp; done)) (by go_simp) (lay_any H6.out.chg (by omega) c1 (fn lv)) ?_
      rintro e W8 ⟨⟨v8, rfl⟩, hc8, hk8⟩
      have hq8 := hk8 q hqb (Array.getElem?_eq_some_iff.1 H6.out.box).1 H6.out.notRow
      have hp8 := hk8 p (by omega) (Array.getElem?_eq_some_iff.1 HI6.out).1 HNP6.out
      have HC8 := Lib.hid (show ChgK w W8 z f t bf bc (layU l1 c1 (fn lv)) q _ from ⟨hc8, hq8.1.trans H6.out.box, hq8.2⟩)
      refine ⟨_, rfl, ⟨cell_of_block (o := 0) hc8.lay rfl, cell_of_block (o := 0) hc8.func rfl, cell_of_block (o := 0) (hp8.1.trans HI6.out) rfl⟩, ?_⟩
      clear hc8 hk8 hq8 hp8 hSS
      refine wpAnyH_done (by decide +kernel) ?_ _
      go_wp2_with fail
      go_meet
      rw [E.out]; exact HC8.out
  case rest =>
  have H7 := Lib.hid hcut
  clear hcut
  have s1 := cell_of_block (o := 1) H7.out.chg.span rfl
  have r0 := cell_of_block (o := 0) H7.out.box rfl
  have r1 := cell_of_block (o := 1) H7.out.box rfl
  have L3b := Lib.hid (show l3 = if t < rt then layU l2 (maxU rf t) lv else l2 from L3.out)
  clear L3
  have y0 := cell_of_block (o := 0) H7.out.chg.lay rfl
  cases hc : decide (t < rt) with
  | false =>
    have hc' : decide (rt > t) = false := hc
    have E := Lib.hid (show l3 = l2 by rw [L3b.out]; exact if_neg (of_decide_eq_false hc))
    go_wp2_with fail
    go_ret
    exact ⟨rfl, by rw [E.out]; exact H7.out.chg⟩
  | true =>
    have hc' : decide (rt > t) = true := hc
    have E := Lib.hid (show l3 = layU l2 (maxU rf t) lv by rw [L3b.out]; exact if_pos (of_decide_eq_true hc))
    have hm : (rf < t ∧ maxU rf t = t) ∨ (t ≤ rf ∧ maxU rf t = rf) := by
      by_cases h : rf < t
      · exact .inl ⟨h, if_pos h⟩
      · exact .inr ⟨by omega, if_neg h⟩
    have s1b := s1
    generalize maxU rf t = mx at *
    rcases hm with ⟨h1, rfl⟩ | ⟨h1, rfl⟩
    all_goals (
      go_upto_region 7 with fail
      go_wp2_with fail
      all_goals (
        refine (lay_keeps H7.out hqb (by omega) _ lv).mono ?_
        rintro e W9 ⟨⟨_, rfl⟩, hk⟩
        have HK := Lib.hid hk
        clear hk
        go_wp2_with fail
        go_ret
        exact ⟨rfl, by rw [E.out]; first | exact HK.out.chg | (have h9 := HK.out.chg; simpa using h9)⟩))
end Go.Proofs.Ytbhnjmdlagjfbaa
