/- Laws that belong together: Reservations (layer 18): where ResvPlays stands between two steps: the program's list, the document's beside it. No condition.; ResvPlays walked, at any levels, acts and bytes (layer 18). No condition. -/
import Derived.Test.YtbhnjmdlagjfbaaMal
import Derived.Test.YtbhnjmdlagjfbaaMRwD
import Derived.Test.YtbhnjmdlagjfbaaMap
import Derived.Test.YtbhnjmdlagjfbaaMUrc
import Derived.Test.YtbhnjmdlagjfbaaMam
namespace Go.Proofs.Ytbhnjmdlagjfbaa
set_option linter.unusedVariables false
open Go.ChangeShapes Go.WideShapes Go.ChangeAt Go.RowKit
attribute [local go_sem ↓] Go.wp_at_zero Go.wp_at_succ comesTo_value_eq comesTo_skip_eq comesTo_enter_eq

theorem not_row {w : World} {B F : Nat} {l : List RV} {n : Int} (h : Rs w B F l n) {b : Nat} {cs : Array Value} {T : TypeId} {m : Nat × Nat} (hb : w.heap[b]? = some (.cells cs T m)) (hT : T ≠ 125) : ¬ RowAt w F b := by
  rintro ⟨k, c, x, hx⟩
  obtain ⟨v, h1, h2, _⟩ := h.at_
  rw [h1] at hx
  simp only [Option.some.injEq, Obj.cells.injEq, Array.mk.injEq, List.cons.injEq, and_true, true_and] at hx
  obtain ⟨rfl, _⟩ := hx
  obtain ⟨cs', m', e⟩ := h2.own (g := b) rfl
  rw [hb] at e
  simp only [Option.some.injEq, Obj.cells.injEq] at e
  exact hT e.2.1
theorem not_F {w : World} {B F : Nat} {l : List RV} {n : Int} (h : Rs w B F l n) {b : Nat} {cs : Array Value} {T : TypeId} {m : Nat × Nat} (hb : w.heap[b]? = some (.cells cs T m)) (hT : T ≠ 111) : b ≠ F := by
  rintro rfl
  obtain ⟨v, h1, _, _⟩ := h.at_
  rw [hb] at h1
  simp only [Option.some.injEq, Obj.cells.injEq] at h1
  exact hT h1.2.1
/-- a block of another type stays under a call of the program's list -/
theorem FrL.keep {w w' : World} {B F : Nat} {l : List RV} {n : Int} (h : FrL F w w') (hr : Rs w B F l n) {b : Nat} {cs : Array Value} {T : TypeId} {m : Nat × Nat} (hb : w.heap[b]? = some (.cells cs T m)) (h1 : T ≠ 125) (h2 : T ≠ 111) : w'.heap[b]? = w.heap[b]? :=
  (h.block b (Array.getElem?_eq_some_iff.1 hb).1 (not_F hr hb h2) (not_row hr hb h1)).1
theorem RdR.frl {w w' : World} {B F : Nat} {l dl : List RV} {n : Int} {v : Value} (h : RdR w v dl) (ht : Ty18 w v) (hf : FrL F w w') (hr : Rs w B F l n) : RdR w' v dl ∧ Ty18 w' v := by
  have key : ∀ g, v.ownBlock = some g → w'.heap[g]? = w.heap[g]? := fun g hg => by
    obtain ⟨cs, m, e⟩ := ht g hg
    exact hf.keep hr e (by decide) (by decide)
  refine ⟨?_, fun g hg => by
    obtain ⟨cs, m, e⟩ := ht g hg
    exact ⟨cs, m, (key g hg).trans e⟩⟩
  obtain ⟨ad, c, rfl, h2, h3, h4⟩ := h
  refine ⟨ad, c, rfl, h2, h3, fun h0 => ?_⟩
  obtain ⟨g, rfl, h6, h7⟩ := h4 h0
  exact ⟨g, rfl, Nat.lt_of_lt_of_le h6 hf.size, h7.mono (key g rfl)⟩
/-- between two steps -/
structure Pl18 (w1 X : World) (F Q : Nat) (lst : List RV) (nx : Int) (dl : List RV) (dn : Int) (vL : Value) : Prop where
  rs : Rs X F F lst nx
  rg : RG lst nx
  dq : X.heap[Q]? = some (.cells #[.int .i64 dn, vL] 35 (0, 0))
  rd : RdR X vL dl
  ty : Ty18 X vL
  fq : F < Q
  bel : Below w1.heap.size w1 X
theorem Pl18.below {w1 X X' : World} {F Q : Nat} {lst dl : List RV} {nx dn : Int} {vL : Value} (h : Pl18 w1 X F Q lst nx dl dn vL) (hb : Below X.heap.size X X') : Pl18 w1 X' F Q lst nx dl dn vL :=
  ⟨h.rs.below hb, h.rg, (hb.block _ (Array.getElem?_eq_some_iff.1 h.dq).1).trans h.dq, h.rd.below hb, h.ty.below hb, h.fq, below_next h.bel hb⟩
/-- a call that turns the program's list -/
theorem Pl18.call {w1 X X' : World} {F Q : Nat} {lst lst' dl : List RV} {nx nx' dn : Int} {vL : Value} (h : Pl18 w1 X F Q lst nx dl dn vL) (hF : F = w1.heap.size) (hf : FrL F X X') (hr : Rs X' F F lst' nx') (hg : RG lst' nx') : Pl18 w1 X' F Q lst' nx' dl dn vL := by
  obtain ⟨r1, r2⟩ := h.rd.frl h.ty hf h.rs
  exact ⟨hr, hg, (hf.keep h.rs h.dq (by decide) (by decide)).trans h.dq, r1, r2, h.fq, h.bel.trans (by rw [← hF]; exact hf.below h.rs (Nat.le_refl _))⟩
/-- the document's list's turn -/
theorem Pl18.turn {w1 X X' : World} {F Q : Nat} {lst dl dl' : List RV} {nx dn dn' : Int} {vL v' : Value} (h : Pl18 w1 X F Q lst nx dl dn vL) (hF : F = w1.heap.size) (hw : WroteTo Q 35 #[.int .i64 dn', v'] X X') (hrd : RdR X v' dl') (hty : Ty18 X v') : Pl18 w1 X' F Q lst nx dl' dn' v' := by
  have hQ := h.fq
  have hb : ∀ g : Nat, (∃ (cs : Array Value) (m : Nat × Nat), X.heap[g]? = some (Obj.cells cs 118 m)) → X'.heap[g]? = X.heap[g]? := fun g ⟨cs, m, e⟩ => hw.rest g (by
    rintro rfl
    rw [h.dq] at e
    simp only [Option.some.injEq, Obj.cells.injEq] at e
    exact absurd e.2.1 (by decide))
  refine ⟨?_, h.rg, hw.there, ?_, ?_, h.fq, hw.below h.bel (by omega)⟩
  · obtain ⟨v, h1, h2, h3⟩ := h.rs.at_
    refine ⟨⟨v, (hw.rest F (by omega)).trans h1, h2.keep fun k hk => ?_, h3⟩, h.rs.pos, h.rs.len⟩
    obtain ⟨cs, m, e⟩ := h2.own hk
    refine hw.rest k ?_
    rintro rfl
    rw [h.dq] at e
    simp only [Option.some.injEq, Obj.cells.injEq] at e
    exact absurd e.2.1 (by decide)
  · obtain ⟨ad, c, rfl, h2, h3, h4⟩ := hrd
    refine ⟨ad, c, rfl, h2, h3, fun h0 => ?_⟩
    obtain ⟨g, rfl, h6, h7⟩ := h4 h0
    exact ⟨g, rfl, by rw [hw.size]; exact h6, h7.mono (hb g (hty g rfl))⟩
  · exact fun g hg => by
      obtain ⟨cs, m, e⟩ := hty g hg
      exact ⟨cs, m, (hb g ⟨cs, m, e⟩).trans e⟩
theorem RG.drop {l : List RV} {n : Int} (h : RG l n) (i : Int) : RG (dropR l i).2 n := by
  unfold dropR
  split
  · exact h
  · exact ⟨fun r hr => h.may r (List.mem_filter.1 hr).1, h.inc.filter _, h.pos, Nat.le_trans (List.length_filter_le _ _) h.len⟩
theorem RG.past {l : List RV} {n : Int} (h : RG l n) (now : Int) : RG (pastL now l) n :=
  ⟨fun r hr => h.may r (List.mem_filter.1 hr).1, h.inc.filter _, h.pos, Nat.le_trans (List.length_filter_le _ _) h.len⟩
theorem RG.okW {l : List RV} {n : Int} (h : RG l n) : okW l := fun r hr => (h.may r hr).2.2
/-- levels that few changes made are few -/
theorem levels_few {first : Int} {L : List (Int × Int)} {C : List ChgC} (h : LikeU first L C) (hr : RightU L) : L.length ≤ 2 * C.length + 1 := by
  rw [← like_list h hr]
  refine Nat.le_trans ?_ (timesU_len C)
  unfold listR
  have : ∀ (T : List Int) (l : List (Int × Int)), (T.foldl (fun l t => layU l t (ratU first C t)) l).length ≤ l.length + T.length := by
    intro T
    induction T with
    | nil => intro l; simp
    | cons t r ih =>
      intro l
      rw [List.foldl_cons, List.length_cons]
      have h1 := ih (layU l t (ratU first C t))
      have h2 := layU_len l t (ratU first C t)
      omega
  have := this (timesU C) []
  simpa using this
end Go.Proofs.Ytbhnjmdlagjfbaa
namespace Go.Proofs.Ytbhnjmdlagjfbaa
set_option linter.unusedVariables false
open Go.ChangeShapes Go.WideShapes Go.ChangeAt Go.RowKit
attribute [local go_sem ↓] Go.wp_at_zero Go.wp_at_succ comesTo_value_eq comesTo_skip_eq comesTo_enter_eq Rl.comesToR_value_eq Rl.comesToR_skip_eq Rl.comesToR_enter_eq

theorem R18.ActR.Cells.below2 {w w' : World} {b o : Nat} {a : R18.ActR} (h : R18.ActR.Cells w b o a) (hb : Below w.heap.size w w') : R18.ActR.Cells w' b o a :=
  ⟨(hb.cell (World.block_lt_of_cell? w _ h.c0)).trans h.c0, (hb.cell (World.block_lt_of_cell? w _ h.c1)).trans h.c1, (hb.cell (World.block_lt_of_cell? w _ h.c2)).trans h.c2, (hb.cell (World.block_lt_of_cell? w _ h.c3)).trans h.c3, h.n64, h.f64, h.t64⟩
theorem OwnZ.cells {w : World} {B : Nat} {a : Option Addr} {n c : Nat} {l : List Int} (h : w.ownsRow B 3 1 (.slice a n c) l.length (l.map (Value.int .i64))) : 0 < l.length → ∃ g, a = some ⟨g, 0, none⟩ ∧ ∀ k, k < l.length → w.cell? ⟨g, k, none⟩ = some (.int .i64 (l.getD k 0)) := by
  intro h0
  rcases h.2 with ⟨_, h1⟩ | ⟨g, cap, cur, hv, hB, hg, hc, _, hcs, ht⟩
  · omega
  · injection hv with e1 _ _
    refine ⟨g, e1, fun k hk => cell_of_block hg ?_⟩
    have h2 : (l.map (Value.int .i64))[k]? = some (.int .i64 (l.getD k 0)) := by simp [List.getD, List.getElem?_eq_getElem hk]
    rw [← ht, List.getElem?_take, if_pos (by omega)] at h2
    simpa using h2
/-- the step's blocks: the act, its span -/
structure AO18 (X : World) (A O Q : Nat) (k n f t : Int) : Prop where
  a : X.heap[A]? = some (.cells #[.int .i64 k, .int .i64 n, .int .i64 f, .int .i64 t] 41 (0, 0))
  o : X.heap[O]? = some (.cells #[.int .i64 f, .int .i64 t] 43 (0, 0))
  aq : A ≠ Q
  oq : O ≠ Q
theorem AO18.below {X X' : World} {A O Q : Nat} {k n f t : Int} (h : AO18 X A O Q k n f t) (hb : Below X.heap.size X X') : AO18 X' A O Q k n f t :=
  ⟨(hb.block _ (Array.getElem?_eq_some_iff.1 h.a).1).trans h.a, (hb.block _ (Array.getElem?_eq_some_iff.1 h.o).1).trans h.o, h.aq, h.oq⟩
theorem AO18.frl {X X' : World} {A O Q B F : Nat} {k n f t : Int} {l : List RV} {nx : Int} (h : AO18 X A O Q k n f t) (hf : FrL F X X') (hr : Rs X B F l nx) : AO18 X' A O Q k n f t :=
  ⟨(hf.keep hr h.a (by decide) (by decide)).trans h.a, (hf.keep hr h.o (by decide) (by decide)).trans h.o, h.aq, h.oq⟩
set_option maxRecDepth 100000 in
set_option maxHeartbeats 16000000 in
theorem resvplays_walk (lad0 : Option Addr) (ll0 lcap0 : Nat) (A0 : Nat → ActU) (lad : Option Addr) (ll lcap : Nat) (A : Nat → R18.ActR) (bad : Option Addr) (nb cb : Nat) (bs : List Int) (w : World) (hA0 : ActsU w lad0 ll0 A0) (hA : R18.ActsR w lad ll A) (ht : TxtAt w (.slice bad nb cb) bs) :
    Calls Try.prog 3 #[.slice lad0 ll0 lcap0, .slice lad ll lcap, .slice bad nb cb] w fun e w' => e = .returned (.bool true) ∧ Below w.heap.size w w' := by
  have hmx : Try.prog.follows .mixedOrders = true := by kernel_rfl
  have HA := Lib.hid hA
  have HT := Lib.hid ht
  have KP := Lib.hid (play_ne lad0 ll0 lcap0 A0 6 6 (by decide) w hA0)
  clear hA hA0 ht
  go_enter Try.func3, Try.ntmps3
  go_wp2_with fail
  refine KP.out.mono ?_
  rintro e Wp ⟨S, vF, LV, C, rfl, hS, hu, hrt, _, hrow, hcl, hlk, hb, _⟩
  obtain ⟨aF, cF, rfl⟩ := hrow.form
  have ba := below_alloc (Below.refl _ Wp) (.cells #[.int .i64 6, .slice aF C.length cF] 28)
  have HFP := Lib.hid (World.alloc_heap_new Wp (.cells #[.int .i64 6, .slice aF C.length cF] 28))
  have HU := Lib.hid (hu.below ba)
  have HFR := Lib.hid (hrow.below ba)
  have HB1 := Lib.hid (below_next hb ba)
  have HRT := Lib.hid hrt
  have HLK := Lib.hid hlk
  have HCL := Lib.hid hcl
  have HLL := Lib.hid (show LV.length * 6561 ≤ 1099511627776 by have := levels_few hlk hrt; omega)
  clear hu hrt hrow hcl hlk hb ba hS KP
  go_upto_region 2 with fail
  generalize hclN : C.length = cl at *
  generalize Wp.alloc (.cells #[.int .i64 6, .slice aF cl cF] 28) = W1 at *
  generalize Wp.heap.size = P at *
  have HCN := Lib.hid hclN
  clear hclN
  have HPL := Lib.hid (Array.getElem?_eq_some_iff.1 HFP.out).1
  go_wp2_with fail
  refine (new_rs W1).mono ?_
  rintro e W2 ⟨rfl, hr, hb⟩
  obtain ⟨F, hF⟩ : ∃ F, F = W1.heap.size := ⟨_, rfl⟩
  rw [← hF] at hr ⊢
  have HF := Lib.hid hF
  have HR2 := Lib.hid hr
  have HB2 := Lib.hid hb
  clear hr hb hF
  go_wp2_with fail
  refine (rnew18_any W2).mono ?_
  rintro e W3 ⟨rfl, hb⟩
  have ba := below_alloc (Below.refl _ W3) (.cells #[.int .i64 1, .slice none 0 0] 35)
  have HPL0 := Lib.hid (show Pl18 W1 (W3.alloc (.cells #[.int .i64 1, .slice none 0 0] 35)) F W3.heap.size [] 1 [] 1 (.slice none 0 0) from
    ⟨(HR2.out.below hb).below ba, RG.new, World.alloc_heap_new W3 _, ⟨none, 0, rfl, Nat.le_refl _, fun _ => rfl, fun h => by simp at h⟩, (fun g hg => by cases hg), Nat.lt_of_lt_of_le HR2.out.lt hb.size, below_next (below_next HB2.out hb) ba⟩)
  clear hb ba HR2 HB2
  go_upto_region 4 with fail
  generalize W3.alloc (.cells #[.int .i64 1, .slice none 0 0] 35) = W4 at *
  generalize W3.heap.size = Q at *
  have hneP : P ≠ Q := by have := HPL.out; have := HPL0.out.fq; have := HF.out; omega
  have hneQ : Q ≠ P := Ne.symm hneP
  go_wp2_with fail
  go_loopw [11] (fun i wr => ∃ (j : Nat) (lst : List RV) (nx : Int) (vL : Value), j ≤ 20 ∧ i = .int .i64 j ∧ Pl18 W1 wr F Q lst nx lst nx vL) (fun i _ => 20 - (intOf i).toNat)
  case atStart => exact ⟨0, [], 1, _, by decide, rfl, HPL0.out⟩
  case round =>
    obtain ⟨j, lst, nx, vL, hj, rfl, hpl⟩ := hrel
    obtain ⟨aL, cL, hvL, _⟩ := hpl.rd
    have HP := Lib.hid hpl
    clear hpl HPL0
    subst hvL
    by_cases hj2 : j < ll ∧ j < 20
    case pos =>
      obtain ⟨hjl, hj20⟩ := hj2
      have d1 : decide (j < ll) = true := decide_eq_true hjl
      have d2 : decide ((j : Int) < (ll : Int)) = true := decide_eq_true (by omega)
      have d3 : decide ((j : Int) < 20) = true := decide_eq_true (by omega)
      have d4 : decide (j < 20) = true := decide_eq_true hj20
      have hjI : (j : Int) < (ll : Int) := by omega
      have hw1 : IntKind.i64.wrap ((j : Int) + 1) = (j : Int) + 1 := by rw [IntKind.wrap_i64]; omega
      obtain ⟨tb, toff, had, hcells⟩ := HA.out.2 (by omega)
      have hc := (hcells j hjl).below2 (below_next HB1.out HP.out.bel)
      subst had
      clear hcells
      generalize A j = aj at *
      obtain ⟨jk, jn, jf, jt⟩ := aj
      have HJ20 := Lib.hid hj20
      clear hjl hj20 hj
      have x0 : wr.cell? ⟨tb, toff + j * 4, none⟩ = some (.int .i64 jk) := hc.c0
      have x1 : wr.cell? ⟨tb, toff + j * 4 + 1, none⟩ = some (.int .i64 jn) := hc.c1
      have x2 : wr.cell? ⟨tb, toff + j * 4 + 2, none⟩ = some (.int .i64 jf) := hc.c2
      have x3 : wr.cell? ⟨tb, toff + j * 4 + 3, none⟩ = some (.int .i64 jt) := hc.c3
      clear hc
      have ba := below_alloc (Below.refl _ wr) (.cells #[.int .i64 jk, .int .i64 jn, .int .i64 jf, .int .i64 jt] 41)
      have HAB := Lib.hid (World.alloc_heap_new wr (.cells #[.int .i64 jk, .int .i64 jn, .int .i64 jf, .int .i64 jt] 41))
      have HP1 := Lib.hid (HP.out.below ba)
      have HQA := Lib.hid (Array.getElem?_eq_some_iff.1 HP.out.dq).1
      clear ba HP
      go_upto_region 8 with fail
      clear x0 x1 x2 x3
      generalize wr.alloc (.cells #[.int .i64 jk, .int .i64 jn, .int .i64 jf, .int .i64 jt] 41) = X1 at *
      obtain ⟨Aq, hAq⟩ : ∃ x, x = wr.heap.size := ⟨_, rfl⟩
      rw [← hAq] at HAB HQA ⊢
      clear hAq
      have a2 : X1.cell? ⟨Aq, 2, none⟩ = some (.int .i64 jf) := cell_of_block (o := 2) HAB.out rfl
      have a3 : X1.cell? ⟨Aq, 3, none⟩ = some (.int .i64 jt) := cell_of_block (o := 3) HAB.out rfl
      go_wp2_with fail
      refine (own01_any jf jt X1).mono ?_
      rintro e X2 ⟨rfl, hb⟩
      have ba := below_alloc (Below.refl _ X2) (.cells #[.int .i64 jf, .int .i64 jt] 43)
      have bb := below_next hb ba
      have hAB2 := (hb.block _ (Array.getElem?_eq_some_iff.1 HAB.out).1).trans HAB.out
      have HAO := Lib.hid (show AO18 (X2.alloc (.cells #[.int .i64 jf, .int .i64 jt] 43)) Aq X2.heap.size Q jk jn jf jt from
        ⟨(ba.block _ (Array.getElem?_eq_some_iff.1 hAB2).1).trans hAB2, World.alloc_heap_new X2 _, by have := HQA.out; omega, by have := HQA.out; have := (Array.getElem?_eq_some_iff.1 hAB2).1; omega⟩)
      have HP3 := Lib.hid (HP1.out.below bb)
      clear a2 a3 hb ba bb hAB2 HAB HP1
      go_upto_region 9 with fail
      generalize X2.alloc (.cells #[.int .i64 jf, .int .i64 jt] 43) = X3 at *
      generalize X2.heap.size = Oq at *
      have ne1 : Aq ≠ Q := HAO.out.aq
      have ne2 : Oq ≠ Q := HAO.out.oq
      by_cases k0 : jk = 0
      case pos =>
        have b0 : (jk == 0) = true := by simpa using k0
        clear k0
        obtain ⟨ar, har⟩ : ∃ r, r = addR LV lst nx jf jt jn := ⟨_, rfl⟩
        have KA := radd18_any (HFR.out.below HP3.out.bel) (by have := HCL.out; have := HCN.out; omega) HLK.out HRT.out HP3.out.rd HP3.out.rg.len HP3.out.rg.okW HP3.out.rg.pos jf jt jn
        have HG2 := HP3.out.rg.add LV jf jt jn
        have KB := Lib.hid (fun (X : World) (hX : Below X3.heap.size X3 X) => by
          have := add_rs (HP3.out.below hX).rs (HU.out.below (HP3.out.below hX).bel) HRT.out HLL.out (Nat.le_refl _) jf jt jn
          unfold AddREnd at this
          rw [← har] at this
          exact this)
        rw [← har] at KA HG2
        clear har
        obtain ⟨r1, r2, lst2, nx2⟩ := ar
        dsimp only at KA HG2 KB
        have HKA := Lib.hid KA
        have HRG := Lib.hid HG2
        clear KA HG2
        have a0 : X3.cell? ⟨Aq, 0, none⟩ = some (.int .i64 jk) := cell_of_block (o := 0) HAO.out.a rfl
        have a1 : X3.cell? ⟨Aq, 1, none⟩ = some (.int .i64 jn) := cell_of_block (o := 1) HAO.out.a rfl
        have a2 : X3.cell? ⟨Aq, 2, none⟩ = some (.int .i64 jf) := cell_of_block (o := 2) HAO.out.a rfl
        have a3 : X3.cell? ⟨Aq, 3, none⟩ = some (.int .i64 jt) := cell_of_block (o := 3) HAO.out.a rfl
        have o0 : X3.cell? ⟨Oq, 0, none⟩ = some (.int .i64 jf) := cell_of_block (o := 0) HAO.out.o rfl
        have o1 : X3.cell? ⟨Oq, 1, none⟩ = some (.int .i64 jt) := cell_of_block (o := 1) HAO.out.o rfl
        have q0 : X3.cell? ⟨Q, 0, none⟩ = some (.int .i64 nx) := cell_of_block (o := 0) HP3.out.dq rfl
        have q1 : X3.cell? ⟨Q, 1, none⟩ = some (.slice aL lst.length cL) := cell_of_block (o := 1) HP3.out.dq rfl
        have p0 : X3.cell? ⟨P, 0, none⟩ = some (.int .i64 6) := cell_of_block (o := 0) ((HP3.out.bel.block P HPL.out).trans HFP.out) rfl
        have p1 : X3.cell? ⟨P, 1, none⟩ = some (.slice aF cl cF) := cell_of_block (o := 1) ((HP3.out.bel.block P HPL.out).trans HFP.out) rfl
        go_wp2_with fail
        refine HKA.out.mono ?_
        rintro e X4 ⟨v', rfl, hrd, hb, hty⟩
        obtain ⟨a4, c4, hv4, _⟩ := id hrd
        subst hv4
        have ba := below_alloc (Below.refl _ X4) (.cells #[.int .i64 nx2, .slice a4 lst2.length c4] 35)
        have bb := below_next hb ba
        have HQ4 := Lib.hid (World.alloc_heap_new X4 (.cells #[.int .i64 nx2, .slice a4 lst2.length c4] 35))
        have HRD4 := Lib.hid (hrd.below ba)
        have HTY4 := Lib.hid ((hty HP3.out.ty).below ba)
        have HP4 := Lib.hid (HP3.out.below bb)
        have HAO4 := Lib.hid (HAO.out.below bb)
        have KB4 := Lib.hid (KB.out _ bb)
        have HNQ := Lib.hid (show X4.heap.size ≠ Q by have := (Array.getElem?_eq_some_iff.1 HP3.out.dq).1; have := hb.size; omega)
        clear hrd hb hty ba bb HP3 HAO KB HKA a0 a1 a2 a3 o0 o1 q0 q1 p0 p1
        go_upto_region 12 with fail
        generalize X4.alloc (.cells #[.int .i64 nx2, .slice a4 lst2.length c4] 35) = X5 at *
        generalize X4.heap.size = q at *
        have a0 : X5.cell? ⟨Aq, 0, none⟩ = some (.int .i64 jk) := cell_of_block (o := 0) HAO4.out.a rfl
        have a1 : X5.cell? ⟨Aq, 1, none⟩ = some (.int .i64 jn) := cell_of_block (o := 1) HAO4.out.a rfl
        have a2 : X5.cell? ⟨Aq, 2, none⟩ = some (.int .i64 jf) := cell_of_block (o := 2) HAO4.out.a rfl
        have a3 : X5.cell? ⟨Aq, 3, none⟩ = some (.int .i64 jt) := cell_of_block (o := 3) HAO4.out.a rfl
        go_wp2_with fail
        refine KB4.out.mono ?_
        rintro e X6 ⟨rfl, hr6, hf6⟩
        have HP6 := Lib.hid (HP4.out.call HF.out hf6 hr6 HRG.out)
        have HQ6 := Lib.hid ((hf6.keep HP4.out.rs HQ4.out (by decide) (by decide)).trans HQ4.out)
        have HR6 := Lib.hid (HRD4.out.frl HTY4.out hf6 HP4.out.rs)
        have e1 : (r1 != r1) = false := by simp
        have e2 : (r2 != r2) = false := by simp
        clear hr6 hf6 a0 a1 a2 a3 KB4 HP4 HAO4 HRD4 HTY4 HQ4
        go_upto_region 15 with fail
        refine wp_region_lit ?_
        refine wpList_load_all rfl 35 _ rfl q [.int .i64 nx2, .slice a4 lst2.length c4] _ (by go_simp) HQ6.out Try.underlying35 rfl (by kernel_rfl) ?_
        refine wpList_store_all rfl 35 _ _ rfl Q (T := 35) [.int .i64 nx2, .slice a4 lst2.length c4] (by go_simp) (by go_simp) HP6.out.dq rfl (by kernel_rfl) rfl ?_
        intro w8 hw8
        have HP8 := Lib.hid (HP6.out.turn HF.out hw8 HR6.out.1 HR6.out.2)
        clear hw8 e1 e2 HP6 HQ6 HR6
        have q0 : w8.cell? ⟨Q, 0, none⟩ = some (.int .i64 nx2) := cell_of_block (o := 0) HP8.out.dq rfl
        have q1 : w8.cell? ⟨Q, 1, none⟩ = some (.slice a4 (lst2).length c4) := cell_of_block (o := 1) HP8.out.dq rfl
        have KL := Lib.hid (like18_any HP8.out.rs HP8.out.rd)
        go_wp2_with fail
        refine KL.out.mono ?_
        rintro e Y1 ⟨rfl, hb⟩
        have HPY := Lib.hid (HP8.out.below hb)
        clear hb q0 q1 KL
        have p0 : Y1.cell? ⟨P, 0, none⟩ = some (.int .i64 6) := cell_of_block (o := 0) ((HPY.out.bel.block P HPL.out).trans HFP.out) rfl
        have p1 : Y1.cell? ⟨P, 1, none⟩ = some (.slice aF cl cF) := cell_of_block (o := 1) ((HPY.out.bel.block P HPL.out).trans HFP.out) rfl
        have KU := Lib.hid (like_any (HU.out.below HPY.out.bel) HRT.out (HFR.out.below HPY.out.bel) (by have := HCL.out; have := HCN.out; omega) HLK.out)
        go_wp2_with fail
        refine KU.out.mono ?_
        rintro e Y2 ⟨rfl, hb⟩
        have HPZ := Lib.hid (HPY.out.below hb)
        clear hb p0 p1 KU
        go_wp2_with fail
        go_roundw
        case rel => exact ⟨j + 1, lst2, nx2, _, by have := HJ20.out; omega, by go_num, HPZ.out⟩
        case measure => have := HJ20.out; simp [intOf]; omega
      case neg =>
      have b0 : (jk == 0) = false := by simpa using k0
      by_cases k1 : jk = 1
      case pos =>
        have b1 : (jk == 1) = true := by simpa using k1
        clear k0 k1
        obtain ⟨dr, hdr⟩ : ∃ r, r = dropR lst jn := ⟨_, rfl⟩
        have KA := rdrop18_any HP3.out.rd HP3.out.rg.len HP3.out.rg.inc nx jn
        have HG2 := HP3.out.rg.drop jn
        have KB := Lib.hid (fun (X : World) (hX : Below X3.heap.size X3 X) => by
          have := drop_rs (HP3.out.below hX).rs (Nat.le_refl _) jn
          rw [← hdr] at this
          exact this)
        rw [← hdr] at KA HG2
        clear hdr
        obtain ⟨r1, lst2⟩ := dr
        dsimp only at KA HG2 KB
        have HKA := Lib.hid KA
        have HRG := Lib.hid HG2
        clear KA HG2
        have a0 : X3.cell? ⟨Aq, 0, none⟩ = some (.int .i64 jk) := cell_of_block (o := 0) HAO.out.a rfl
        have a1 : X3.cell? ⟨Aq, 1, none⟩ = some (.int .i64 jn) := cell_of_block (o := 1) HAO.out.a rfl
        have a2 : X3.cell? ⟨Aq, 2, none⟩ = some (.int .i64 jf) := cell_of_block (o := 2) HAO.out.a rfl
        have a3 : X3.cell? ⟨Aq, 3, none⟩ = some (.int .i64 jt) := cell_of_block (o := 3) HAO.out.a rfl
        have o0 : X3.cell? ⟨Oq, 0, none⟩ = some (.int .i64 jf) := cell_of_block (o := 0) HAO.out.o rfl
        have o1 : X3.cell? ⟨Oq, 1, none⟩ = some (.int .i64 jt) := cell_of_block (o := 1) HAO.out.o rfl
        have q0 : X3.cell? ⟨Q, 0, none⟩ = some (.int .i64 nx) := cell_of_block (o := 0) HP3.out.dq rfl
        have q1 : X3.cell? ⟨Q, 1, none⟩ = some (.slice aL lst.length cL) := cell_of_block (o := 1) HP3.out.dq rfl
        have p0 : X3.cell? ⟨P, 0, none⟩ = some (.int .i64 6) := cell_of_block (o := 0) ((HP3.out.bel.block P HPL.out).trans HFP.out) rfl
        have p1 : X3.cell? ⟨P, 1, none⟩ = some (.slice aF cl cF) := cell_of_block (o := 1) ((HP3.out.bel.block P HPL.out).trans HFP.out) rfl
        go_wp2_with fail
        refine HKA.out.mono ?_
        rintro e X4 ⟨v', rfl, hrd, hb, hty⟩
        have hty4 := hty HP3.out.ty
        obtain ⟨a4, c4, hv4, _⟩ := id hrd
        subst hv4
        have ba := below_alloc (Below.refl _ X4) (.cells #[.int .i64 nx, .slice a4 lst2.length c4] 35)
        have bb := below_next hb ba
        have HQ4 := Lib.hid (World.alloc_heap_new X4 (.cells #[.int .i64 nx, .slice a4 lst2.length c4] 35))
        have HRD4 := Lib.hid (hrd.below ba)
        have HTY4 := Lib.hid (hty4.below ba)
        have HP4 := Lib.hid (HP3.out.below bb)
        have HAO4 := Lib.hid (HAO.out.below bb)
        have KB4 := Lib.hid (KB.out _ bb)
        have HNQ := Lib.hid (show X4.heap.size ≠ Q by have := (Array.getElem?_eq_some_iff.1 HP3.out.dq).1; have := hb.size; omega)
        clear hrd hb hty hty4 ba bb HP3 HAO KB HKA a0 a1 a2 a3 o0 o1 q0 q1 p0 p1
        go_upto_region 18 with fail
        generalize X4.alloc (.cells #[.int .i64 nx, .slice a4 lst2.length c4] 35) = X5 at *
        generalize X4.heap.size = q at *
        have a0 : X5.cell? ⟨Aq, 0, none⟩ = some (.int .i64 jk) := cell_of_block (o := 0) HAO4.out.a rfl
        have a1 : X5.cell? ⟨Aq, 1, none⟩ = some (.int .i64 jn) := cell_of_block (o := 1) HAO4.out.a rfl
        have a2 : X5.cell? ⟨Aq, 2, none⟩ = some (.int .i64 jf) := cell_of_block (o := 2) HAO4.out.a rfl
        have a3 : X5.cell? ⟨Aq, 3, none⟩ = some (.int .i64 jt) := cell_of_block (o := 3) HAO4.out.a rfl
        go_wp2_with fail
        refine KB4.out.mono ?_
        rintro e X6 ⟨rfl, hr6, hf6⟩
        have HP6 := Lib.hid (HP4.out.call HF.out hf6 hr6 HRG.out)
        have HQ6 := Lib.hid ((hf6.keep HP4.out.rs HQ4.out (by decide) (by decide)).trans HQ4.out)
        have HR6 := Lib.hid (HRD4.out.frl HTY4.out hf6 HP4.out.rs)
        have e1 : (r1 != r1) = false := by simp
        clear hr6 hf6 a0 a1 a2 a3 KB4 HP4 HAO4 HRD4 HTY4 HQ4
        go_upto_region 20 with fail
        refine wp_region_lit ?_
        refine wpList_load_all rfl 35 _ rfl q [.int .i64 nx, .slice a4 lst2.length c4] _ (by go_simp) HQ6.out Try.underlying35 rfl (by kernel_rfl) ?_
        refine wpList_store_all rfl 35 _ _ rfl Q (T := 35) [.int .i64 nx, .slice a4 lst2.length c4] (by go_simp) (by go_simp) HP6.out.dq rfl (by kernel_rfl) rfl ?_
        intro w8 hw8
        have HP8 := Lib.hid (HP6.out.turn HF.out hw8 HR6.out.1 HR6.out.2)
        clear hw8 e1 HP6 HQ6 HR6
        have q0 : w8.cell? ⟨Q, 0, none⟩ = some (.int .i64 nx) := cell_of_block (o := 0) HP8.out.dq rfl
        have q1 : w8.cell? ⟨Q, 1, none⟩ = some (.slice a4 (lst2).length c4) := cell_of_block (o := 1) HP8.out.dq rfl
        have KL := Lib.hid (like18_any HP8.out.rs HP8.out.rd)
        go_wp2_with fail
        refine KL.out.mono ?_
        rintro e Y1 ⟨rfl, hb⟩
        have HPY := Lib.hid (HP8.out.below hb)
        clear hb q0 q1 KL
        have p0 : Y1.cell? ⟨P, 0, none⟩ = some (.int .i64 6) := cell_of_block (o := 0) ((HPY.out.bel.block P HPL.out).trans HFP.out) rfl
        have p1 : Y1.cell? ⟨P, 1, none⟩ = some (.slice aF cl cF) := cell_of_block (o := 1) ((HPY.out.bel.block P HPL.out).trans HFP.out) rfl
        have KU := Lib.hid (like_any (HU.out.below HPY.out.bel) HRT.out (HFR.out.below HPY.out.bel) (by have := HCL.out; have := HCN.out; omega) HLK.out)
        go_wp2_with fail
        refine KU.out.mono ?_
        rintro e Y2 ⟨rfl, hb⟩
        have HPZ := Lib.hid (HPY.out.below hb)
        clear hb p0 p1 KU
        go_wp2_with fail
        go_roundw
        case rel => exact ⟨j + 1, lst2, nx, _, by have := HJ20.out; omega, by go_num, HPZ.out⟩
        case measure => have := HJ20.out; simp [intOf]; omega
      case neg =>
      have b1 : (jk == 1) = false := by simpa using k1
      by_cases k2 : jk = 2
      case pos =>
        have b2 : (jk == 2) = true := by simpa using k2
        clear k0 k1 k2
        have HKA := Lib.hid (rpast18_any HP3.out.rd HP3.out.rg.len nx jf)
        have HRG := Lib.hid (HP3.out.rg.past jf)
        have KB := Lib.hid (fun (X : World) (hX : Below X3.heap.size X3 X) => past_rs (HP3.out.below hX).rs (Nat.le_refl _) jf)
        have HGL := Lib.hid (show (goneR jf lst).length ≤ 8 from Nat.le_trans (goneR_le jf lst) HP3.out.rg.len)
        generalize hids : goneR jf lst = ids at *
        generalize hl2 : pastL jf lst = lst2 at *
        clear hids hl2
        have a0 : X3.cell? ⟨Aq, 0, none⟩ = some (.int .i64 jk) := cell_of_block (o := 0) HAO.out.a rfl
        have a1 : X3.cell? ⟨Aq, 1, none⟩ = some (.int .i64 jn) := cell_of_block (o := 1) HAO.out.a rfl
        have a2 : X3.cell? ⟨Aq, 2, none⟩ = some (.int .i64 jf) := cell_of_block (o := 2) HAO.out.a rfl
        have a3 : X3.cell? ⟨Aq, 3, none⟩ = some (.int .i64 jt) := cell_of_block (o := 3) HAO.out.a rfl
        have o0 : X3.cell? ⟨Oq, 0, none⟩ = some (.int .i64 jf) := cell_of_block (o := 0) HAO.out.o rfl
        have o1 : X3.cell? ⟨Oq, 1, none⟩ = some (.int .i64 jt) := cell_of_block (o := 1) HAO.out.o rfl
        have q0 : X3.cell? ⟨Q, 0, none⟩ = some (.int .i64 nx) := cell_of_block (o := 0) HP3.out.dq rfl
        have q1 : X3.cell? ⟨Q, 1, none⟩ = some (.slice aL lst.length cL) := cell_of_block (o := 1) HP3.out.dq rfl
        have p0 : X3.cell? ⟨P, 0, none⟩ = some (.int .i64 6) := cell_of_block (o := 0) ((HP3.out.bel.block P HPL.out).trans HFP.out) rfl
        have p1 : X3.cell? ⟨P, 1, none⟩ = some (.slice aF cl cF) := cell_of_block (o := 1) ((HP3.out.bel.block P HPL.out).trans HFP.out) rfl
        go_wp2_with fail
        refine HKA.out.mono ?_
        rintro e X4 ⟨v', vo, rfl, hrd, hoz, hb, hty4⟩
        obtain ⟨ao, co, rfl⟩ := hoz.form
        obtain ⟨a4, c4, hv4, _⟩ := id hrd
        subst hv4
        have ba := below_alloc (Below.refl _ X4) (.cells #[.int .i64 nx, .slice a4 lst2.length c4] 35)
        have bb := below_next hb ba
        have HQ4 := Lib.hid (World.alloc_heap_new X4 (.cells #[.int .i64 nx, .slice a4 lst2.length c4] 35))
        have HRD4 := Lib.hid (hrd.below ba)
        have HTY4 := Lib.hid (hty4.below ba)
        have HP4 := Lib.hid (HP3.out.below bb)
        have HAO4 := Lib.hid (HAO.out.below bb)
        have KB4 := Lib.hid (KB.out _ bb)
        have HNQ := Lib.hid (show X4.heap.size ≠ Q by have := (Array.getElem?_eq_some_iff.1 HP3.out.dq).1; have := hb.size; omega)
        have hoz5 := Ap.own_below hoz ba
        clear hrd hb hty4 hoz ba bb HP3 HAO KB HKA a0 a1 a2 a3 o0 o1 q0 q1 p0 p1
        go_upto_region 23 with fail
        generalize X4.alloc (.cells #[.int .i64 nx, .slice a4 lst2.length c4] 35) = X5 at *
        generalize X4.heap.size = q at *
        have HOZ5 := Lib.hid hoz5
        clear hoz5
        have a0 : X5.cell? ⟨Aq, 0, none⟩ = some (.int .i64 jk) := cell_of_block (o := 0) HAO4.out.a rfl
        have a1 : X5.cell? ⟨Aq, 1, none⟩ = some (.int .i64 jn) := cell_of_block (o := 1) HAO4.out.a rfl
        have a2 : X5.cell? ⟨Aq, 2, none⟩ = some (.int .i64 jf) := cell_of_block (o := 2) HAO4.out.a rfl
        have a3 : X5.cell? ⟨Aq, 3, none⟩ = some (.int .i64 jt) := cell_of_block (o := 3) HAO4.out.a rfl
        go_wp2_with fail
        refine KB4.out.mono ?_
        rintro e X6 ⟨vp, rfl, hoz6, hr6, hf6⟩
        obtain ⟨ap, cp, rfl⟩ := OwnZ.form hoz6
        have HP6 := Lib.hid (HP4.out.call HF.out hf6 hr6 HRG.out)
        have HQ6 := Lib.hid ((hf6.keep HP4.out.rs HQ4.out (by decide) (by decide)).trans HQ4.out)
        have HR6 := Lib.hid (HRD4.out.frl HTY4.out hf6 HP4.out.rs)
        have HZ1 := Lib.hid (OwnZ.cells hoz6)
        have HZ2 := Lib.hid (OwnZ.cells (Ap.own_keep HOZ5.out (w' := X6) fun k hk => by
          obtain ⟨cs, e⟩ := OwnZ.own HOZ5.out hk
          exact hf6.keep HP4.out.rs e (by decide) (by decide)))
        have e1 : ((ids.length : Int) != (ids.length : Int)) = false := by simp
        clear hr6 hf6 hoz6 a0 a1 a2 a3 KB4 HP4 HAO4 HRD4 HTY4 HQ4 HOZ5
        obtain ⟨m, hm⟩ : ∃ m, m = ids.length := ⟨_, rfl⟩
        rw [← hm] at HZ1 HZ2 HGL e1 ⊢
        have HMM := Lib.hid hm
        clear hm
        by_cases hm0 : 0 < m
        case neg =>
          obtain rfl : m = 0 := by omega
          clear hm0 HZ1 HZ2
          go_wp2_with fail
          go_loopw [24] (fun i wx => i = .int .i64 0 ∧ wx = X6) (fun _ _ => 0)
          case atStart => exact ⟨rfl, rfl⟩
          case round =>
            obtain ⟨rfl, rfl⟩ := hrel
            have hd : decide ((0 : Int) < 0) = false := by decide
            go_upto_region 31 with fail
            refine wp_region_lit ?_
            refine wpList_load_all rfl 35 _ rfl q [.int .i64 nx, .slice a4 lst2.length c4] _ (by go_simp) HQ6.out Try.underlying35 rfl (by kernel_rfl) ?_
            refine wpList_store_all rfl 35 _ _ rfl Q (T := 35) [.int .i64 nx, .slice a4 lst2.length c4] (by go_simp) (by go_simp) HP6.out.dq rfl (by kernel_rfl) rfl ?_
            intro w8 hw8
            have HP8 := Lib.hid (HP6.out.turn HF.out hw8 HR6.out.1 HR6.out.2)
            clear hw8 e1 HP6 HQ6 HR6
            have q0 : w8.cell? ⟨Q, 0, none⟩ = some (.int .i64 nx) := cell_of_block (o := 0) HP8.out.dq rfl
            have q1 : w8.cell? ⟨Q, 1, none⟩ = some (.slice a4 (lst2).length c4) := cell_of_block (o := 1) HP8.out.dq rfl
            have KL := Lib.hid (like18_any HP8.out.rs HP8.out.rd)
            go_wp2_with fail
            refine KL.out.mono ?_
            rintro e Y1 ⟨rfl, hb⟩
            have HPY := Lib.hid (HP8.out.below hb)
            clear hb q0 q1 KL
            have p0 : Y1.cell? ⟨P, 0, none⟩ = some (.int .i64 6) := cell_of_block (o := 0) ((HPY.out.bel.block P HPL.out).trans HFP.out) rfl
            have p1 : Y1.cell? ⟨P, 1, none⟩ = some (.slice aF cl cF) := cell_of_block (o := 1) ((HPY.out.bel.block P HPL.out).trans HFP.out) rfl
            have KU := Lib.hid (like_any (HU.out.below HPY.out.bel) HRT.out (HFR.out.below HPY.out.bel) (by have := HCL.out; have := HCN.out; omega) HLK.out)
            go_wp2_with fail
            refine KU.out.mono ?_
            rintro e Y2 ⟨rfl, hb⟩
            have HPZ := Lib.hid (HPY.out.below hb)
            clear hb p0 p1 KU
            go_wp2_with fail
            go_roundw
            case rel => exact ⟨j + 1, lst2, nx, _, by have := HJ20.out; omega, by go_num, HPZ.out⟩
            case measure => have := HJ20.out; simp [intOf]; omega
        case pos =>
        obtain ⟨g1, rfl, hg1⟩ := HZ1.out hm0
        obtain ⟨g2, rfl, hg2⟩ := HZ2.out hm0
        have HG1 := Lib.hid hg1
        have HG2 := Lib.hid hg2
        clear hg1 hg2 HZ1 HZ2 hm0
        go_wp2_with fail
        go_loopw [24] (fun i wx => ∃ k : Nat, k ≤ m ∧ i = .int .i64 k ∧ Below X6.heap.size X6 wx) (fun i _ => m - (intOf i).toNat)
        case atStart => exact ⟨0, Nat.zero_le _, rfl, Below.refl _ _⟩
        case round =>
          obtain ⟨k, hk, rfl, hbx⟩ := hrel
          have HBX := Lib.hid hbx
          clear hbx
          by_cases hlt : k < m
          case pos =>
            have hd : decide (k < m) = true := decide_eq_true hlt
            have hd2 : decide ((k : Int) < (m : Int)) = true := decide_eq_true (by omega)
            have hkl : (k : Int) < (m : Int) := by omega
            have hw2 : IntKind.i64.wrap ((k : Int) + 1) = (k : Int) + 1 := by have := HGL.out; rw [IntKind.wrap_i64]; omega
            have Z1 := Lib.hid (fun (X : World) (hX : Below wr.heap.size wr X) => ((below_next HBX.out hX).cell (World.block_lt_of_cell? _ _ (HG1.out k hlt))).trans (HG1.out k hlt))
            have Z2 := Lib.hid (fun (X : World) (hX : Below wr.heap.size wr X) => ((below_next HBX.out hX).cell (World.block_lt_of_cell? _ _ (HG2.out k hlt))).trans (HG2.out k hlt))
            have HK := Lib.hid hlt
            clear hk
            generalize ids.getD k 0 = y at *
            have e3 : (y != y) = false := by simp
            go_upto_region 29 with fail
            refine Rl.wp_region_rel (fun a b => Below a.heap.size a b) wr (fun a b c h h' => below_next h h') (fun a => Below.refl _ _) hmx (by kernel_rfl) (Below.refl _ _).drew ?_
            iterate 3 (refine Rl.textR_run ?_ (fun ρ => ?_) (fun ρ W hS hd => ?_) ?_; rotate_left; (focus go_simp); (focus (obtain ⟨hc, hf⟩ := bcell hS; go_simp; first | exact ⟨rfl, Below.refl _ _⟩ | (refine ⟨?_, Below.refl _ _⟩; rfl))); (try go_simp))
            (refine Rl.textR_run ?_ (fun ρ => ?_) (fun ρ W hS hd => ?_) ?_; rotate_left; (focus go_simp); (focus (have hfact := Z1.out W hS; go_simp; first | exact ⟨rfl, Below.refl _ _⟩ | (refine ⟨?_, Below.refl _ _⟩; rfl))); (try go_simp))
            iterate 3 (refine Rl.textR_run ?_ (fun ρ => ?_) (fun ρ W hS hd => ?_) ?_; rotate_left; (focus go_simp); (focus (obtain ⟨hc, hf⟩ := bcell hS; go_simp; first | exact ⟨rfl, Below.refl _ _⟩ | (refine ⟨?_, Below.refl _ _⟩; rfl))); (try go_simp))
            (refine Rl.textR_run ?_ (fun ρ => ?_) (fun ρ W hS hd => ?_) ?_; rotate_left; (focus go_simp); (focus (have hfact := Z2.out W hS; go_simp; first | exact ⟨rfl, Below.refl _ _⟩ | (refine ⟨?_, Below.refl _ _⟩; rfl))); (try go_simp))
            (refine Rl.textR_run ?_ (fun ρ => ?_) (fun ρ W hS hd => ?_) ?_; rotate_left; (focus go_simp); (focus (obtain ⟨hc, hf⟩ := bcell hS; go_simp; first | exact ⟨rfl, Below.refl _ _⟩ | (refine ⟨?_, Below.refl _ _⟩; rfl))); (try go_simp))
            refine Rl.textR_nil ?_
            intro ρ wd hg hk
            dsimp only
            have HBd := Lib.hid (below_next HBX.out hg)
            clear hg hk Z1 Z2 HBX
            go_simp
            go_wp2_with fail
            go_roundw
            case rel => exact ⟨k + 1, by have := HK.out; omega, by go_num, HBd.out⟩
            case measure => have := HK.out; simp [intOf]; omega
          case neg =>
            obtain rfl : k = m := by omega
            have hd : decide (k < k) = false := decide_eq_false (by omega)
            have hd2 : decide ((k : Int) < (k : Int)) = false := decide_eq_false (by omega)
            have HP7 := Lib.hid (HP6.out.below HBX.out)
            have HQ7 := Lib.hid ((HBX.out.block _ (Array.getElem?_eq_some_iff.1 HQ6.out).1).trans HQ6.out)
            have HR7 := Lib.hid (And.intro (HR6.out.1.below HBX.out) (HR6.out.2.below HBX.out))
            clear hlt hk HP6 HQ6 HR6
            go_upto_region 31 with fail
            refine wp_region_lit ?_
            refine wpList_load_all rfl 35 _ rfl q [.int .i64 nx, .slice a4 lst2.length c4] _ (by go_simp) HQ7.out Try.underlying35 rfl (by kernel_rfl) ?_
            refine wpList_store_all rfl 35 _ _ rfl Q (T := 35) [.int .i64 nx, .slice a4 lst2.length c4] (by go_simp) (by go_simp) HP7.out.dq rfl (by kernel_rfl) rfl ?_
            intro w8 hw8
            have HP8 := Lib.hid (HP7.out.turn HF.out hw8 HR7.out.1 HR7.out.2)
            clear hw8 e1 HP7 HQ7 HR7
            have q0 : w8.cell? ⟨Q, 0, none⟩ = some (.int .i64 nx) := cell_of_block (o := 0) HP8.out.dq rfl
            have q1 : w8.cell? ⟨Q, 1, none⟩ = some (.slice a4 (lst2).length c4) := cell_of_block (o := 1) HP8.out.dq rfl
            have KL := Lib.hid (like18_any HP8.out.rs HP8.out.rd)
            go_wp2_with fail
            refine KL.out.mono ?_
            rintro e Y1 ⟨rfl, hb⟩
            have HPY := Lib.hid (HP8.out.below hb)
            clear hb q0 q1 KL
            have p0 : Y1.cell? ⟨P, 0, none⟩ = some (.int .i64 6) := cell_of_block (o := 0) ((HPY.out.bel.block P HPL.out).trans HFP.out) rfl
            have p1 : Y1.cell? ⟨P, 1, none⟩ = some (.slice aF cl cF) := cell_of_block (o := 1) ((HPY.out.bel.block P HPL.out).trans HFP.out) rfl
            have KU := Lib.hid (like_any (HU.out.below HPY.out.bel) HRT.out (HFR.out.below HPY.out.bel) (by have := HCL.out; have := HCN.out; omega) HLK.out)
            go_wp2_with fail
            refine KU.out.mono ?_
            rintro e Y2 ⟨rfl, hb⟩
            have HPZ := Lib.hid (HPY.out.below hb)
            clear hb p0 p1 KU
            go_wp2_with fail
            go_roundw
            case rel => exact ⟨j + 1, lst2, nx, _, by have := HJ20.out; omega, by go_num, HPZ.out⟩
            case measure => have := HJ20.out; simp [intOf]; omega
      case neg =>
      have b2 : (jk == 2) = false := by simpa using k2
      by_cases k3 : jk = 3
      case pos =>
        have b3 : (jk == 3) = true := by simpa using k3
        clear k0 k1 k2 k3
        have HKA := Lib.hid (rfind18_any (HFR.out.below HP3.out.bel) (by have := HCL.out; have := HCN.out; omega) HLK.out HRT.out HP3.out.rd HP3.out.rg.len HP3.out.rg.okW nx jf jt jn)
        have KB := Lib.hid (fun (X : World) (hX : Below X3.heap.size X3 X) => find_rs (HP3.out.below hX).rs (HU.out.below (HP3.out.below hX).bel) HRT.out HLL.out jf jt jn)
        generalize findR LV lst jf jt jn = fr at *
        obtain ⟨r1, r2⟩ := fr
        dsimp only at HKA KB
        have a0 : X3.cell? ⟨Aq, 0, none⟩ = some (.int .i64 jk) := cell_of_block (o := 0) HAO.out.a rfl
        have a1 : X3.cell? ⟨Aq, 1, none⟩ = some (.int .i64 jn) := cell_of_block (o := 1) HAO.out.a rfl
        have a2 : X3.cell? ⟨Aq, 2, none⟩ = some (.int .i64 jf) := cell_of_block (o := 2) HAO.out.a rfl
        have a3 : X3.cell? ⟨Aq, 3, none⟩ = some (.int .i64 jt) := cell_of_block (o := 3) HAO.out.a rfl
        have o0 : X3.cell? ⟨Oq, 0, none⟩ = some (.int .i64 jf) := cell_of_block (o := 0) HAO.out.o rfl
        have o1 : X3.cell? ⟨Oq, 1, none⟩ = some (.int .i64 jt) := cell_of_block (o := 1) HAO.out.o rfl
        have q0 : X3.cell? ⟨Q, 0, none⟩ = some (.int .i64 nx) := cell_of_block (o := 0) HP3.out.dq rfl
        have q1 : X3.cell? ⟨Q, 1, none⟩ = some (.slice aL lst.length cL) := cell_of_block (o := 1) HP3.out.dq rfl
        have p0 : X3.cell? ⟨P, 0, none⟩ = some (.int .i64 6) := cell_of_block (o := 0) ((HP3.out.bel.block P HPL.out).trans HFP.out) rfl
        have p1 : X3.cell? ⟨P, 1, none⟩ = some (.slice aF cl cF) := cell_of_block (o := 1) ((HP3.out.bel.block P HPL.out).trans HFP.out) rfl
        go_wp2_with fail
        refine HKA.out.mono ?_
        rintro e X4 ⟨rfl, hb⟩
        have HP4 := Lib.hid (HP3.out.below hb)
        have HAO4 := Lib.hid (HAO.out.below hb)
        have KB4 := Lib.hid (KB.out _ hb)
        clear hb HP3 HAO KB HKA a0 a1 a2 a3 o0 o1 q0 q1 p0 p1
        have a0 : X4.cell? ⟨Aq, 0, none⟩ = some (.int .i64 jk) := cell_of_block (o := 0) HAO4.out.a rfl
        have a1 : X4.cell? ⟨Aq, 1, none⟩ = some (.int .i64 jn) := cell_of_block (o := 1) HAO4.out.a rfl
        have a2 : X4.cell? ⟨Aq, 2, none⟩ = some (.int .i64 jf) := cell_of_block (o := 2) HAO4.out.a rfl
        have a3 : X4.cell? ⟨Aq, 3, none⟩ = some (.int .i64 jt) := cell_of_block (o := 3) HAO4.out.a rfl
        go_wp2_with fail
        refine KB4.out.mono ?_
        rintro e X5 ⟨rfl, hb⟩
        have HP8 := Lib.hid (HP4.out.below hb)
        have e1 : (r1 != r1) = false := by simp
        have e2 : (r2 != r2) = false := by simp
        clear hb a0 a1 a2 a3 KB4 HP4 HAO4
        have q0 : X5.cell? ⟨Q, 0, none⟩ = some (.int .i64 nx) := cell_of_block (o := 0) HP8.out.dq rfl
        have q1 : X5.cell? ⟨Q, 1, none⟩ = some (.slice aL (lst).length cL) := cell_of_block (o := 1) HP8.out.dq rfl
        have KL := Lib.hid (like18_any HP8.out.rs HP8.out.rd)
        go_wp2_with fail
        refine KL.out.mono ?_
        rintro e Y1 ⟨rfl, hb⟩
        have HPY := Lib.hid (HP8.out.below hb)
        clear hb q0 q1 KL
        have p0 : Y1.cell? ⟨P, 0, none⟩ = some (.int .i64 6) := cell_of_block (o := 0) ((HPY.out.bel.block P HPL.out).trans HFP.out) rfl
        have p1 : Y1.cell? ⟨P, 1, none⟩ = some (.slice aF cl cF) := cell_of_block (o := 1) ((HPY.out.bel.block P HPL.out).trans HFP.out) rfl
        have KU := Lib.hid (like_any (HU.out.below HPY.out.bel) HRT.out (HFR.out.below HPY.out.bel) (by have := HCL.out; have := HCN.out; omega) HLK.out)
        go_wp2_with fail
        refine KU.out.mono ?_
        rintro e Y2 ⟨rfl, hb⟩
        have HPZ := Lib.hid (HPY.out.below hb)
        clear hb p0 p1 KU
        go_wp2_with fail
        go_roundw
        case rel => exact ⟨j + 1, lst, nx, _, by have := HJ20.out; omega, by go_num, HPZ.out⟩
        case measure => have := HJ20.out; simp [intOf]; omega
      case neg =>
      have b3 : (jk == 3) = false := by simpa using k3
      clear k0 k1 k2 k3
      have a0 : X3.cell? ⟨Aq, 0, none⟩ = some (.int .i64 jk) := cell_of_block (o := 0) HAO.out.a rfl
      have a1 : X3.cell? ⟨Aq, 1, none⟩ = some (.int .i64 jn) := cell_of_block (o := 1) HAO.out.a rfl
      have a2 : X3.cell? ⟨Aq, 2, none⟩ = some (.int .i64 jf) := cell_of_block (o := 2) HAO.out.a rfl
      have a3 : X3.cell? ⟨Aq, 3, none⟩ = some (.int .i64 jt) := cell_of_block (o := 3) HAO.out.a rfl
      have HP8 := Lib.hid HP3.out
      have q0 : X3.cell? ⟨Q, 0, none⟩ = some (.int .i64 nx) := cell_of_block (o := 0) HP8.out.dq rfl
      have q1 : X3.cell? ⟨Q, 1, none⟩ = some (.slice aL (lst).length cL) := cell_of_block (o := 1) HP8.out.dq rfl
      have KL := Lib.hid (like18_any HP8.out.rs HP8.out.rd)
      go_wp2_with fail
      refine KL.out.mono ?_
      rintro e Y1 ⟨rfl, hb⟩
      have HPY := Lib.hid (HP8.out.below hb)
      clear hb q0 q1 KL
      have p0 : Y1.cell? ⟨P, 0, none⟩ = some (.int .i64 6) := cell_of_block (o := 0) ((HPY.out.bel.block P HPL.out).trans HFP.out) rfl
      have p1 : Y1.cell? ⟨P, 1, none⟩ = some (.slice aF cl cF) := cell_of_block (o := 1) ((HPY.out.bel.block P HPL.out).trans HFP.out) rfl
      have KU := Lib.hid (like_any (HU.out.below HPY.out.bel) HRT.out (HFR.out.below HPY.out.bel) (by have := HCL.out; have := HCN.out; omega) HLK.out)
      go_wp2_with fail
      refine KU.out.mono ?_
      rintro e Y2 ⟨rfl, hb⟩
      have HPZ := Lib.hid (HPY.out.below hb)
      clear hb p0 p1 KU
      go_wp2_with fail
      go_roundw
      case rel => exact ⟨j + 1, lst, nx, _, by have := HJ20.out; omega, by go_num, HPZ.out⟩
      case measure => have := HJ20.out; simp [intOf]; omega
    case neg =>
    go_upto_region 5 with fail
    go_cut [43] (fun c wx => c = .bool false ∧ wx = wr)
    case first =>
      by_cases hjl : j < ll
      · have d1 : decide (j < ll) = true := decide_eq_true hjl
        have d2 : decide ((j : Int) < (ll : Int)) = true := decide_eq_true (by omega)
        have d3 : decide ((j : Int) < 20) = false := decide_eq_false (by omega)
        have d4 : decide (j < 20) = false := decide_eq_false (by omega)
        clear hj2 hjl hj
        go_wp2_with fail
        go_meet
        exact ⟨rfl, rfl⟩
      · have d1 : decide (j < ll) = false := decide_eq_false hjl
        have d2 : decide ((j : Int) < (ll : Int)) = false := decide_eq_false (by omega)
        clear hj2 hjl hj
        go_wp2_with fail
        go_meet
        exact ⟨rfl, rfl⟩
    case rest =>
    obtain ⟨rfl, rfl⟩ := hcut
    clear hj2 hj
    have HBB := Lib.hid (show Below w.heap.size w wc from below_next HB1.out HP.out.bel)
    have hnb : nb = bs.length := by
      rcases HT.out with ⟨b, off, cap, h, _⟩ | ⟨rfl, a, cap, h, _⟩
      · injection h
      · injection h
    have HNB := Lib.hid hnb
    clear hnb
    by_cases h500 : nb ≤ 500
    case neg =>
      have d5 : decide ((500 : Int) < (nb : Int)) = true := decide_eq_true (by omega)
      have d6 : decide (500 < nb) = true := decide_eq_true (by omega)
      have d7 : decide (nb > 500) = true := decide_eq_true (by omega)
      clear h500
      go_wp2_with fail
      go_ret
      exact ⟨rfl, HBB.out⟩
    case pos =>
    have d5 : decide ((500 : Int) < (nb : Int)) = false := decide_eq_false (by omega)
    have d6 : decide (500 < nb) = false := decide_eq_false (by omega)
    have d7 : decide (nb > 500) = false := decide_eq_false (by omega)
    have HTW := Lib.hid (HT.out.below HBB.out)
    have hbl : bs.length ≤ 100000 := by have := HNB.out; omega
    have KP := Lib.hid (fun X (hX : Below wc.heap.size wc X) => put_rs (HP.out.below hX).rs HP.out.rg.rvb (HTW.out.below hX) hbl)
    have KR := Lib.hid (fun X (hX : Below wc.heap.size wc X) => rput18_any (HP.out.below hX).rd HP.out.rg.len HP.out.rg.rvb (n := nx) (by have := HP.out.rg.pos; constructor <;> omega) bs hbl)
    have HCV := Lib.hid (fun X (hX : Below wc.heap.size wc X) => txt_conv HTW.out X hX)
    have q0 : wc.cell? ⟨Q, 0, none⟩ = some (.int .i64 nx) := cell_of_block (o := 0) HP.out.dq rfl
    have q1 : wc.cell? ⟨Q, 1, none⟩ = some (.slice aL lst.length cL) := cell_of_block (o := 1) HP.out.dq rfl
    have hQ : Q < wc.heap.size := (Array.getElem?_eq_some_iff.1 HP.out.dq).1
    clear h500 hbl HTW
    go_wp2_with fail
    clear d5 d6 d7
    generalize lst.length = nl at *
    generalize hzs : bs ++ bytesR lst nx = zs at *
    generalize hsz : strOfNums zs = sz at *
    generalize hsb : strOfNums bs = sb at *
    have HSZ := Lib.hid hsz
    clear hzs hsz hsb
    refine Rl.wp_region_rel (fun a b => Below a.heap.size a b) wc (fun a b c h h' => below_next h h') (fun a => Below.refl _ _) hmx (by kernel_rfl) (Below.refl _ _).drew ?_
    iterate 2 (refine Rl.textR_run ?_ (fun ρ => ?_) (fun ρ W hS hd => ?_) ?_; rotate_left; (focus go_simp); (focus (obtain ⟨hc, hf⟩ := bcell hS; go_simp; first | exact ⟨rfl, Below.refl _ _⟩ | (refine ⟨?_, Below.refl _ _⟩; rfl))); (try go_simp))
    refine Rl.textR_rel 188 (fun v w => TxtAt w v zs) rfl (fun v w w' hg h => h.below hg) (fun ρ => ?_) (fun ρ W hS hd => ?_) ?_
    · go_simp
    · go_simp
      refine (KP.out W hS).mono ?_
      rintro e w1 ⟨u, rfl, ho, hb⟩
      exact ⟨u, rfl, ho.at, hb⟩
    (try go_simp)
    refine Rl.textR_run (.string sz) (fun ρ => ?_) (fun ρ W hS hd => ?_) ?_
    · go_simp
    · have hcv := txt_conv (hd (188, fun v w => TxtAt w v zs) List.mem_cons_self (show (188 : Nat) ∈ _ by decide)) W (Below.refl _ _)
      rw [HSZ.out] at hcv
      simp only at hcv
      go_simp
      first | exact ⟨rfl, Below.refl _ _⟩ | exact Below.refl _ _
    (try go_simp)
    (refine Rl.textR_run ?_ (fun ρ => ?_) (fun ρ W hS hd => ?_) ?_; rotate_left; (focus go_simp); (focus (obtain ⟨hc, hf⟩ := bcell hS; go_simp; first | exact ⟨rfl, Below.refl _ _⟩ | (refine ⟨?_, Below.refl _ _⟩; rfl))); (try go_simp))
    (refine Rl.textR_run ?_ (fun ρ => ?_) (fun ρ W hS hd => ?_) ?_; rotate_left; (focus go_simp); (focus (obtain ⟨hc, hf⟩ := bcell hS; go_simp; first | exact ⟨rfl, Below.refl _ _⟩ | (refine ⟨?_, Below.refl _ _⟩; rfl))); (try go_simp))
    (refine Rl.textR_run ?_ (fun ρ => ?_) (fun ρ W hS hd => ?_) ?_; rotate_left; (focus go_simp); (focus (have hfact := HCV.out W hS; go_simp; first | exact ⟨rfl, Below.refl _ _⟩ | (refine ⟨?_, Below.refl _ _⟩; rfl))); (try go_simp))
    (refine Rl.textR_run ?_ (fun ρ => ?_) (fun ρ W hS hd => ?_) ?_; rotate_left; (focus go_simp); (focus (obtain ⟨hc, hf⟩ := bcell hS; go_simp; refine (KR.out W hS).mono ?_; rintro e w1 ⟨rfl, hb⟩; refine ⟨_, rfl, ?_, hb⟩; rfl)); (try go_simp))
    iterate 2 (refine Rl.textR_run ?_ (fun ρ => ?_) (fun ρ W hS hd => ?_) ?_; rotate_left; (focus go_simp); (focus (obtain ⟨hc, hf⟩ := bcell hS; go_simp; first | exact ⟨rfl, Below.refl _ _⟩ | (refine ⟨?_, Below.refl _ _⟩; rfl))); (try go_simp))
    (refine Rl.textR_run ?_ (fun ρ => ?_) (fun ρ W hS hd => ?_) ?_; rotate_left; (focus go_simp); (focus (obtain ⟨hc, hf⟩ := bcell hS; go_simp; refine (rone W).mono ?_; rintro e w1 ⟨rfl, hb⟩; refine ⟨_, rfl, ?_, hb⟩; rfl)); (try go_simp))
    iterate 2 (refine Rl.textR_run ?_ (fun ρ => ?_) (fun ρ W hS hd => ?_) ?_; rotate_left; (focus go_simp); (focus (obtain ⟨hc, hf⟩ := bcell hS; go_simp; first | exact ⟨rfl, Below.refl _ _⟩ | (refine ⟨?_, Below.refl _ _⟩; rfl))); (try go_simp))
    refine Rl.textR_nil ?_
    intro ρ wA hgA hkA
    dsimp only
    have HBA := Lib.hid (below_next HBB.out hgA)
    clear hgA hkA KP KR HCV q0 q1 hQ
    generalize ρ 188 = r188
    go_simp
    go_wp2_with fail
    go_ret
    exact ⟨rfl, HBA.out⟩
end Go.Proofs.Ytbhnjmdlagjfbaa
