/- Laws that belong together: Records in a row; the frames of bytes, one by one, whatever is done with them. Condition: errors.errorType reads as the program's text lays it.; The records of bytes: Parse. Condition: errors.errorType reads as the program's text lays it. -/
import Derived.RangeFuncNested
import Derived.RangeFuncBound
import Derived.RangeFuncCalls
import Derived.RangeFuncLeaves
import Derived.Shelf.Abstract
import Derived.Shelf.RegionOpen
import Derived.WalkKit
import Derived.OwnWalkIn
import Derived.TacticsInMore
import Derived.LoopNIn
import Derived.LoopIn
import Derived.Maps.AppendAt
import Derived.Test.YtomhfnaekjmjnaaDoorMah
import Derived.Test.YtomhfnaekjmjnaaDoorMTold
import Derived.Test.YtomhfnaekjmjnaaDoorMGrowIn
namespace Go.Proofs.YtomhfnaekjmjnaaDoor
set_option linter.unusedVariables false
open Go.RowKit Go.Shelf Go.ChangeShapes Go.WideShapes Go.ChangeAt
attribute [local go_sem] Oper.semAt_some

/-- a record as it lies: its generation, its text, where that lies -/
structure RV where
  g : Int
  bs : List Int
  ad : Option Addr
def RV.val (x : RV) : Value := .slice x.ad x.bs.length x.bs.length
def RV.rc (x : RV) : JRec := (x.g, x.bs)
def flatJ : List RV → List Value
  | [] => []
  | x :: r => .int .i64 x.g :: x.val :: flatJ r
theorem flatJ_length : ∀ l, (flatJ l).length = l.length * 2
  | [] => rfl
  | x :: r => by simp [flatJ, flatJ_length r]; omega
theorem flatJ_append : ∀ l m, flatJ (l ++ m) = flatJ l ++ flatJ m
  | [], _ => rfl
  | x :: r, m => by simp [flatJ, flatJ_append r m]
theorem flatJ_get : ∀ (l : List RV) (k : Nat) (x : RV), l[k]? = some x → (flatJ l)[k * 2]? = some (.int .i64 x.g) ∧ (flatJ l)[k * 2 + 1]? = some x.val
  | y :: r, 0, x, h => by
    simp at h
    subst h
    exact ⟨rfl, rfl⟩
  | y :: r, k + 1, x, h => by
    have := flatJ_get r k x (by simpa using h)
    rw [show (k + 1) * 2 = k * 2 + 1 + 1 by omega]
    simpa [flatJ] using this
theorem info_rec : (Tryd.prog.info? 24).map (fun i => (i.zero, i.size, i.bytes)) = some (some (.agg #[.int .i64 0, .slice none 0 0]), 2, 32) := by kernel_rfl
/-- what is kept of the blocks of two types -/
def KeepT (B : Nat) (T1 T2 : TypeId) (W W' : World) : Prop := ∀ k cs T m, B ≤ k → W.heap[k]? = some (.cells cs T m) → (T = T1 ∨ T = T2) → W'.heap[k]? = W.heap[k]?
/-- records in a row, from block B on, each text by itself -/
structure RecsJ (w : World) (B : Nat) (v : Value) (l : List RV) : Prop where
  row : w.ownsRow B 24 2 v l.length (flatJ l)
  txt : ∀ x ∈ l, AloneT w B x.val x.bs
theorem RecsJ.nil {w : World} {B : Nat} : RecsJ w B (.slice none 0 0) [] := ⟨⟨rfl, .inl ⟨rfl, rfl⟩⟩, fun x h => by cases h⟩
theorem RecsJ.keep {w w' : World} {B : Nat} {v : Value} {l : List RV} (h : RecsJ w B v l) (hk : KeepT B 5 24 w w') : RecsJ w' B v l := by
  refine ⟨⟨h.row.1, ?_⟩, fun x hx => (h.txt x hx).of_block fun g cs m hg hB => hk g cs _ m hB hg (.inl rfl)⟩
  rcases h.row.2 with hn | ⟨g, cap, cur, hv, hB, hg, rest⟩
  · exact .inl hn
  · exact .inr ⟨g, cap, cur, hv, hB, (hk g _ _ _ hB hg (.inr rfl)).trans hg, rest⟩
theorem KeepT.of_below {B : Nat} {T1 T2 : TypeId} {w w' : World} (h : Below w.heap.size w w') : KeepT B T1 T2 w w' := fun k _ _ _ _ hk _ => h.block k (Array.getElem?_eq_some_iff.1 hk).1
theorem RecsJ.below {w w' : World} {B : Nat} {v : Value} {l : List RV} (h : RecsJ w B v l) (hb : Below w.heap.size w w') : RecsJ w' B v l := h.keep (KeepT.of_below hb)
theorem RecsJ.base {w : World} {B B' : Nat} {v : Value} {l : List RV} (h : RecsJ w B v l) (hB : B' ≤ B) : RecsJ w B' v l := by
  refine ⟨⟨h.row.1, ?_⟩, fun x hx => (h.txt x hx).base hB⟩
  rcases h.row.2 with hn | ⟨g, cap, cur, hv, h1, hg, rest⟩
  · exact .inl hn
  · exact .inr ⟨g, cap, cur, hv, by omega, hg, rest⟩
theorem RecsJ.form {w : World} {B : Nat} {v : Value} {l : List RV} (h : RecsJ w B v l) : (l = [] ∧ v = .slice none 0 0) ∨ ∃ g c, v = .slice (some ⟨g, 0, none⟩) l.length c ∧ B ≤ g ∧ g < w.heap.size ∧ ∀ k x, l[k]? = some x → w.cell? ⟨g, k * 2, none⟩ = some (.int .i64 x.g) ∧ w.cell? ⟨g, k * 2 + 1, none⟩ = some x.val := by
  rcases h.row.2 with ⟨e, hl⟩ | ⟨g, cap, cur, e, hg, hc, rest⟩
  · exact .inl ⟨List.length_eq_zero_iff.1 hl, e⟩
  · refine .inr ⟨g, cap, e, hg, (Array.getElem?_eq_some_iff.1 hc).1, fun k x hk => ?_⟩
    have hcl := World.ownsRow.cells (g := g) h.row (by rw [e]; rfl)
    have e0 := hcl _ _ (flatJ_get l k x hk).1
    have e1 := hcl _ _ (flatJ_get l k x hk).2
    have hadd : ∀ j, (⟨g, 0, none⟩ : Addr).add j = ⟨g, j, none⟩ := fun j => by unfold Addr.add; split <;> simp_all
    rw [hadd] at e0 e1
    exact ⟨e0, e1⟩

/-- what is handed over: a record, and how many bytes its frame has -/
structure FR where
  x : RV
  k : Nat
def encF (y : FR) : Array Value := #[.agg #[.int .i64 y.x.g, y.x.val], .int .i64 y.k]
/-- what a round keeps: what lay ahead of the call, bytes, and variables that hold bytes -/
def KpJ (B : Nat) (W W' : World) : Prop := Below B W W' ∧ KeepT B 5 22 W W'
def FramesS (zs : List Int) (ys : List FR) : Prop := ys.map (·.x.rc) = (parseF zs).1 ∧ (ys.map (·.k)).sum = (parseF zs).2
def leftJ (Bn : Nat) (W : World) : Nat := match W.heap[Bn]? with
  | some (.cells cs _ _) => (match cs[0]? with | some (Value.slice _ m _) => m | _ => 0)
  | _ => 0
theorem leftJ_eq {Bn : Nat} {W : World} {a : Option Addr} {m c : Nat} {T : TypeId} (h : W.heap[Bn]? = some (.cells #[.slice a m c] T (0, 0))) : leftJ Bn W = m := by unfold leftJ; rw [h]; rfl
theorem ErrAt.kept {w w' : World} {B : Nat} (h : ErrAt w) (hg : 0 < B) (hb : Below B w w') : ErrAt w' := by
  unfold ErrAt at h ⊢
  exact (hb.cell (p := ⟨_, 0, none⟩) hg).trans h
theorem ErrAt.lt {w : World} (h : ErrAt w) : 0 < w.heap.size := by
  unfold ErrAt at h
  exact World.block_lt_of_cell? w _ h
set_option maxRecDepth 100000 in
set_option maxHeartbeats 1000000 in
theorem frames1_told (n : Nat) (hn : 1 ≤ n) {w w0 : World} {ad : Option Addr} {n0 c0 : Nat} {zs : List Int} (hT : TxtAt w (.slice ad n0 c0) zs) (hc : n0 ≤ c0) (hl : zs.length ≤ 1099511627775) (hE : ErrAt w) (Bn : Nat) (hBn : w.heap.size ≤ Bn)
    (h0 : Below w.heap.size w w0) (hbox : w0.heap[Bn]? = some (.cells #[.slice ad n0 c0] 22 (0, 0))) :
    Told.Seq Fence.wide n Tryd.prog 65 #[.pointer (some ⟨Bn, 0, none⟩)] encF (KpJ w.heap.size) (fun y W => AloneT W w0.heap.size y.x.val y.x.bs) (FramesS zs) (zs.length + 1) (fun j => j = Bn) w0 := by
  intro l J V hV hJ hY hJ0
  have hnz := hT.form.1
  have HT := Lib.hid hT
  have HE := Lib.hid hE
  have HN := Lib.hid hnz
  have HC := Lib.hid hc
  have HL := Lib.hid hl
  have h00 := h0.size
  clear hT hE hnz hc hl
  refine callsIn_of_wp Tryd.func65 rfl trivial ?_ rfl
  simp only [Tryd.ntmps65, List.size_toArray, List.length_cons, List.length_nil, Nat.reduceAdd, Nat.reduceSub, Array.replicate_succ, Array.replicate_zero, List.push_toArray, List.append_toArray, List.nil_append, List.cons_append]
  gi_wp2
  gi_loopw [3] (fun _ wr => ∃ (pre : List FR) (d : Nat) (a : Option Addr), d ≤ zs.length ∧ pre.length ≤ d ∧ wr.heap[Bn]? = some (.cells #[.slice a (n0 - d) (c0 - d)] 22 (0, 0)) ∧ TxtAt w (.slice a (n0 - d) (c0 - d)) (zs.drop d) ∧
      pre.map (·.x.rc) ++ (parseF (zs.drop d)).1 = (parseF zs).1 ∧ (pre.map (·.k)).sum + (parseF (zs.drop d)).2 = (parseF zs).2 ∧ J pre wr ∧ Below w.heap.size w wr ∧ w0.heap.size ≤ wr.heap.size) (fun _ wr => leftJ Bn wr)
  case atStart => exact ⟨[], 0, ad, Nat.zero_le _, Nat.le_refl _, (hV.block _ (Array.getElem?_eq_some_iff.1 hbox).1).trans hbox, by rw [List.drop_zero]; exact HT.out, by simp, by simp, hJ0, h0.trans (hV.mono h00), hV.size⟩
  case round =>
    obtain ⟨pre, d, a, hd, hpd, hb, ht, hs1, hs2, hJs, hbw, hz0⟩ := hrel
    have hsz : Bn < wr.heap.size := (Array.getElem?_eq_some_iff.1 hb).1
    have cb := cell_of_block (o := 0) hb rfl
    have hlen : (zs.drop d).length ≤ 1099511627775 := by have := HL.out; simp; omega
    have KF := Lib.hid (first_any (ht.below hbw) (by have := HC.out; omega) hlen (HE.out.kept HE.out.lt hbw))
    have HS1 := Lib.hid hs1
    have HS2 := Lib.hid hs2
    have HD := Lib.hid hd
    have HPD := Lib.hid hpd
    have HTd := Lib.hid ht
    have HBk := Lib.hid hb
    unfold FirstEnd firstG at KF
    clear hs1 hs2 hd hpd ht hlen
    cases hf : firstF (zs.drop d) with
    | none =>
      rw [hf] at KF
      simp only [Option.getD_none, Option.isSome_none] at KF
      have hp := parse_none hf
      have HP := Lib.hid hp
      clear hf hp hb
      gi_wp2_with (refine ⟨trivial, ?_⟩; gi_at_call 66; refine (callsIn_wide.2 KF.out).mono ?_; rintro e W1 ⟨u, rfl, hal, hb1⟩; obtain ⟨ua, uc, rfl, ho1⟩ := hal; have HB1 := Lib.hid hb1; clear ho1 hb1)
      refine ⟨fun _ h => (by cases h), ?_⟩
      gi_wp2
      refine bodyPost_ret (results_none rfl _ _ _) rfl ?_
      refine ⟨⟨_, rfl⟩, pre, ⟨?_, ?_⟩, ?_⟩
      · have := HS1.out; rw [HP.out] at this; simpa using this
      · have := HS2.out; rw [HP.out] at this; simpa using this
      · refine hJ pre _ _ hJs (Fr.of_below ?_)
        have hb1 := HB1.out
        exact (by repeat (first | exact Below.refl _ _ | assumption | refine below_drewN ?_ _ | refine Below.drew ?_ | refine below_alloc ?_ _ | refine Below.alloc ?_ (by first | omega | (simp; done) | (simp; omega)) _ | refine Below.setCell ?_ (Below.size (by assumption)) _ | refine Below.setCell ?_ (by first | omega | (simp; done) | (simp; omega)) _ | (refine Below.trans ?_ (Below.mono (by assumption) (by first | omega | (simp; done) | (simp; omega)))) | refine below_next ?_ (by assumption)))
    | some p =>
      obtain ⟨⟨rg, rb⟩, k⟩ := p
      rw [hf] at KF
      simp only [Option.getD_some, Option.isSome_some] at KF
      have HP := Lib.hid (parse_some hf)
      have hps := first_pos hf
      have hdl : (zs.drop d).length = zs.length - d := by simp
      have hk8 : 8 ≤ k ∧ k ≤ zs.length - d := by omega
      obtain ⟨b, o, rfl⟩ : ∃ b o, a = some ⟨b, o, none⟩ := by
        rcases HTd.out.form.2 with ⟨_, e⟩ | ⟨e, _⟩ | ⟨b, o, e, _⟩
        · rw [e] at hps; simp at hps; omega
        · rw [e] at hps; simp at hps; omega
        · exact ⟨b, o, e⟩
      have hkn : k ≤ n0 - d := by have := HN.out; omega
      have hcn : n0 - d ≤ c0 - d := by have := HC.out; omega
      have hsl := fun W => slice_from (b := b) (o := o) (n := n0 - d) (c := c0 - d) (k := k) hkn hcn W
      have HTk := Lib.hid (HTd.out.behind (k := k) hkn hcn)
      have hplen : pre.length < zs.length + 1 := by have := HD.out; have := HPD.out; omega
      have HK8 := Lib.hid hk8
      have HKN := Lib.hid hkn
      clear hf hps hdl hb hk8 hkn hcn
      generalize hn1 : n0 - d = n1 at *
      generalize hc1 : c0 - d = c1 at *
      generalize ho1 : (if c1 = k then o else o + k) = o1 at *
      have HN1 := Lib.hid hn1
      have HC1 := Lib.hid hc1
      clear hn1 hc1 ho1
      gi_wp2_with (refine ⟨trivial, ?_⟩; gi_at_call 66; refine (callsIn_wide.2 KF.out).mono ?_; rintro e W1 ⟨u, rfl, hal, hb1⟩; have hal2 := hal.base hz0; obtain ⟨ua, uc, rfl, ho1⟩ := hal; have hb2 := below_alloc (Below.refl _ W1) (.cells #[.int .i64 rg, .slice ua rb.length rb.length] 24); have hal3 := hal2.below hb2; obtain ⟨fn, tmps, assign, body, hy, hR⟩ := hY pre ⟨⟨rg, rb, ua⟩, k⟩ _ (hJ pre _ _ hJs (Fr.of_below (below_next hb1 hb2))) hal3 hplen; dsimp only [encF, RV.val] at hy; have HB2 := Lib.hid (below_next hb1 hb2); clear ho1 hb1 hb2 hal2 hal3)
      refine hR.mono ?_
      rintro e W3 ⟨rfl, hJ3, hk3⟩
      have hB2 := (HB2.out.block _ hsz).trans HBk.out
      have hB3 := (hk3.2 Bn _ _ _ hBn hB2 (.inr rfl)).trans hB2
      have cb3 := cell_of_block (o := 0) hB3 rfl
      have fb3 := free_of_block 0 hB3
      have hw := (wrote_refl hB3).set 0 (.slice (some ⟨b, o1, none⟩) (n1 - k) (c1 - k))
      have HW := Lib.hid hw
      have HBw3 := Lib.hid (hbw.trans ((HB2.out.mono hbw.size).trans hk3.1))
      have HJ3 := Lib.hid hJ3
      have HZ3 := Lib.hid (show w0.heap.size ≤ W3.heap.size from Nat.le_trans hz0 (Nat.le_trans HB2.out.size hk3.1.size))
      clear hw hB3 hB2 hJ3 hk3 cb
      gi_wp2
      have e1 : n1 - k = n0 - (d + k) := by have := HN1.out; omega
      have e2 : c1 - k = c0 - (d + k) := by have := HC1.out; omega
      have ht := HTk.out
      rw [List.drop_drop] at ht
      have hp := HP.out
      rw [List.drop_drop] at hp
      have hs1 := HS1.out
      have hs2 := HS2.out
      rw [hp] at hs1 hs2
      go_roundw
      case rel =>
        refine ⟨pre ++ [⟨⟨rg, rb, ua⟩, k⟩], d + k, some ⟨b, o1, none⟩, by have := HD.out; have := HK8.out; omega, by have := HPD.out; have := HK8.out; simp; omega, by rw [← e1, ← e2]; exact HW.out.there, by rw [← e1, ← e2]; exact ht, ?_, ?_, hJ _ _ _ HJ3.out ⟨HW.out.os, HW.out.tape, HW.out.output, Nat.le_of_eq HW.out.size.symm, fun j _ hn => HW.out.rest j hn⟩, HW.out.below HBw3.out hBn, by have := HZ3.out; have := HW.out.size; omega⟩
        · rw [← hs1]; simp [RV.rc]
        · rw [← hs2]; simp; omega
      case measure =>
        rw [leftJ_eq HW.out.there, leftJ_eq HBk.out]
        have := HK8.out
        have := HKN.out
        omega
end Go.Proofs.YtomhfnaekjmjnaaDoor
namespace Go.Proofs.YtomhfnaekjmjnaaDoor
set_option linter.unusedVariables false
open Go.RowKit Go.Shelf Go.ChangeShapes Go.WideShapes Go.ChangeAt
attribute [local go_sem] Oper.semAt_some
attribute [local go_sem ↓] comesTo_value_eq comesTo_skip_eq comesTo_enter_eq

theorem frames_any (v : Value) (w : World) (hv : v.oneCell' = true) : Calls Tryd.prog 44 #[v] w fun e w' => e = .returned (.func (.func 65) #[] #[.pointer (some ⟨w.heap.size, 0, none⟩)]) ∧ w' = w.alloc (.cells #[v] 22) := by
  cases v <;> first | (simp [Value.oneCell'] at hv; done) | (
  go_enter Tryd.func44, Tryd.ntmps44
  go_wp2
  go_ret
  exact ⟨rfl, rfl⟩)
theorem grown_cells {W W' : World} {row : Option Nat} {B : Nat} (hg : W.grownBy W' row) (hr : ∀ r, row = some r → B ≤ r ∧ ∃ o : Obj, W.heap[r]? = some o ∧ o.isCells = false) {k : Nat} {cs : Array Value} {T : TypeId} {m : Nat × Nat} (h : W.heap[k]? = some (.cells cs T m)) : W'.heap[k]? = W.heap[k]? :=
  hg.block k (Array.getElem?_eq_some_iff.1 h).1 fun e => by
    obtain ⟨_, o, ho, hc⟩ := hr k e.symm
    rw [h] at ho
    cases ho
    cases hc
theorem putJ {W : World} {l : Nat} {o o' : Obj} (h : W.heap[l]? = some o) (h1 : o.isCells = false) {k : Nat} {cs : Array Value} {T : TypeId} {m : Nat × Nat} (hk : W.heap[k]? = some (.cells cs T m)) : (W.putObj l o').heap[k]? = W.heap[k]? :=
  World.putObj_heap_other fun e => by subst e; rw [hk] at h; cases h; cases h1
/-- what a parse leaves -/
def ParseEnd (w : World) (zs : List Int) (e : Ending) (w' : World) : Prop := ∃ v l, e = .returned (.tuple #[v, .int .i64 ((parseF zs).2 : Int)]) ∧ RecsJ w' w.heap.size v l ∧ l.map RV.rc = (parseF zs).1 ∧ Below w.heap.size w w'
/-- in the midst of a parse: what has come, where the variables lie -/
structure PI (w : World) (pre : List FR) (W : World) : Prop where
  row : ∃ v, Boxed W w.heap.size 33 v ∧ RecsJ W (w.heap.size + 3) v (pre.map (·.x))
  sum : Boxed W (w.heap.size + 1) 3 (.int .i64 (IntKind.i64.wrap (((pre.map (·.k)).sum : Nat) : Int)))
  bel : Below w.heap.size w W
  big : w.heap.size + 3 ≤ W.heap.size
/-- a variable that holds a record -/
def Boxed2 (W : World) (B : Nat) (x : RV) : Prop := W.heap[B]? = some (.cells #[.int .i64 x.g, x.val] 24 (0, 0))
theorem w64J (n : Int) : IntKind.i64.wrap n = wrap64 n := by rw [IntKind.wrap_i64]; unfold wrap64; rfl
theorem wrap_add (a b : Int) : IntKind.i64.wrap (IntKind.i64.wrap a + b) = IntKind.i64.wrap (a + b) := by
  simp only [IntKind.wrap_i64]
  omega
theorem cells_two (W : World) (x y : Value) (T : TypeId) (j : Nat) (u : Value) (h : [x, y][j]? = some u) : (W.alloc (.cells #[x, y] T)).cell? ((⟨W.heap.size, 0, none⟩ : Addr).add j) = some u := by
  have hadd : (⟨W.heap.size, 0, none⟩ : Addr).add j = ⟨W.heap.size, j, none⟩ := by unfold Addr.add; split <;> simp_all
  rw [hadd]
  refine cell_of_block (World.alloc_heap_new W _) ?_
  simpa using h
theorem sum_le {ys : List FR} {zs : List Int} (h : FramesS zs ys) : (ys.map (·.k)).sum ≤ zs.length := by
  rw [h.2]; exact parse_le zs.length zs (Nat.le_refl _)
set_option maxRecDepth 100000 in
set_option maxHeartbeats 1000000 in
theorem parse_any {w : World} {ad : Option Addr} {n c : Nat} {zs : List Int} (hT : TxtAt w (.slice ad n c) zs) (hc : n ≤ c) (hl : zs.length ≤ 1099511627775) (hE : ErrAt w) :
    Calls Tryd.prog 16 #[.slice ad n c] w fun e w' => ParseEnd w zs e w' := by
  have hmx : Tryd.prog.follows .mixedOrders = true := by kernel_rfl
  obtain ⟨i0, hi, hz0, hz1, hz2⟩ := info_parts info_rec
  have HL := Lib.hid hl
  have h1 := below_alloc (Below.refl _ w) (.cells #[.slice none 0 0] 33)
  have h2 := below_alloc h1 (.cells #[.int .i64 0] 3)
  have h3 := below_alloc h2 (.cells #[.slice ad n c] 22)
  have bL := Boxed.new w 33 (.slice none 0 0)
  have bN := Boxed.new (w.alloc (.cells #[.slice none 0 0] 33)) 3 (.int .i64 0)
  rw [World.size_alloc] at bN
  have bB := Boxed.new ((w.alloc (.cells #[.slice none 0 0] 33)).alloc (.cells #[.int .i64 0] 3)) 22 (.slice ad n c)
  rw [World.size_alloc, World.size_alloc] at bB
  have bL3 := (bL.alloc (.cells #[.int .i64 0] 3)).alloc (.cells #[.slice ad n c] 22)
  have bN3 := bN.alloc (.cells #[.slice ad n c] 22)
  have hs3 : (((w.alloc (.cells #[.slice none 0 0] 33)).alloc (.cells #[.int .i64 0] 3)).alloc (.cells #[.slice ad n c] 22)).heap.size = w.heap.size + 3 := by simp
  refine (callsIn_wide (n := 3)).1 ?_
  refine callsIn_of_wp_marks Tryd.func16 rfl trivial ?_ rfl
  simp only [Tryd.ntmps16, List.size_toArray, List.length_cons, List.length_nil, Nat.reduceAdd, Nat.reduceSub, Array.replicate_succ, Array.replicate_zero, List.push_toArray, List.append_toArray, List.nil_append, List.cons_append]
  gi_wp2_with (refine ⟨trivial, ?_⟩; gi_at_call 44; refine (callsIn_wide.2 (frames_any _ _ rfl)).mono ?_; rintro e w' ⟨rfl, rfl⟩)
  have hseq := frames1_told 2 (by omega) hT hc hl hE (w.heap.size + 1 + 1) (by omega) h3 bB
  rw [hs3] at hseq
  clear h1 h2 bL bN bB hl hE hT
  generalize ((w.alloc (.cells #[.slice none 0 0] 33)).alloc (.cells #[.int .i64 0] 3)).alloc (.cells #[.slice ad n c] 22) = W0 at *
  refine Told.range rfl (by omega) (gf := 65) (lb := #[.pointer (some ⟨w.heap.size + 1 + 1, 0, none⟩)]) rfl trivial (enters_of Tryd.func65 (by kernel_rfl) rfl) hseq (fun j hj => by omega)
    (fun {A B C} h k => ⟨h.1.trans k.1, fun i cs T m hB hi hT => (k.2 i cs T m hB ((h.2 i cs T m hB hi hT).trans hi) hT).trans (h.2 i cs T m hB hi hT)⟩)
    (fun W l o o' hl h h1 => ⟨(Below.refl _ W).grown (grownBy_putObj' W l o') (by have := (Array.getElem?_eq_some_iff.1 h).1; omega) (fun k e => by cases e; omega), fun k cs T m _ hk _ => putJ h h1 hk⟩)
    (Below.refl _ _) (fun _ => rfl)
    (PI w) (fun pre W W' row hs hg hr => ?_) (fun y W W' row hs hg hr => hs.of_block fun g cs m hg' _ => grown_cells hg hr hg') (fun pre A B hs hf => ?_)
    ⟨⟨_, bL3, RecsJ.nil⟩, bN3, h3, by omega⟩
    (fun y a' W => ∃ Bx, Boxed2 W Bx y.x ∧ a' = { tmps := #[.slice ad n c, undef, .slice none 0 0, .int .i64 0, .pointer (some ⟨w.heap.size, 0, none⟩), .pointer (some ⟨w.heap.size + 1, 0, none⟩), .pointer (some ⟨Bx, 0, none⟩), .int .i64 y.k, .slice ad n c, .func (.func 65) #[] #[.pointer (some ⟨w.heap.size + 1 + 1, 0, none⟩)], .agg #[.int .i64 y.x.g, y.x.val], .int .i64 y.k, undef, undef, undef, undef, undef, undef, undef, undef, undef], defers := [] })
    (fun y a' s W W' row hs hg hr => ?_) ?assign ?body ?done
  · obtain ⟨⟨v, hv, hrec⟩, hsum, hbel, hbig⟩ := hs
    exact ⟨⟨v, (grown_cells hg hr hv).trans hv, hrec.keep fun k cs T m _ hk _ => grown_cells hg hr hk⟩, (grown_cells hg hr hsum).trans hsum, hbel.grown hg hbel.size (fun k e => by have := (hr k e).1; omega), Nat.le_trans hbig hg.size⟩
  · obtain ⟨⟨v, hv, hrec⟩, hsum, hbel, hbig⟩ := hs
    exact ⟨⟨v, (hf.block _ hv.lt (by show ¬ (w.heap.size = w.heap.size + 1 + 1); omega)).trans hv, hrec.keep fun k cs T m hB hk _ => hf.block k (Array.getElem?_eq_some_iff.1 hk).1 (by show ¬ (k = w.heap.size + 1 + 1); omega)⟩, (hf.block _ hsum.lt (by show ¬ (w.heap.size + 1 = w.heap.size + 1 + 1); omega)).trans hsum, hbel.trans (hf.below hbel.size (fun j hj => by have hj' : j = w.heap.size + 1 + 1 := hj; omega)), Nat.le_trans hbig hf.size⟩
  · obtain ⟨Bx, hb, e⟩ := hs
    exact ⟨Bx, (grown_cells hg hr hb).trans hb, e⟩
  case assign =>
    intro l pre y W K hi hp hK
    obtain ⟨⟨g, bs, a⟩, k⟩ := y
    have hbA := below_alloc (Below.refl _ W) (.cells #[.int .i64 g, .slice a bs.length bs.length] 24)
    have HX := Lib.hid (hK _ (W.alloc (.cells #[.int .i64 g, .slice a bs.length bs.length] 24)) ((KeepsOthers.alloc W _).from _) ⟨hbA.mono hi.bel.size, KeepT.of_below hbA⟩
      ⟨by
        obtain ⟨v, hv, hr⟩ := hi.row
        exact ⟨v, hv.alloc _, hr.below hbA⟩, hi.sum.alloc _, hi.bel.trans (hbA.mono hi.bel.size), Nat.le_trans hi.big hbA.size⟩ (hp.below hbA) ⟨W.heap.size, World.alloc_heap_new W _, rfl⟩)
    clear hK hi hp hbA
    dsimp only [encF, RV.val] at HX ⊢
    gi_wp2
    exact HX.out
  case body =>
    rintro l pre y a' W hi hp ⟨Bx, hx, rfl⟩ hlen
    obtain ⟨⟨g, bs, a⟩, k⟩ := y
    obtain ⟨⟨v, hv, hrec⟩, hsum, hbel, hbig⟩ := hi
    dsimp only [RV.val] at hp hx ⊢
    unfold Boxed2 at hx
    dsimp only [RV.val] at hx
    have cv := hv.cell
    have cs := hsum.cell
    have x0 := cell_of_block (o := 0) hx rfl
    have x1 := cell_of_block (o := 1) hx rfl
    have fv := hv.frozen
    have fs := hsum.frozen
    have hLl : (pre.map (·.x)).length = pre.length := List.length_map _
    have hlen' : (pre.map (·.x)).length ≤ zs.length := by omega
    have hzl := HL.out
    have hq2 : IntKind.i64.wrap (IntKind.i64.wrap (((pre.map (·.k)).sum : Nat) : Int) + (k : Int)) = IntKind.i64.wrap ((((pre ++ [(⟨⟨g, bs, a⟩, k⟩ : FR)]).map (·.k)).sum : Nat) : Int) := by
      rw [wrap_add]; congr 1; simp
    have hL2 : (pre ++ [(⟨⟨g, bs, a⟩, k⟩ : FR)]).map (·.x) = pre.map (·.x) ++ [⟨g, bs, a⟩] := by simp
    have HQ2 := Lib.hid hq2
    have HL2 := Lib.hid hL2
    generalize pre ++ [(⟨⟨g, bs, a⟩, k⟩ : FR)] = pre' at *
    generalize (pre.map (·.x)) = L at *
    generalize IntKind.i64.wrap (((pre.map (·.k)).sum : Nat) : Int) = q at *
    clear hq2 hL2 hLl hlen
    have hob := Ap.own_blk hrec.row
    have hol := Ap.own_lt hrec.row
    have HOB := Lib.hid hob
    have HOL := Lib.hid hol
    have HRec := Lib.hid hrec
    have HP := Lib.hid hp
    have hmx1 : L.length + 1 ≤ maxLen := by unfold maxLen; omega
    have hmx2 : (L.length + 1) * 32 ≤ 140737488355328 := by omega
    have hbg : w.heap.size + 3 ≤ (W.alloc (.cells #[.int .i64 g, .slice a bs.length bs.length] 24)).heap.size := by simp; omega
    have HV := Lib.hid hv
    have HSm := Lib.hid hsum
    have HBel := Lib.hid hbel
    have HBig := Lib.hid hbig
    clear hob hol hrec hp hlen' hzl hv hsum hbel hbig hx
    gi_wp2_with (gi_at_builtin; refine wpListIn_append_own _ rfl _ _ 33 rfl (w.heap.size + 3) 24 i0 (.agg #[.int .i64 0, .slice none 0 0]) 2 32 Tryd.underlying33 hi hz0 hz1 hz2 rfl (by decide) v L.length (flatJ L) rfl (HRec.out.row.alloc _) ⟨W.heap.size, 0, none⟩ 1 1 (flatJ [⟨g, bs, a⟩]) rfl rfl (fun j u hj => cells_two W _ _ _ j u hj) (by intro u hu; simp [flatJ, RV.val] at hu; rcases hu with rfl | rfl <;> rfl) hmx1 hmx2 hbg ?_; intro v' w1 hown' hgrow _; obtain ⟨g', cap', rfl⟩ := ownsRow_succ hown'; have hv1 := Boxed.kept (HV.out.alloc _) hgrow (fun e => by have := HOB.out _ e.symm; omega); have hs1 := Boxed.kept (HSm.out.alloc _) hgrow (fun e => by have := HOB.out _ e.symm; omega); have cv1 := hv1.cell; have fv1 := hv1.frozen; have cs1 := hs1.cell; have fs1 := hs1.frozen; have HO' := Lib.hid hown'; have HG := Lib.hid hgrow; have HV1 := Lib.hid hv1; have HS1 := Lib.hid hs1; clear hown' hgrow hv1 hs1)
    have hw1 := (wrote_refl HV1.out).set 0 (.slice (some ⟨g', 0, none⟩) (L.length + 1) cap')
    have nS := (hw1.rest (w.heap.size + 1) (by omega)).trans HS1.out
    have hw2 := (wrote_refl nS).set 0 (.int .i64 (IntKind.i64.wrap (q + (k : Int))))
    have hrest : ∀ j, j ≠ w.heap.size → j ≠ w.heap.size + 1 → j < W.heap.size → some j ≠ v.ownBlock → ((w1.setCell ⟨w.heap.size, 0, none⟩ (.slice (some ⟨g', 0, none⟩) (L.length + 1) cap')).setCell ⟨w.heap.size + 1, 0, none⟩ (.int .i64 (IntKind.i64.wrap (q + (k : Int))))).heap[j]? = W.heap[j]? := fun j h1 h2 h3 h4 =>
      (hw2.rest j h2).trans ((hw1.rest j h1).trans ((HG.out.block j (by simp; omega) h4).trans (Below.heap_alloc W _ j h3)))
    have hrow2 : ∀ j, w.heap.size + 3 ≤ j → ((w1.setCell ⟨w.heap.size, 0, none⟩ (.slice (some ⟨g', 0, none⟩) (L.length + 1) cap')).setCell ⟨w.heap.size + 1, 0, none⟩ (.int .i64 (IntKind.i64.wrap (q + (k : Int))))).heap[j]? = w1.heap[j]? := fun j h =>
      (hw2.rest j (by omega)).trans (hw1.rest j (by omega))
    have hown : ∀ (j : Nat) cs T m, W.heap[j]? = some (Obj.cells cs T m) → (T = 5 ∨ T = 22) → some j ≠ v.ownBlock := fun j cs T m hj hT e => by
      rcases HRec.out.row.2 with ⟨e2, _⟩ | ⟨g2, cap2, cur2, e2, _, hh, _⟩
      · rw [e2] at e; cases e
      · rw [e2] at e
        simp only [Value.ownBlock, Option.some.injEq] at e
        subst e
        rw [hj] at hh
        cases hh
        rcases hT with h | h <;> exact absurd h (by decide)
    have hkeep : ∀ (j : Nat) cs T m, W.heap[j]? = some (Obj.cells cs T m) → (T = 5 ∨ T = 22) → ((w1.setCell ⟨w.heap.size, 0, none⟩ (.slice (some ⟨g', 0, none⟩) (L.length + 1) cap')).setCell ⟨w.heap.size + 1, 0, none⟩ (.int .i64 (IntKind.i64.wrap (q + (k : Int))))).heap[j]? = W.heap[j]? := fun j cs T m hj hT =>
      hrest j (fun e => by subst e; rw [show W.heap[w.heap.size]? = _ from HV.out] at hj; cases hj; rcases hT with h | h <;> exact absurd h (by decide)) (fun e => by subst e; rw [show W.heap[w.heap.size + 1]? = _ from HSm.out] at hj; cases hj; rcases hT with h | h <;> exact absurd h (by decide)) (Array.getElem?_eq_some_iff.1 hj).1 (hown j cs T m hj hT)
    have hbl : Below w.heap.size W ((w1.setCell ⟨w.heap.size, 0, none⟩ (.slice (some ⟨g', 0, none⟩) (L.length + 1) cap')).setCell ⟨w.heap.size + 1, 0, none⟩ (.int .i64 (IntKind.i64.wrap (q + (k : Int))))) :=
      (((Below.grown ((below_alloc (Below.refl _ W) _).mono HBel.out.size) HG.out (by have := HBel.out.size; simp; omega) (fun j e => by have := HOB.out j e; omega)).setCell (p := ⟨w.heap.size, 0, none⟩) (Nat.le_refl _) _).setCell (p := ⟨w.heap.size + 1, 0, none⟩) (Nat.le_succ _) _)
    have hko : KeepsOthers W ((w1.setCell ⟨w.heap.size, 0, none⟩ (.slice (some ⟨g', 0, none⟩) (L.length + 1) cap')).setCell ⟨w.heap.size + 1, 0, none⟩ (.int .i64 (IntKind.i64.wrap (q + (k : Int))))) :=
      (((KeepsOthers.alloc W _).trans (KeepsOthers.of_grownBy HG.out fun j o ej hj => by
        rcases (World.ownsRow.alloc HRec.out.row (Obj.cells #[.int .i64 g, .slice a bs.length bs.length] 24)).2 with ⟨e2, _⟩ | ⟨g2, cap2, cur2, e2, _, hh, _⟩
        · rw [e2] at ej; cases ej
        · rw [e2] at ej
          simp only [Value.ownBlock, Option.some.injEq] at ej
          subst ej
          rw [hh] at hj
          cases hj
          rfl)).trans (KeepsOthers.setCell _ _ _)).trans (KeepsOthers.setCell _ _ _)
    have HE := Lib.hid (show Told.ends (w.heap.size + 3) (KpJ w.heap.size) (PI w) pre' W .normal { tmps := #[], defers := [] } ((w1.setCell ⟨w.heap.size, 0, none⟩ (.slice (some ⟨g', 0, none⟩) (L.length + 1) cap')).setCell ⟨w.heap.size + 1, 0, none⟩ (.int .i64 (IntKind.i64.wrap (q + (k : Int))))) from by
      refine ⟨rfl, hko.from _, ⟨hbl, fun j cs T m _ hj hT => hkeep j cs T m hj hT⟩, ⟨_, (hw2.rest _ (by omega)).trans hw1.there, ?_⟩, ?_, HBel.out.trans hbl, Nat.le_trans HBig.out hbl.size⟩
      · rw [HL2.out]
        refine ⟨?_, fun x hx => ?_⟩
        · rw [List.length_append, flatJ_append]
          exact Ap.own_keep HO'.out fun j hj => hrow2 j (Ap.own_blk HO'.out j hj)
        · rcases List.mem_append.1 hx with hx | hx
          · exact (HRec.out.txt x hx).of_block fun j cs m hj _ => hkeep j cs _ m hj (.inl rfl)
          · rw [List.mem_singleton.1 hx]
            exact HP.out.of_block fun j cs m hj _ => hkeep j cs _ m hj (.inl rfl)
      · rw [← HQ2.out]
        exact hw2.there)
    clear hw1 nS hw2 hrest hrow2 hown hkeep hbl hko cv cs x0 x1 fv fs
    gi_wp2
    have h := HE.out.2
    rw [w64J] at h
    rw [← hs3] at h
    exact ⟨rfl, h⟩
  case done =>
    rintro D ys W hD hS ⟨⟨v, hv, hrec⟩, hsum, hbel, hbig⟩ hK
    have hle := sum_le hS
    have hzl := HL.out
    have hwz : IntKind.i64.wrap (((ys.map (·.k)).sum : Nat) : Int) = (((ys.map (·.k)).sum : Nat) : Int) := by rw [IntKind.wrap_i64]; omega
    rw [hwz, hS.2] at hsum
    have cv := hv.cell
    have cs := hsum.cell
    have HRec := Lib.hid hrec
    have HS := Lib.hid hS.1
    have HBel := Lib.hid hbel
    have HK := Lib.hid hK
    have hvf : ∃ a m c, v = .slice a m c := by
      rcases hrec.form with ⟨_, rfl⟩ | ⟨g, c, rfl, _⟩
      · exact ⟨_, _, _, rfl⟩
      · exact ⟨_, _, _, rfl⟩
    obtain ⟨va, vn, vc, rfl⟩ := hvf
    clear hrec hS hbel hK hle hzl hwz hbig
    gi_wp2
    refine wpIn_region_grow WideF.wide (fun w' => w' = W.drew) hmx (by kernel_rfl) (by kernel_rfl) rfl ?_
    iterate 4 (refine textS_run ?_ ?_ (fun W hS => ?_) ?_; rotate_left; (focus go_simp); (focus (subst hS; go_simp; all_goals (first | exact ⟨rfl, rfl⟩ | rfl | (refine ⟨?_, rfl⟩; rfl)))); (try go_simp))
    refine textS_nil ?_
    have hK2 : W.drew.heap[D]? = some (.deferred (some [])) := HK.out
    have HE := Lib.hid (show RecsJ (W.drew.putObj D (.deferred none)) w.heap.size (.slice va vn vc) (ys.map (·.x)) ∧ Below w.heap.size w (W.drew.putObj D (.deferred none)) from
      ⟨((HRec.out.base (by omega)).below (Below.refl _ _).drew).keep fun k cs T m _ hk _ => putJ hK2 rfl hk, (Below.drew HBel.out).trans ((Below.refl _ W.drew).grown (grownBy_putObj' W.drew D _) (by have := HBel.out.size; show w.heap.size ≤ W.heap.size; exact this) (fun k e => by cases e; omega))⟩)
    gi_wp2
    refine ⟨by simp, .inl ⟨_, _, rfl, run_takeDeferred hK2, ?_⟩⟩
    exact ⟨_, results_tmp2 rfl _ _ _, _, _, rfl, HE.out.1, by rw [← HS.out]; simp [List.map_map, Function.comp_def], HE.out.2⟩
end Go.Proofs.YtomhfnaekjmjnaaDoor
