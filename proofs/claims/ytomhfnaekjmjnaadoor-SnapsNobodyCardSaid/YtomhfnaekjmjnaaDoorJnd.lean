/- Records in a row; the frames of bytes, one by one, whatever is done with them. Condition: errors.errorType reads as the program's text lays it. -/
import Derived.RangeFuncNested
import Derived.RangeFuncBound
import Derived.RangeFuncCalls
import Derived.RangeFuncLeaves
import Derived.Shelf.Abstract
import Derived.Shelf.RegionOpen
import Derived.WalkKit
import Derived.OwnWalkIn
import Derived.TacticsInMore
import Derived.LoopNIn
import Derived.LoopIn
import Derived.Maps.AppendAt
import Derived.Test.YtomhfnaekjmjnaaDoorJnc
import Derived.Test.YtomhfnaekjmjnaaDoorTold
namespace Go.Proofs.YtomhfnaekjmjnaaDoor
set_option linter.unusedVariables false
open Go.RowKit Go.Shelf Go.ChangeShapes Go.WideShapes Go.ChangeAt
attribute [local go_sem] Oper.semAt_some

/-- a record as it lies: its generation, its text, where that lies -/
structure RV where
  g : Int
  bs : List Int
  ad : Option Addr
def RV.val (x : RV) : Value := .slice x.ad x.bs.length x.bs.length
def RV.rc (x : RV) : JRec := (x.g, x.bs)
def flatJ : List RV → List Value
  | [] => []
  | x :: r => .int .i64 x.g :: x.val :: flatJ r
theorem flatJ_length : ∀ l, (flatJ l).length = l.length * 2
  | [] => rfl
  | x :: r => by simp [flatJ, flatJ_length r]; omega
theorem flatJ_append : ∀ l m, flatJ (l ++ m) = flatJ l ++ flatJ m
  | [], _ => rfl
  | x :: r, m => by simp [flatJ, flatJ_append r m]
theorem flatJ_get : ∀ (l : List RV) (k : Nat) (x : RV), l[k]? = some x → (flatJ l)[k * 2]? = some (.int .i64 x.g) ∧ (flatJ l)[k * 2 + 1]? = some x.val
  | y :: r, 0, x, h => by
    simp at h
    subst h
    exact ⟨rfl, rfl⟩
  | y :: r, k + 1, x, h => by
    have := flatJ_get r k x (by simpa using h)
    rw [show (k + 1) * 2 = k * 2 + 1 + 1 by omega]
    simpa [flatJ] using this
theorem info_rec : (Tryd.prog.info? 24).map (fun i => (i.zero, i.size, i.bytes)) = some (some (.agg #[.int .i64 0, .slice none 0 0]), 2, 32) := by kernel_rfl
/-- what is kept of the blocks of two types -/
def KeepT (B : Nat) (T1 T2 : TypeId) (W W' : World) : Prop := ∀ k cs T m, B ≤ k → W.heap[k]? = some (.cells cs T m) → (T = T1 ∨ T = T2) → W'.heap[k]? = W.heap[k]?
/-- records in a row, from block B on, each text by itself -/
structure RecsJ (w : World) (B : Nat) (v : Value) (l : List RV) : Prop where
  row : w.ownsRow B 24 2 v l.length (flatJ l)
  txt : ∀ x ∈ l, AloneT w B x.val x.bs
theorem RecsJ.nil {w : World} {B : Nat} : RecsJ w B (.slice none 0 0) [] := ⟨⟨rfl, .inl ⟨rfl, rfl⟩⟩, fun x h => by cases h⟩
theorem RecsJ.keep {w w' : World} {B : Nat} {v : Value} {l : List RV} (h : RecsJ w B v l) (hk : KeepT B 5 24 w w') : RecsJ w' B v l := by
  refine ⟨⟨h.row.1, ?_⟩, fun x hx => (h.txt x hx).of_block fun g cs m hg hB => hk g cs _ m hB hg (.inl rfl)⟩
  rcases h.row.2 with hn | ⟨g, cap, cur, hv, hB, hg, rest⟩
  · exact .inl hn
  · exact .inr ⟨g, cap, cur, hv, hB, (hk g _ _ _ hB hg (.inr rfl)).trans hg, rest⟩
theorem KeepT.of_below {B : Nat} {T1 T2 : TypeId} {w w' : World} (h : Below w.heap.size w w') : KeepT B T1 T2 w w' := fun k _ _ _ _ hk _ => h.block k (Array.getElem?_eq_some_iff.1 hk).1
theorem RecsJ.below {w w' : World} {B : Nat} {v : Value} {l : List RV} (h : RecsJ w B v l) (hb : Below w.heap.size w w') : RecsJ w' B v l := h.keep (KeepT.of_below hb)
theorem RecsJ.base {w : World} {B B' : Nat} {v : Value} {l : List RV} (h : RecsJ w B v l) (hB : B' ≤ B) : RecsJ w B' v l := by
  refine ⟨⟨h.row.1, ?_⟩, fun x hx => (h.txt x hx).base hB⟩
  rcases h.row.2 with hn | ⟨g, cap, cur, hv, h1, hg, rest⟩
  · exact .inl hn
  · exact .inr ⟨g, cap, cur, hv, by omega, hg, rest⟩
theorem RecsJ.form {w : World} {B : Nat} {v : Value} {l : List RV} (h : RecsJ w B v l) : (l = [] ∧ v = .slice none 0 0) ∨ ∃ g c, v = .slice (some ⟨g, 0, none⟩) l.length c ∧ B ≤ g ∧ g < w.heap.size ∧ ∀ k x, l[k]? = some x → w.cell? ⟨g, k * 2, none⟩ = some (.int .i64 x.g) ∧ w.cell? ⟨g, k * 2 + 1, none⟩ = some x.val := by
  rcases h.row.2 with ⟨e, hl⟩ | ⟨g, cap, cur, e, hg, hc, rest⟩
  · exact .inl ⟨List.length_eq_zero_iff.1 hl, e⟩
  · refine .inr ⟨g, cap, e, hg, (Array.getElem?_eq_some_iff.1 hc).1, fun k x hk => ?_⟩
    have hcl := World.ownsRow.cells (g := g) h.row (by rw [e]; rfl)
    have e0 := hcl _ _ (flatJ_get l k x hk).1
    have e1 := hcl _ _ (flatJ_get l k x hk).2
    have hadd : ∀ j, (⟨g, 0, none⟩ : Addr).add j = ⟨g, j, none⟩ := fun j => by unfold Addr.add; split <;> simp_all
    rw [hadd] at e0 e1
    exact ⟨e0, e1⟩

/-- what is handed over: a record, and how many bytes its frame has -/
structure FR where
  x : RV
  k : Nat
def encF (y : FR) : Array Value := #[.agg #[.int .i64 y.x.g, y.x.val], .int .i64 y.k]
/-- what a round keeps: what lay ahead of the call, bytes, and variables that hold bytes -/
def KpJ (B : Nat) (W W' : World) : Prop := Below B W W' ∧ KeepT B 5 22 W W'
def FramesS (zs : List Int) (ys : List FR) : Prop := ys.map (·.x.rc) = (parseF zs).1 ∧ (ys.map (·.k)).sum = (parseF zs).2
def leftJ (Bn : Nat) (W : World) : Nat := match W.heap[Bn]? with
  | some (.cells cs _ _) => (match cs[0]? with | some (Value.slice _ m _) => m | _ => 0)
  | _ => 0
theorem leftJ_eq {Bn : Nat} {W : World} {a : Option Addr} {m c : Nat} {T : TypeId} (h : W.heap[Bn]? = some (.cells #[.slice a m c] T (0, 0))) : leftJ Bn W = m := by unfold leftJ; rw [h]; rfl
theorem ErrAt.kept {w w' : World} {B : Nat} (h : ErrAt w) (hg : 0 < B) (hb : Below B w w') : ErrAt w' := by
  unfold ErrAt at h ⊢
  exact (hb.cell (p := ⟨_, 0, none⟩) hg).trans h
theorem ErrAt.lt {w : World} (h : ErrAt w) : 0 < w.heap.size := by
  unfold ErrAt at h
  exact World.block_lt_of_cell? w _ h
set_option maxRecDepth 100000 in
set_option maxHeartbeats 1000000 in
theorem frames1_told (n : Nat) (hn : 1 ≤ n) {w w0 : World} {ad : Option Addr} {n0 c0 : Nat} {zs : List Int} (hT : TxtAt w (.slice ad n0 c0) zs) (hc : n0 ≤ c0) (hl : zs.length ≤ 1099511627775) (hE : ErrAt w) (Bn : Nat) (hBn : w.heap.size ≤ Bn)
    (h0 : Below w.heap.size w w0) (hbox : w0.heap[Bn]? = some (.cells #[.slice ad n0 c0] 22 (0, 0))) :
    Told.Seq Fence.wide n Tryd.prog 65 #[.pointer (some ⟨Bn, 0, none⟩)] encF (KpJ w.heap.size) (fun y W => AloneT W w0.heap.size y.x.val y.x.bs) (FramesS zs) (zs.length + 1) (fun j => j = Bn) w0 := by
  intro l J V hV hJ hY hJ0
  have hnz := hT.form.1
  have HT := Lib.hid hT
  have HE := Lib.hid hE
  have HN := Lib.hid hnz
  have HC := Lib.hid hc
  have HL := Lib.hid hl
  have h00 := h0.size
  clear hT hE hnz hc hl
  refine callsIn_of_wp Tryd.func65 rfl trivial ?_ rfl
  simp only [Tryd.ntmps65, List.size_toArray, List.length_cons, List.length_nil, Nat.reduceAdd, Nat.reduceSub, Array.replicate_succ, Array.replicate_zero, List.push_toArray, List.append_toArray, List.nil_append, List.cons_append]
  gi_wp2
  gi_loopw [3] (fun _ wr => ∃ (pre : List FR) (d : Nat) (a : Option Addr), d ≤ zs.length ∧ pre.length ≤ d ∧ wr.heap[Bn]? = some (.cells #[.slice a (n0 - d) (c0 - d)] 22 (0, 0)) ∧ TxtAt w (.slice a (n0 - d) (c0 - d)) (zs.drop d) ∧
      pre.map (·.x.rc) ++ (parseF (zs.drop d)).1 = (parseF zs).1 ∧ (pre.map (·.k)).sum + (parseF (zs.drop d)).2 = (parseF zs).2 ∧ J pre wr ∧ Below w.heap.size w wr ∧ w0.heap.size ≤ wr.heap.size) (fun _ wr => leftJ Bn wr)
  case atStart => exact ⟨[], 0, ad, Nat.zero_le _, Nat.le_refl _, (hV.block _ (Array.getElem?_eq_some_iff.1 hbox).1).trans hbox, by rw [List.drop_zero]; exact HT.out, by simp, by simp, hJ0, h0.trans (hV.mono h00), hV.size⟩
  case round =>
    obtain ⟨pre, d, a, hd, hpd, hb, ht, hs1, hs2, hJs, hbw, hz0⟩ := hrel
    have hsz : Bn < wr.heap.size := (Array.getElem?_eq_some_iff.1 hb).1
    have cb := cell_of_block (o := 0) hb rfl
    have hlen : (zs.drop d).length ≤ 1099511627775 := by have := HL.out; simp; omega
    have KF := Lib.hid (first_any (ht.below hbw) (by have := HC.out; omega) hlen (HE.out.kept HE.out.lt hbw))
    have HS1 := Lib.hid hs1
    have HS2 := Lib.hid hs2
    have HD := Lib.hid hd
    have HPD := Lib.hid hpd
    have HTd := Lib.hid ht
    have HBk := Lib.hid hb
    unfold FirstEnd firstG at KF
    clear hs1 hs2 hd hpd ht hlen
    cases hf : firstF (zs.drop d) with
    | none =>
      rw [hf] at KF
      simp only [Option.getD_none, Option.isSome_none] at KF
      have hp := parse_none hf
      have HP := Lib.hid hp
      clear hf hp hb
      gi_wp2_with (refine ⟨trivial, ?_⟩; gi_at_call 66; refine (callsIn_wide.2 KF.out).mono ?_; rintro e W1 ⟨u, rfl, hal, hb1⟩; obtain ⟨ua, uc, rfl, ho1⟩ := hal; have HB1 := Lib.hid hb1; clear ho1 hb1)
      refine ⟨fun _ h => (by cases h), ?_⟩
      gi_wp2
      refine bodyPost_ret (results_none rfl _ _ _) rfl ?_
      refine ⟨⟨_, rfl⟩, pre, ⟨?_, ?_⟩, ?_⟩
      · have := HS1.out; rw [HP.out] at this; simpa using this
      · have := HS2.out; rw [HP.out] at this; simpa using this
      · refine hJ pre _ _ hJs (Fr.of_below ?_)
        have hb1 := HB1.out
        exact (by repeat (first | exact Below.refl _ _ | assumption | refine below_drewN ?_ _ | refine Below.drew ?_ | refine below_alloc ?_ _ | refine Below.alloc ?_ (by first | omega | (simp; done) | (simp; omega)) _ | refine Below.setCell ?_ (Below.size (by assumption)) _ | refine Below.setCell ?_ (by first | omega | (simp; done) | (simp; omega)) _ | (refine Below.trans ?_ (Below.mono (by assumption) (by first | omega | (simp; done) | (simp; omega)))) | refine below_next ?_ (by assumption)))
    | some p =>
      obtain ⟨⟨rg, rb⟩, k⟩ := p
      rw [hf] at KF
      simp only [Option.getD_some, Option.isSome_some] at KF
      have HP := Lib.hid (parse_some hf)
      have hps := first_pos hf
      have hdl : (zs.drop d).length = zs.length - d := by simp
      have hk8 : 8 ≤ k ∧ k ≤ zs.length - d := by omega
      obtain ⟨b, o, rfl⟩ : ∃ b o, a = some ⟨b, o, none⟩ := by
        rcases HTd.out.form.2 with ⟨_, e⟩ | ⟨e, _⟩ | ⟨b, o, e, _⟩
        · rw [e] at hps; simp at hps; omega
        · rw [e] at hps; simp at hps; omega
        · exact ⟨b, o, e⟩
      have hkn : k ≤ n0 - d := by have := HN.out; omega
      have hcn : n0 - d ≤ c0 - d := by have := HC.out; omega
      have hsl := fun W => slice_from (b := b) (o := o) (n := n0 - d) (c := c0 - d) (k := k) hkn hcn W
      have HTk := Lib.hid (HTd.out.behind (k := k) hkn hcn)
      have hplen : pre.length < zs.length + 1 := by have := HD.out; have := HPD.out; omega
      have HK8 := Lib.hid hk8
      have HKN := Lib.hid hkn
      clear hf hps hdl hb hk8 hkn hcn
      generalize hn1 : n0 - d = n1 at *
      generalize hc1 : c0 - d = c1 at *
      generalize ho1 : (if c1 = k then o else o + k) = o1 at *
      have HN1 := Lib.hid hn1
      have HC1 := Lib.hid hc1
      clear hn1 hc1 ho1
      gi_wp2_with (refine ⟨trivial, ?_⟩; gi_at_call 66; refine (callsIn_wide.2 KF.out).mono ?_; rintro e W1 ⟨u, rfl, hal, hb1⟩; have hal2 := hal.base hz0; obtain ⟨ua, uc, rfl, ho1⟩ := hal; have hb2 := below_alloc (Below.refl _ W1) (.cells #[.int .i64 rg, .slice ua rb.length rb.length] 24); have hal3 := hal2.below hb2; obtain ⟨fn, tmps, assign, body, hy, hR⟩ := hY pre ⟨⟨rg, rb, ua⟩, k⟩ _ (hJ pre _ _ hJs (Fr.of_below (below_next hb1 hb2))) hal3 hplen; dsimp only [encF, RV.val] at hy; have HB2 := Lib.hid (below_next hb1 hb2); clear ho1 hb1 hb2 hal2 hal3)
      refine hR.mono ?_
      rintro e W3 ⟨rfl, hJ3, hk3⟩
      have hB2 := (HB2.out.block _ hsz).trans HBk.out
      have hB3 := (hk3.2 Bn _ _ _ hBn hB2 (.inr rfl)).trans hB2
      have cb3 := cell_of_block (o := 0) hB3 rfl
      have fb3 := free_of_block 0 hB3
      have hw := (wrote_refl hB3).set 0 (.slice (some ⟨b, o1, none⟩) (n1 - k) (c1 - k))
      have HW := Lib.hid hw
      have HBw3 := Lib.hid (hbw.trans ((HB2.out.mono hbw.size).trans hk3.1))
      have HJ3 := Lib.hid hJ3
      have HZ3 := Lib.hid (show w0.heap.size ≤ W3.heap.size from Nat.le_trans hz0 (Nat.le_trans HB2.out.size hk3.1.size))
      clear hw hB3 hB2 hJ3 hk3 cb
      gi_wp2
      have e1 : n1 - k = n0 - (d + k) := by have := HN1.out; omega
      have e2 : c1 - k = c0 - (d + k) := by have := HC1.out; omega
      have ht := HTk.out
      rw [List.drop_drop] at ht
      have hp := HP.out
      rw [List.drop_drop] at hp
      have hs1 := HS1.out
      have hs2 := HS2.out
      rw [hp] at hs1 hs2
      go_roundw
      case rel =>
        refine ⟨pre ++ [⟨⟨rg, rb, ua⟩, k⟩], d + k, some ⟨b, o1, none⟩, by have := HD.out; have := HK8.out; omega, by have := HPD.out; have := HK8.out; simp; omega, by rw [← e1, ← e2]; exact HW.out.there, by rw [← e1, ← e2]; exact ht, ?_, ?_, hJ _ _ _ HJ3.out ⟨HW.out.os, HW.out.tape, HW.out.output, Nat.le_of_eq HW.out.size.symm, fun j _ hn => HW.out.rest j hn⟩, HW.out.below HBw3.out hBn, by have := HZ3.out; have := HW.out.size; omega⟩
        · rw [← hs1]; simp [RV.rc]
        · rw [← hs2]; simp; omega
      case measure =>
        rw [leftJ_eq HW.out.there, leftJ_eq HBk.out]
        have := HK8.out
        have := HKN.out
        omega
end Go.Proofs.YtomhfnaekjmjnaaDoor
