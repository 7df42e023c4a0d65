/- Laws that belong together: A fleet read from bytes, plainly; where its reading stands. No condition.; What Put lays of a fleet that may be is read as it is; what is told leaves a fleet such. No condition.; A fleet read from bytes. Conditions: errors.errorType and math/bits' table of trailing zeros lie as the program's text lays them.; Two fleets that hold the same are the same (Same); a fleet's bytes and one more. No condition.; FleetSpares walked. Condition: errors.errorType and math/bits' table of trailing zeros lie as their texts lay them. -/
import Derived.Test.YtdpfbpmdpdfpdaaDoorMal
import Derived.Test.YtdpfbpmdpdfpdaaDoorMai
import Derived.Test.YtdpfbpmdpdfpdaaDoorMak
import Derived.Test.YtdpfbpmdpdfpdaaDoorErrAt
import Derived.Test.YtdpfbpmdpdfpdaaDoorMad
import Derived.Test.YtdpfbpmdpdfpdaaDoorMan
import Derived.Test.YtdpfbpmdpdfpdaaDoorMFlO
import Derived.Test.YtdpfbpmdpdfpdaaDoorMFlT
namespace Go.Proofs.YtdpfbpmdpdfpdaaDoor
set_option linter.unusedVariables false
open Go.ChangeShapes Go.WideShapes Go.ChangeAt Go.RowKit
attribute [local go_sem ↓] Go.wp_at_zero Go.wp_at_succ comesTo_value_eq comesTo_skip_eq comesTo_enter_eq

/-- three numbers -/
def rd3 (st : CS) : CS × N3 := ((intF (intF (intF st).1).1).1, ((intF st).2, (intF (intF st).1).2, (intF (intF (intF st).1).1).2))
/-- so many nodes -/
def rdN (st : CS) : Nat → CS × List N3
  | 0 => (st, [])
  | k + 1 => ((rd3 (rdN st k).1).1, (rdN st k).2 ++ [(rd3 (rdN st k).1).2])
theorem rdN_len (st : CS) : ∀ k, (rdN st k).2.length = k
  | 0 => rfl
  | k + 1 => by simp [rdN, rdN_len st k]
def h0 (bs : List Int) : CS × Int := smallF ⟨bs, 0⟩ 64
def h1 (bs : List Int) : CS × Int := intF (h0 bs).1
def h2 (bs : List Int) : CS × Int := intF (h1 bs).1
def h3 (bs : List Int) : CS × Int := intF (h2 bs).1
def h4 (bs : List Int) : CS × Int := intF (h3 bs).1
def h5 (bs : List Int) : CS × Int := smallF (h4 bs).1 9223372036854775807
def rdC (bs : List Int) (k : Nat) : CS × List N3 := rdN (h5 bs).1 k
def rdV (bs : List Int) : FV := ⟨(h1 bs).2, (h2 bs).2, (h3 bs).2, (rdC bs (h0 bs).2.toNat).2, BitVec.ofInt 64 (h4 bs).2, (h5 bs).2⟩
def okV (bs : List Int) : Bool := (endF (rdC bs (h0 bs).2.toNat).1 == 0) && decide (1 ≤ (h0 bs).2) && rightG (rdV bs)
theorem smallF_most (st : CS) {most : Int} (h : 0 ≤ most) : 0 ≤ (smallF st most).2 ∧ (smallF st most).2 ≤ most := by
  unfold smallF
  split
  · exact ⟨Int.le_refl _, h⟩
  · omega
/-- where a reading stands: the cursor, its box, the fleet's block, its nodes' row -/
structure RF (w X : World) (C B F G : Nat) (st : CS) (cf : Array Value) (cg : List Value) : Prop where
  cur : Cur X C (fun j => w.heap.size ≤ j ∧ j < B) st
  box : X.heap[B]? = some (.cells #[.pointer (some ⟨C, 0, none⟩)] 83 (0, 0))
  blk : X.heap[F]? = some (.cells cf 76 (0, 0))
  row : X.heap[G]? = some (.cells cg.toArray 78 (0, 0))
  bf : B < F
  fg : F < G
  wb : w.heap.size ≤ B
  bel : Below w.heap.size w X
theorem RF.call {w X X' : World} {C B F G : Nat} {st st' : CS} {cf : Array Value} {cg : List Value} (h : RF w X C B F G st cf cg) (hc : Cur X' C (fun j => w.heap.size ≤ j ∧ j < B) st') (hf : Fr (fun j => j = C) X X') : RF w X' C B F G st' cf cg := by
  have hC := h.cur.mem
  have h1 := h.bf
  have h2 := h.fg
  exact ⟨hc, (hf.block _ (Array.getElem?_eq_some_iff.1 h.box).1 (by omega)).trans h.box, (hf.block _ (Array.getElem?_eq_some_iff.1 h.blk).1 (by omega)).trans h.blk, (hf.block _ (Array.getElem?_eq_some_iff.1 h.row).1 (by omega)).trans h.row, h1, h2, h.wb, h.bel.trans (hf.below (B := w.heap.size) h.bel.size (fun j hj => by omega))⟩
theorem RF.below {w X X' : World} {C B F G : Nat} {st : CS} {cf : Array Value} {cg : List Value} (h : RF w X C B F G st cf cg) (hb : Below X.heap.size X X') : RF w X' C B F G st cf cg :=
  ⟨h.cur.below hb, (hb.block _ (Array.getElem?_eq_some_iff.1 h.box).1).trans h.box, (hb.block _ (Array.getElem?_eq_some_iff.1 h.blk).1).trans h.blk, (hb.block _ (Array.getElem?_eq_some_iff.1 h.row).1).trans h.row, h.bf, h.fg, h.wb, below_next h.bel hb⟩
theorem RF.setF {w X : World} {C B F G : Nat} {st : CS} {cf : Array Value} {cg : List Value} (h : RF w X C B F G st cf cg) (o : Nat) (v : Value) : RF w (X.setCell ⟨F, o, none⟩ v) C B F G st (cf.setIfInBounds o v) cg := by
  have hw := (wrote_refl h.blk).set o v
  have h1 := h.bf
  have h2 := h.fg
  have h3 := h.wb
  exact ⟨Fr.cur h.cur (G := fun j => j = F) ⟨hw.os, hw.tape, hw.output, Nat.le_of_eq hw.size.symm, fun j _ hn => hw.rest j hn⟩ (fun j hj _ e => by omega), (hw.rest _ (by omega)).trans h.box, hw.there, (hw.rest _ (by omega)).trans h.row, h1, h2, h3, hw.below h.bel (by omega)⟩
theorem RF.setG {w X : World} {C B F G : Nat} {st : CS} {cf : Array Value} {cg : List Value} (h : RF w X C B F G st cf cg) (o : Nat) (v : Value) : RF w (X.setCell ⟨G, o, none⟩ v) C B F G st cf (cg.set o v) := by
  have hw := (wrote_refl h.row).set o v
  have h1 := h.bf
  have h2 := h.fg
  have h3 := h.wb
  have ht := hw.there
  rw [List.setIfInBounds_toArray] at ht
  exact ⟨Fr.cur h.cur (G := fun j => j = G) ⟨hw.os, hw.tape, hw.output, Nat.le_of_eq hw.size.symm, fun j _ hn => hw.rest j hn⟩ (fun j hj _ e => by omega), (hw.rest _ (by omega)).trans h.box, (hw.rest _ (by omega)).trans h.blk, ht, h1, h2, h3, hw.below h.bel (by omega)⟩
theorem number_rf {w X : World} {C B F G : Nat} {st : CS} {cf : Array Value} {cg : List Value} (h : RF w X C B F G st cf cg) :
    Calls Tryd.prog 68 #[.pointer (some ⟨B, 0, none⟩)] X fun e w' => e = .returned (.int .i64 (intF st).2) ∧ RF w w' C B F G (intF st).1 cf cg := by
  have K := Lib.hid (int_cur h.cur)
  have c0 := cell_of_block (o := 0) h.box rfl
  have H := Lib.hid h
  clear h
  go_enter Tryd.func68, Tryd.ntmps68
  go_wp2_with fail
  refine K.out.mono ?_
  rintro e w' ⟨rfl, hc, hf⟩
  have HR := Lib.hid (H.out.call hc hf)
  clear hc hf c0
  go_wp2_with fail
  go_ret
  exact ⟨rfl, HR.out⟩
end Go.Proofs.YtdpfbpmdpdfpdaaDoor
namespace Go.Proofs.YtdpfbpmdpdfpdaaDoor
set_option linter.unusedVariables false

theorem putsF_cons (x : Int) (l : List Int) (ys : List Int) : putsF (x :: l) ++ ys = putI x ++ (putsF l ++ ys) := by unfold putsF; rw [List.flatMap_cons, List.append_assoc]
theorem rd3_put {a b c : Int} (ha : i64In' a) (hb : i64In' b) (hc : i64In' c) (l ys : List Int) : rd3 ⟨putsF (a :: b :: c :: l) ++ ys, 0⟩ = (⟨putsF l ++ ys, 0⟩, (a, b, c)) := by
  unfold rd3
  rw [putsF_cons, intF_put ha]
  dsimp only
  rw [putsF_cons, intF_put hb]
  dsimp only
  rw [putsF_cons, intF_put hc]
theorem rdN_put (ns : List N3) (h : ∀ x ∈ ns, i64In' x.1 ∧ i64In' x.2.1 ∧ i64In' x.2.2) (ys : List Int) : ∀ k, k ≤ ns.length → rdN ⟨putsF (ndL ns) ++ ys, 0⟩ k = (⟨putsF (ndL (ns.drop k)) ++ ys, 0⟩, ns.take k)
  | 0, _ => by simp [rdN]
  | k + 1, hk => by
    have hlt : k < ns.length := by omega
    have hx := h ns[k] (List.getElem_mem hlt)
    unfold rdN
    rw [rdN_put ns h ys k (by omega)]
    dsimp only
    rw [List.drop_eq_getElem_cons hlt, show ndL (ns[k] :: ns.drop (k + 1)) = ns[k].1 :: ns[k].2.1 :: ns[k].2.2 :: ndL (ns.drop (k + 1)) from by unfold ndL; rw [List.flatMap_cons]; rfl, rd3_put hx.1 hx.2.1 hx.2.2]
    dsimp only
    rw [List.take_succ_eq_append_getElem hlt]
theorem rdC_put {f : FV} (h : FB f) (hs : 0 ≤ f.sw) (ys : List Int) : h0 (bytesF f ++ ys) = (⟨putsF [f.S, f.D, f.P, IntKind.i64.wrap (nv f.sp), f.sw] ++ (putsF (ndL f.ns) ++ ys), 0⟩, (f.ns.length : Int)) ∧ (h1 (bytesF f ++ ys)).2 = f.S ∧ (h2 (bytesF f ++ ys)).2 = f.D ∧ (h3 (bytesF f ++ ys)).2 = f.P ∧ (h4 (bytesF f ++ ys)).2 = IntKind.i64.wrap (nv f.sp) ∧ h5 (bytesF f ++ ys) = (⟨putsF (ndL f.ns) ++ ys, 0⟩, f.sw) := by
  have hl := h.len
  have hz : i64In' (IntKind.i64.wrap (nv f.sp)) := by unfold i64In'; rw [IntKind.wrap_i64]; omega
  have e0 : bytesF f ++ ys = putI (f.ns.length : Int) ++ (putsF [f.S, f.D, f.P, IntKind.i64.wrap (nv f.sp), f.sw] ++ (putsF (ndL f.ns) ++ ys)) := by
    unfold bytesF numsF
    rw [putsF_app, List.append_assoc, putsF_cons]
  have q0 : h0 (bytesF f ++ ys) = (⟨putsF [f.S, f.D, f.P, IntKind.i64.wrap (nv f.sp), f.sw] ++ (putsF (ndL f.ns) ++ ys), 0⟩, (f.ns.length : Int)) := by
    unfold h0
    rw [e0, smallF_put (by omega) (by omega) (by omega)]
  have q1 : h1 (bytesF f ++ ys) = (⟨putsF [f.D, f.P, IntKind.i64.wrap (nv f.sp), f.sw] ++ (putsF (ndL f.ns) ++ ys), 0⟩, f.S) := by
    unfold h1
    rw [q0, putsF_cons, intF_put h.S]
  have q2 : h2 (bytesF f ++ ys) = (⟨putsF [f.P, IntKind.i64.wrap (nv f.sp), f.sw] ++ (putsF (ndL f.ns) ++ ys), 0⟩, f.D) := by
    unfold h2
    rw [q1, putsF_cons, intF_put h.D]
  have q3 : h3 (bytesF f ++ ys) = (⟨putsF [IntKind.i64.wrap (nv f.sp), f.sw] ++ (putsF (ndL f.ns) ++ ys), 0⟩, f.P) := by
    unfold h3
    rw [q2, putsF_cons, intF_put h.P]
  have q4 : h4 (bytesF f ++ ys) = (⟨putsF [f.sw] ++ (putsF (ndL f.ns) ++ ys), 0⟩, IntKind.i64.wrap (nv f.sp)) := by
    unfold h4
    rw [q3, putsF_cons, intF_put hz]
  have q5 : h5 (bytesF f ++ ys) = (⟨putsF (ndL f.ns) ++ ys, 0⟩, f.sw) := by
    unfold h5
    rw [q4, putsF_cons, smallF_put hs h.sw.2 h.sw.2]
    rfl
  exact ⟨q0, by rw [q1], by rw [q2], by rw [q3], by rw [q4], q5⟩
theorem ofInt_wrap (s : NSet) : BitVec.ofInt 64 (IntKind.i64.wrap (nv s)) = s := by
  refine nv_inj ?_
  rw [nv_ofInt', IntKind.wrap_u64, IntKind.wrap_i64]
  have h1 := nv_lo s
  have h2 := nv_hi s
  omega
/-- what is read of a fleet's bytes, and more -/
theorem rdV_put {f : FV} (h : FB f) (hs : 0 ≤ f.sw) (ys : List Int) : rdV (bytesF f ++ ys) = f ∧ (h0 (bytesF f ++ ys)).2 = (f.ns.length : Int) ∧ (rdC (bytesF f ++ ys) (h0 (bytesF f ++ ys)).2.toNat).1 = ⟨ys, 0⟩ := by
  obtain ⟨q0, q1, q2, q3, q4, q5⟩ := rdC_put h hs ys
  have hC : rdC (bytesF f ++ ys) (h0 (bytesF f ++ ys)).2.toNat = (⟨ys, 0⟩, f.ns) := by
    unfold rdC
    rw [q0, q5]
    dsimp only
    rw [Int.toNat_natCast, rdN_put f.ns h.ns ys f.ns.length (Nat.le_refl _), List.drop_length, List.take_length]
    rfl
  refine ⟨?_, by rw [q0], by rw [hC]⟩
  unfold rdV
  rw [hC, q1, q2, q3, q4, q5, ofInt_wrap]
/-- a fleet that may be -/
structure FGood (f : FV) (N s j : Nat) : Prop where
  inv : FInv f N s j
  rr : rightR f.S f.D f.P = true
  nn : ∀ x ∈ f.ns, rightN x.1 x.2.1 x.2.2 f.S f.D f.P = true
  lt : s < N
theorem FGood.fb {f : FV} {N s j : Nat} (h : FGood f N s j) (hj : j ≤ 1000) : FB f := by
  have hr := h.rr
  unfold rightR at hr
  rw [decide_eq_true_eq] at hr
  refine ⟨by rw [h.inv.len]; exact h.inv.le, by unfold i64In'; omega, by unfold i64In'; omega, by unfold i64In'; omega, by have := h.inv.sw; unfold i64In'; omega, fun x hx => ?_⟩
  have hb := right_bd h.rr (h.nn x hx)
  have ht := h.nn x hx
  unfold rightN at ht
  rw [decide_eq_true_eq] at ht
  unfold i64In'
  omega
theorem FGood.tell {f : FV} {N s j : Nat} (h : FGood f N s j) (hj : j < 1000) (n k : Int) : FGood (tellF f n k).1 N s (j + 1) := by
  have hk := tellF_keeps f n k
  refine ⟨(h.inv.tell hj n k).1, by rw [hk.2.1, hk.2.2.1, hk.2.2.2.1]; exact h.rr, ?_, h.lt⟩
  rw [hk.2.1, hk.2.2.1, hk.2.2.2.1]
  unfold tellF
  split
  · exact h.nn
  · split
    · exact h.nn
    · intro x hx
      have e := (swapN_ns 64 { f with ns := f.ns.set n.toNat (nextF f (f.ns.getD n.toNat (0, 0, 0)) k) }).1
      have hx' : x ∈ (swapN 64 { f with ns := f.ns.set n.toNat (nextF f (f.ns.getD n.toNat (0, 0, 0)) k) }).ns := hx
      rw [e] at hx'
      rcases List.mem_or_eq_of_mem_set hx' with hm | rfl
      · exact h.nn x hm
      · have hlt : n.toNat < f.ns.length := by omega
        refine next_right h.rr (h.nn _ ?_)
        simp [List.getD, List.getElem?_eq_getElem hlt]
theorem newF_good (n s : Nat) (S D P : Int) (h1 : 1 ≤ n) (h2 : n ≤ 64) (h3 : s < n) (hr : rightR S D P = true) : FGood (newF n s S D P) n s 0 := by
  refine ⟨newF_inv n s S D P h1 h2 h3, hr, fun x hx => ?_, h3⟩
  unfold newF at hx
  obtain rfl := (List.mem_replicate.1 hx).2
  show rightN 0 0 0 S D P = true
  unfold rightR at hr
  rw [decide_eq_true_eq] at hr
  unfold rightN
  rw [decide_eq_true_eq]
  omega
theorem FGood.right {f : FV} {N s j : Nat} (h : FGood f N s j) : rightG f = true := by
  have hall : card (allF f) = N := by unfold allF; rw [h.inv.len]; exact card_firstI N h.inv.le
  have h1 : (f.sp &&& ~~~ allF f == 0#64) = true := by
    rw [beq_iff_eq]
    refine zero_of fun i hi hx => ?_
    rw [get_diff _ _ _ hi, Bool.and_eq_true] at hx
    have := sub_iff.1 h.inv.sub i hi hx.1
    rw [this] at hx
    cases hx.2
  have h2 : (f.sp == allF f) = false := by
    rw [beq_eq_false_iff_ne]
    intro e
    have := h.inv.cd
    rw [e, hall] at this
    have := h.lt
    omega
  have h3 : (wrongS f == 0#64) = true := by
    rw [beq_iff_eq]
    refine zero_of fun i hi hx => ?_
    unfold wrongS at hx
    rw [sel_get _ _ _ hi, Bool.and_eq_true, decide_eq_true_eq] at hx
    have hm := h.nn (f.ns.getD i (0, 0, 0)) (by simp [List.getD, List.getElem?_eq_getElem hx.1])
    rw [hm] at hx
    cases hx.2
  have h4 : (goneF f == 0#64 || freeF f == 0#64) = true := by
    rw [Bool.or_eq_true, beq_iff_eq, beq_iff_eq]
    exact h.inv.stop
  unfold rightG
  rw [h.rr, h1, h2, h3, h4]
  rfl
theorem FGood.reads {f : FV} {N s j : Nat} (h : FGood f N s j) (hj : j ≤ 1000) : okV (bytesF f) = true ∧ rdV (bytesF f) = f ∧ okV (bytesF f ++ [0]) = false := by
  have hb := h.fb hj
  have a1 := rdV_put hb h.inv.sw.1 []
  have a2 := rdV_put hb h.inv.sw.1 [0]
  rw [List.append_nil] at a1
  have hN : 1 ≤ f.ns.length := by have := h.inv.len; have := h.lt; omega
  refine ⟨?_, a1.1, ?_⟩
  · unfold okV
    rw [a1.2.2, a1.2.1, a1.1, h.right, decide_eq_true (by omega)]
    rfl
  · unfold okV
    rw [a2.2.2]
    rfl
/-- of a fleet that may be: as many spares as at first, the others active, and none is gone where one is free -/
theorem FGood.facts {f : FV} {N s j : Nat} (h : FGood f N s j) : card f.sp = s ∧ (card (actF f) : Int) = (N : Int) - (s : Int) ∧ actF f &&& f.sp = 0#64 ∧ (goneF f = 0#64 ∨ freeF f = 0#64) := by
  have hall : card (allF f) = N := by unfold allF; rw [h.inv.len]; exact card_firstI N h.inv.le
  have hd := card_diff h.inv.sub
  have hc := h.inv.cd
  have hlt := h.lt
  refine ⟨hc, ?_, zero_of fun i hi hx => ?_, h.inv.stop⟩
  · unfold actF
    omega
  · rw [BitVec.getLsbD_and, act_get _ _ hi] at hx
    cases hb : f.sp.getLsbD i <;> rw [hb] at hx <;> simp at hx
end Go.Proofs.YtdpfbpmdpdfpdaaDoor
namespace Go.Proofs.YtdpfbpmdpdfpdaaDoor
set_option linter.unusedVariables false
open Go.ChangeShapes Go.WideShapes Go.ChangeAt Go.RowKit
attribute [local go_sem ↓] Go.wp_at_zero Go.wp_at_succ comesTo_value_eq comesTo_skip_eq comesTo_enter_eq

def FReadEnd (w : World) (bs : List Int) (e : Ending) (w' : World) : Prop :=
  (okV bs = false ∧ e = .returned (.tuple #[.pointer none, .int .i64 11]) ∧ Below w.heap.size w w') ∨
  (okV bs = true ∧ ∃ F G, e = .returned (.tuple #[.pointer (some ⟨F, 0, none⟩), .int .i64 0]) ∧ Fl w' F G (rdV bs) ∧ w.heap.size ≤ F ∧ w.heap.size ≤ G ∧ Below w.heap.size w w')
/-- the fleet's block under way -/
def cfV (S D P : Int) (G n : Nat) (sp sw : Int) : Array Value := #[.int .i64 S, .int .i64 D, .int .i64 P, .slice (some ⟨G, 0, none⟩) n n, .int .u64 sp, .int .i64 sw]
/-- the nodes' row when some have been read -/
def cgV (l : List N3) (n : Nat) : List Value := flatN (l ++ List.replicate (n - l.length) (0, 0, 0))
theorem cgV_set (l : List N3) (n : Nat) (hk : l.length < n) (x : N3) : (((cgV l n).set (l.length * 3) (.int .i64 x.1)).set (l.length * 3 + 1) (.int .i64 x.2.1)).set (l.length * 3 + 2) (.int .i64 x.2.2) = cgV (l ++ [x]) n := by
  unfold cgV
  rw [flatN_set _ _ _ (by simp; omega)]
  congr 1
  rw [List.set_append]
  simp only [Nat.lt_irrefl, if_false, Nat.sub_self, List.length_append, List.length_cons, List.length_nil, List.append_assoc]
  obtain ⟨m, hm⟩ : ∃ m, n - l.length = m + 1 := ⟨n - l.length - 1, by omega⟩
  rw [hm, show n - (l.length + (0 + 1)) = m by omega, List.replicate_succ]
  rfl
theorem cgV_len (l : List N3) (n : Nat) (h : l.length ≤ n) : (cgV l n).length = n * 3 := by unfold cgV; rw [flatN_length]; simp; omega
set_option maxRecDepth 100000 in
set_option maxHeartbeats 8000000 in
theorem fread_any {w : World} {ad : Option Addr} {nb cb : Nat} {bs : List Int} (h : TxtAt w (.slice ad nb cb) bs) (hl : bs.length ≤ 1099511627775) (hE : ErrAt w) (hT : TabZ w) :
    Calls Tryd.prog 24 #[.slice ad nb cb] w fun e w' => FReadEnd w bs e w' := by
  have hmx : Tryd.prog.follows .mixedOrders = true := by kernel_rfl
  have hEn := enters_of (P := Tryd.prog) Tryd.func68 (by kernel_rfl) rfl
  unfold Go.Proofs.Enters at hEn
  have KR := Lib.hid (read_cur h hl)
  have HE := Lib.hid (fun X (hX : Below w.heap.size w X) => hE.below hX)
  have HT := Lib.hid (fun X (hX : Below w.heap.size w X) => hT.below hX)
  have HNO := Lib.hid (fun (hh : okV bs = false) e w' (he : e = .returned (.tuple #[.pointer none, .int .i64 11])) (hb : Below w.heap.size w w') => (.inl ⟨hh, he, hb⟩ : FReadEnd w bs e w'))
  have HYES := Lib.hid (fun (hh : okV bs = true) e w' F G (he : e = .returned (.tuple #[.pointer (some ⟨F, 0, none⟩), .int .i64 0])) (hf : Fl w' F G (rdV bs)) (h1 : w.heap.size ≤ F) (h2 : w.heap.size ≤ G) (hb : Below w.heap.size w w') => (.inr ⟨hh, F, G, he, hf, h1, h2, hb⟩ : FReadEnd w bs e w'))
  clear h hl hE hT
  go_enter Tryd.func24, Tryd.ntmps24
  go_wp2_with fail
  refine KR.out.mono ?_
  rintro e w1 ⟨C, rfl, hc, hb⟩
  have hct := hc.tight
  have b1 := below_alloc (Below.refl _ w1) (.cells #[.pointer (some ⟨C, 0, none⟩)] 83)
  have b2 := below_alloc (Below.refl _ (w1.alloc (.cells #[.pointer (some ⟨C, 0, none⟩)] 83))) (.cells #[.int .i64 0, .int .i64 0, .int .i64 0, .slice none 0 0, .int .u64 0, .int .i64 0] 76)
  have q1 := World.alloc_heap_new w1 (.cells #[.pointer (some ⟨C, 0, none⟩)] 83)
  have q2 := World.alloc_heap_new (w1.alloc (.cells #[.pointer (some ⟨C, 0, none⟩)] 83)) (.cells #[.int .i64 0, .int .i64 0, .int .i64 0, .slice none 0 0, .int .u64 0, .int .i64 0] 76)
  rw [World.size_alloc] at q2
  have HBX := Lib.hid ((b2.block _ (by simp)).trans q1)
  have HFX := Lib.hid q2
  have HB2 := Lib.hid (below_next (below_next hb b1) b2)
  have HCU := Lib.hid (hct.below (below_next b1 b2))
  have HWB := Lib.hid hb.size
  have HC1 := Lib.hid hct.mem.2
  have c0 := cell_of_block (o := 0) ((b2.block _ (by simp)).trans q1) rfl
  clear hc hb hct b1 b2 q1 q2 KR
  go_upto_region 3 with fail
  generalize (w1.alloc (.cells #[.pointer (some ⟨C, 0, none⟩)] 83)).alloc (.cells #[.int .i64 0, .int .i64 0, .int .i64 0, .slice none 0 0, .int .u64 0, .int .i64 0] 76) = W2 at *
  obtain ⟨B, hB⟩ : ∃ B, B = w1.heap.size := ⟨_, rfl⟩
  rw [← hB] at HBX HFX HCU HWB HC1 c0 ⊢
  clear hB
  have KS := Lib.hid (small_cur HCU.out 64)
  go_wp2_with fail
  refine KS.out.mono ?_
  rintro e w3 ⟨rfl, hc3, hf3⟩
  have hn := smallF_most ⟨bs, 0⟩ (most := 64) (by decide)
  obtain ⟨n, hnn⟩ : ∃ n : Nat, (smallF ⟨bs, 0⟩ 64).2 = (n : Int) := ⟨(smallF ⟨bs, 0⟩ 64).2.toNat, by omega⟩
  have HN64 := Lib.hid (show n ≤ 64 by omega)
  rw [hnn]
  have HH0 := Lib.hid (show (h0 bs).2 = (n : Int) from hnn)
  have hmk := make_nodes n (by omega) w3
  have nB3 := (hf3.block _ (Array.getElem?_eq_some_iff.1 HBX.out).1 (by have := HC1.out; omega)).trans HBX.out
  have nF3 := (hf3.block _ (Array.getElem?_eq_some_iff.1 HFX.out).1 (by have := HC1.out; omega)).trans HFX.out
  have HB3 := Lib.hid (HB2.out.trans (hf3.below (B := w.heap.size) HB2.out.size (fun j hj => by have := HCU.out.mem.1; omega)))
  have b3 := below_alloc (Below.refl _ w3) (.cells (flatN (List.replicate n (0, 0, 0))).toArray 78)
  have nG := World.alloc_heap_new w3 (.cells (flatN (List.replicate n (0, 0, 0))).toArray 78)
  have hlF := (Array.getElem?_eq_some_iff.1 nF3).1
  have HRF := Lib.hid (show RF w (w3.alloc (.cells (flatN (List.replicate n (0, 0, 0))).toArray 78)) C B (B + 1) w3.heap.size (h0 bs).1 #[.int .i64 0, .int .i64 0, .int .i64 0, .slice none 0 0, .int .u64 0, .int .i64 0] (cgV [] n) from
    ⟨(hc3.more (fun j hj => ⟨hj.1, hj.2⟩)).below b3, (b3.block _ (Array.getElem?_eq_some_iff.1 nB3).1).trans nB3, (b3.block _ hlF).trans nF3, by unfold cgV; simpa using nG, by omega, hlF, HWB.out, below_next HB3.out b3⟩)
  have e3 := cell_of_block (o := 3) ((b3.block _ hlF).trans nF3) rfl
  have x3 := free_of_block 3 ((b3.block _ hlF).trans nF3)
  clear hc3 hf3 hn hnn nB3 nF3 b3 nG hlF c0 KS HCU HBX HFX HB2 HB3
  go_upto_region 5 with fail
  have HRF1 := Lib.hid (HRF.out.setF 3 (.slice (some ⟨w3.heap.size, 0, none⟩) n n))
  clear hmk e3 x3 HRF
  generalize (w3.alloc (.cells (flatN (List.replicate n (0, 0, 0))).toArray 78)).setCell ⟨B + 1, 3, none⟩ (.slice (some ⟨w3.heap.size, 0, none⟩) n n) = w4 at *
  generalize w3.heap.size = G at *
  have HR4 := Lib.hid (show RF w w4 C B (B + 1) G (h0 bs).1 (cfV 0 0 0 G n 0 0) (cgV [] n) from HRF1.out)
  clear HRF1
  go_wp2_with fail
  refine (number_rf HR4.out).mono ?_
  rintro e w5 ⟨rfl, hr⟩
  have HR5 := Lib.hid (show RF w w5 C B (B + 1) G (h1 bs).1 (cfV 0 0 0 G n 0 0) (cgV [] n) from hr)
  rw [show (intF (h0 bs).1).2 = (h1 bs).2 from rfl]
  clear hr HR4
  go_wp2_with fail
  refine (number_rf HR5.out).mono ?_
  rintro e w6 ⟨rfl, hr⟩
  have HR6 := Lib.hid (show RF w w6 C B (B + 1) G (h2 bs).1 (cfV 0 0 0 G n 0 0) (cgV [] n) from hr)
  rw [show (intF (h1 bs).1).2 = (h2 bs).2 from rfl]
  clear hr HR5
  go_wp2_with fail
  refine (number_rf HR6.out).mono ?_
  rintro e w7 ⟨rfl, hr⟩
  have HR7 := Lib.hid (show RF w w7 C B (B + 1) G (h3 bs).1 (cfV 0 0 0 G n 0 0) (cgV [] n) from hr)
  rw [show (intF (h2 bs).1).2 = (h3 bs).2 from rfl]
  clear hr HR6
  obtain ⟨S, hS⟩ : ∃ S, S = (h1 bs).2 := ⟨_, rfl⟩
  obtain ⟨D, hD⟩ : ∃ S, S = (h2 bs).2 := ⟨_, rfl⟩
  obtain ⟨P, hP⟩ : ∃ S, S = (h3 bs).2 := ⟨_, rfl⟩
  rw [← hS, ← hD, ← hP]
  have HSDP := Lib.hid (And.intro hS (And.intro hD hP))
  clear hS hD hP
  have HR8 := Lib.hid (show RF w (((w7.setCell ⟨B + 1, 0, none⟩ (.int .i64 S)).setCell ⟨B + 1, 1, none⟩ (.int .i64 D)).setCell ⟨B + 1, 2, none⟩ (.int .i64 P)) C B (B + 1) G (h3 bs).1 (cfV S D P G n 0 0) (cgV [] n) from ((HR7.out.setF 0 (.int .i64 S)).setF 1 (.int .i64 D)).setF 2 (.int .i64 P))
  have r0 : w7.cell? ⟨B + 1, 0, none⟩ = some (.int .i64 0) := cell_of_block (o := 0) HR7.out.blk rfl
  have r1 : w7.cell? ⟨B + 1, 1, none⟩ = some (.int .i64 0) := cell_of_block (o := 1) HR7.out.blk rfl
  have r2 : w7.cell? ⟨B + 1, 2, none⟩ = some (.int .i64 0) := cell_of_block (o := 2) HR7.out.blk rfl
  have f0 := free_of_block 0 HR7.out.blk
  have f1 := free_of_block 1 HR7.out.blk
  have f2 := free_of_block 2 HR7.out.blk
  have b0 := cell_of_block (o := 0) HR8.out.box rfl
  have b7 := cell_of_block (o := 0) HR7.out.box rfl
  clear HR7
  go_upto_region 6 with fail
  generalize ((w7.setCell ⟨B + 1, 0, none⟩ (.int .i64 S)).setCell ⟨B + 1, 1, none⟩ (.int .i64 D)).setCell ⟨B + 1, 2, none⟩ (.int .i64 P) = w8 at *
  clear r0 r1 r2 f0 f1 f2 b7
  have KI := Lib.hid (int_cur HR8.out.cur)
  go_wp2_with fail
  refine KI.out.mono ?_
  rintro e w9 ⟨rfl, hc, hf⟩
  have HR9 := Lib.hid (show RF w w9 C B (B + 1) G (h4 bs).1 (cfV S D P G n 0 0) (cgV [] n) from HR8.out.call hc hf)
  rw [show (intF (h3 bs).1).2 = (h4 bs).2 from rfl]
  clear hc hf KI HR8 b0
  obtain ⟨vs, hvs⟩ : ∃ S, S = (h4 bs).2 := ⟨_, rfl⟩
  rw [← hvs]
  obtain ⟨sp, hsp⟩ : ∃ s : NSet, s = BitVec.ofInt 64 vs := ⟨_, rfl⟩
  have hcv : IntKind.u64.wrap vs = nv sp := by rw [hsp, nv_ofInt']
  have HSP := Lib.hid (show sp = BitVec.ofInt 64 (h4 bs).2 by rw [hsp, hvs])
  clear hvs hsp
  have HR10 := Lib.hid (show RF w (w9.setCell ⟨B + 1, 4, none⟩ (.int .u64 (nv sp))) C B (B + 1) G (h4 bs).1 (cfV S D P G n (nv sp) 0) (cgV [] n) from HR9.out.setF 4 (.int .u64 (nv sp)))
  have r4 : w9.cell? ⟨B + 1, 4, none⟩ = some (.int .u64 0) := cell_of_block (o := 4) HR9.out.blk rfl
  have f4 := free_of_block 4 HR9.out.blk
  have b0 := cell_of_block (o := 0) HR10.out.box rfl
  have b9 := cell_of_block (o := 0) HR9.out.box rfl
  clear HR9
  go_upto_region 7 with fail
  generalize w9.setCell ⟨B + 1, 4, none⟩ (.int .u64 (nv sp)) = w10 at *
  clear r4 f4 b9 hcv
  have KI := Lib.hid (small_cur HR10.out.cur 9223372036854775807)
  go_wp2_with fail
  refine KI.out.mono ?_
  rintro e w11 ⟨rfl, hc, hf⟩
  have HR11 := Lib.hid (show RF w w11 C B (B + 1) G (h5 bs).1 (cfV S D P G n (nv sp) 0) (cgV [] n) from HR10.out.call hc hf)
  rw [show (smallF (h4 bs).1 9223372036854775807).2 = (h5 bs).2 from rfl]
  clear hc hf KI HR10 b0
  obtain ⟨sw, hsw⟩ : ∃ S, S = (h5 bs).2 := ⟨_, rfl⟩
  rw [← hsw]
  have HSW := Lib.hid hsw
  clear hsw
  have HR12 := Lib.hid (show RF w (w11.setCell ⟨B + 1, 5, none⟩ (.int .i64 sw)) C B (B + 1) G (h5 bs).1 (cfV S D P G n (nv sp) sw) (cgV [] n) from HR11.out.setF 5 (.int .i64 sw))
  have r5 : w11.cell? ⟨B + 1, 5, none⟩ = some (.int .i64 0) := cell_of_block (o := 5) HR11.out.blk rfl
  have f5 := free_of_block 5 HR11.out.blk
  have b3 : w11.cell? ⟨B + 1, 3, none⟩ = some (.slice (some ⟨G, 0, none⟩) n n) := cell_of_block (o := 3) HR11.out.blk rfl
  have d3 : (w11.setCell ⟨B + 1, 5, none⟩ (.int .i64 sw)).cell? ⟨B + 1, 3, none⟩ = some (.slice (some ⟨G, 0, none⟩) n n) := cell_of_block (o := 3) HR12.out.blk rfl
  clear HR11
  go_wp2_with fail
  generalize w11.setCell ⟨B + 1, 5, none⟩ (.int .i64 sw) = w12 at *
  clear r5 f5 b3 d3
  go_loopw [45, 7] (fun i j wr => ∃ k : Nat, k ≤ n ∧ i = .int .i64 k ∧ RF w wr C B (B + 1) G (rdC bs k).1 (cfV S D P G n (nv sp) sw) (cgV (rdC bs k).2 n)) (fun i _ _ => n - (intOf i).toNat)
  case atStart => exact ⟨0, Nat.zero_le _, rfl, HR12.out⟩
  case round =>
    obtain ⟨k, hk, rfl, hrf⟩ := hrel
    have HK := Lib.hid hrf
    clear hrf
    by_cases hlt : k < n
    · have hd : decide (k < n) = true := decide_eq_true hlt
      have hd2 : decide ((k : Int) < (n : Int)) = true := decide_eq_true (by omega)
      have hkI : (k : Int) < (n : Int) := by omega
      have hw1 : IntKind.i64.wrap ((k : Int) + 1) = (k : Int) + 1 := by have := HN64.out; rw [IntKind.wrap_i64]; omega
      go_upto_region 11 with fail
      refine wp_region_held (S := fun X => X.cell? ⟨B + 1, 3, none⟩ = some (.slice (some ⟨G, 0, none⟩) n n)) hmx ?_
      have HKd := Lib.hid (HK.out.below (show Below wr.heap.size wr wr.drew from (Below.refl _ _).drew))
      clear HK
      change wpAnyH _ _ _ _ _ 14 _ _ wr.drew
      generalize wr.drew = wd at *
      have hS : wd.cell? ⟨B + 1, 3, none⟩ = some (.slice (some ⟨G, 0, none⟩) n n) := cell_of_block (o := 3) HKd.out.blk rfl
      (refine wpAnyH_take (i := 0) (v := .pointer (some ⟨B + 1, 0, none⟩)) rfl (by decide +kernel) (by decide +kernel) (by decide +kernel) (fun _ _ _ h => h) (.inl ⟨by first | rfl | (go_simp; done), fun X hX => by first | (go_simp; done) | (go_simp; rfl)⟩) hS ?_)
      (refine wpAnyH_take (i := 1) (v := .pointer (some ⟨B + 1, 0, none⟩)) rfl (by decide +kernel) (by decide +kernel) (by decide +kernel) (fun _ _ _ h => h) (.inl ⟨by first | rfl | (go_simp; done), fun X hX => by first | (go_simp; done) | (go_simp; rfl)⟩) hS ?_)
      (refine wpAnyH_take (i := 2) (v := .pointer (some ⟨B + 1, 3, none⟩)) rfl (by decide +kernel) (by decide +kernel) (by decide +kernel) (fun _ _ _ h => h) (.inl ⟨by first | rfl | (go_simp; done), fun X hX => by first | (go_simp; done) | (go_simp; rfl)⟩) hS ?_)
      (refine wpAnyH_take (i := 3) (v := .slice (some ⟨G, 0, none⟩) n n) rfl (by decide +kernel) (by decide +kernel) (by decide +kernel) (fun _ _ _ h => h) (.inl ⟨by first | rfl | (go_simp; done), fun X hX => by first | (go_simp; done) | (go_simp; rfl)⟩) hS ?_)
      (refine wpAnyH_take (i := 4) (v := .int .i64 k) rfl (by decide +kernel) (by decide +kernel) (by decide +kernel) (fun _ _ _ h => h) (.inl ⟨by first | rfl | (go_simp; done), fun X hX => by first | (go_simp; done) | (go_simp; rfl)⟩) hS ?_)
      (refine wpAnyH_take (i := 5) (v := .func (.func 68) #[] #[.pointer (some ⟨B, 0, none⟩)]) rfl (by decide +kernel) (by decide +kernel) (by decide +kernel) (fun _ _ _ h => h) (.inl ⟨by first | rfl | (go_simp; done), fun X hX => by first | (go_simp; done) | (go_simp; rfl)⟩) hS ?_)
      (refine wpAnyH_take (i := 7) (v := .func (.func 68) #[] #[.pointer (some ⟨B, 0, none⟩)]) rfl (by decide +kernel) (by decide +kernel) (by decide +kernel) (fun _ _ _ h => h) (.inl ⟨by first | rfl | (go_simp; done), fun X hX => by first | (go_simp; done) | (go_simp; rfl)⟩) hS ?_)
      (refine wpAnyH_take (i := 9) (v := .func (.func 68) #[] #[.pointer (some ⟨B, 0, none⟩)]) rfl (by decide +kernel) (by decide +kernel) (by decide +kernel) (fun _ _ _ h => h) (.inl ⟨by first | rfl | (go_simp; done), fun X hX => by first | (go_simp; done) | (go_simp; rfl)⟩) hS ?_)
      clear hS
      have HSTEP := Lib.hid (show rdC bs (k + 1) = ((rd3 (rdC bs k).1).1, (rdC bs k).2 ++ [(rd3 (rdC bs k).1).2]) from rfl)
      have HLN := Lib.hid (show (rdC bs k).2.length = k from rdN_len _ k)
      generalize rdC bs k = rk at *
      obtain ⟨st, l⟩ := rk
      dsimp only at HKd HSTEP HLN
      unfold rd3 at HSTEP
      obtain ⟨x0, hx0⟩ : ∃ x, x = (intF st).2 := ⟨_, rfl⟩
      obtain ⟨s1, hs1⟩ : ∃ x, x = (intF st).1 := ⟨_, rfl⟩
      obtain ⟨x1, hx1⟩ : ∃ x, x = (intF s1).2 := ⟨_, rfl⟩
      obtain ⟨s2, hs2⟩ : ∃ x, x = (intF s1).1 := ⟨_, rfl⟩
      obtain ⟨x2, hx2⟩ : ∃ x, x = (intF s2).2 := ⟨_, rfl⟩
      obtain ⟨s3, hs3⟩ : ∃ x, x = (intF s2).1 := ⟨_, rfl⟩
      rw [← hs1, ← hs2, ← hs3, ← hx0, ← hx1, ← hx2] at HSTEP
      have K1 := Lib.hid (number_rf HKd.out)
      rw [← hx0, ← hs1] at K1
      refine anyH_call (i := 6) (by decide +kernel) rfl (by first | rfl | (go_simp; done)) (by go_simp) (K1.out) ?_
      rintro e wa ⟨rfl, hr⟩
      have HKa := Lib.hid hr
      clear hr K1 HKd
      refine ⟨_, rfl, cell_of_block (o := 3) HKa.out.blk rfl, ?_⟩
      have K1 := Lib.hid (number_rf HKa.out)
      rw [← hx1, ← hs2] at K1
      refine anyH_call (i := 8) (by decide +kernel) rfl (by first | rfl | (go_simp; done)) (by go_simp) (K1.out) ?_
      rintro e wb ⟨rfl, hr⟩
      have HKb := Lib.hid hr
      clear hr K1 HKa
      refine ⟨_, rfl, cell_of_block (o := 3) HKb.out.blk rfl, ?_⟩
      have K1 := Lib.hid (number_rf HKb.out)
      rw [← hx2, ← hs3] at K1
      refine anyH_call (i := 10) (by decide +kernel) rfl (by first | rfl | (go_simp; done)) (by go_simp) (K1.out) ?_
      rintro e wc ⟨rfl, hr⟩
      have HKc := Lib.hid hr
      clear hr K1 HKb hx0 hx1 hx2 hs1 hs2 hs3
      have hS : wc.cell? ⟨B + 1, 3, none⟩ = some (.slice (some ⟨G, 0, none⟩) n n) := cell_of_block (o := 3) HKc.out.blk rfl
      refine ⟨_, rfl, hS, ?_⟩
      (refine wpAnyH_take (i := 11) (v := .agg #[.int .i64 x0, .int .i64 x1, .int .i64 x2]) rfl (by decide +kernel) (by decide +kernel) (by decide +kernel) (fun _ _ _ h => h) (.inl ⟨by first | rfl | (go_simp; done), fun X hX => by first | (go_simp; done) | (go_simp; rfl)⟩) hS ?_)
      (refine wpAnyH_take (i := 12) (v := .pointer (some ⟨G, k * 3, none⟩)) rfl (by decide +kernel) (by decide +kernel) (by decide +kernel) (fun _ _ _ h => h) (.inl ⟨by first | rfl | (go_simp; done), fun X hX => by first | (go_simp; done) | (go_simp; rfl)⟩) hS ?_)
      clear hS
      have hcl := cgV_len l n (by rw [HLN.out]; omega)
      obtain ⟨v0, hv0⟩ : ∃ v, (cgV l n)[k * 3]? = some v := ⟨_, List.getElem?_eq_getElem (by rw [hcl]; omega)⟩
      obtain ⟨v1, hv1⟩ : ∃ v, (cgV l n)[k * 3 + 1]? = some v := ⟨_, List.getElem?_eq_getElem (by rw [hcl]; omega)⟩
      obtain ⟨v2, hv2⟩ : ∃ v, (cgV l n)[k * 3 + 2]? = some v := ⟨_, List.getElem?_eq_getElem (by rw [hcl]; omega)⟩
      have q0 := cell_of_block (o := k * 3) (v := v0) HKc.out.row (by simpa using hv0)
      have q1 := cell_of_block (o := k * 3 + 1) (v := v1) HKc.out.row (by simpa using hv1)
      have q2 := cell_of_block (o := k * 3 + 2) (v := v2) HKc.out.row (by simpa using hv2)
      have g0 := free_of_block (k * 3) HKc.out.row
      have g1 := free_of_block (k * 3 + 1) HKc.out.row
      have g2 := free_of_block (k * 3 + 2) HKc.out.row
      have hset := cgV_set l n (by rw [HLN.out]; exact hlt) (x0, x1, x2)
      rw [HLN.out] at hset
      dsimp only at hset
      have HKf := Lib.hid (((HKc.out.setG (k * 3) (.int .i64 x0)).setG (k * 3 + 1) (.int .i64 x1)).setG (k * 3 + 2) (.int .i64 x2))
      rw [hset] at HKf
      have hSf : (((wc.setCell ⟨G, k * 3, none⟩ (.int .i64 x0)).setCell ⟨G, k * 3 + 1, none⟩ (.int .i64 x1)).setCell ⟨G, k * 3 + 2, none⟩ (.int .i64 x2)).cell? ⟨B + 1, 3, none⟩ = some (.slice (some ⟨G, 0, none⟩) n n) := cell_of_block (o := 3) HKf.out.blk rfl
      clear hcl hv0 hv1 hv2 hset HKc
      refine anyH_store (i := 13) (w' := ((wc.setCell ⟨G, k * 3, none⟩ (.int .i64 x0)).setCell ⟨G, k * 3 + 1, none⟩ (.int .i64 x1)).setCell ⟨G, k * 3 + 2, none⟩ (.int .i64 x2)) (by decide +kernel) rfl (by first | rfl | (go_simp; done)) (by go_simp) hSf ?_
      generalize ((wc.setCell ⟨G, k * 3, none⟩ (.int .i64 x0)).setCell ⟨G, k * 3 + 1, none⟩ (.int .i64 x1)).setCell ⟨G, k * 3 + 2, none⟩ (.int .i64 x2) = wf at *
      clear q0 q1 q2 g0 g1 g2 hSf
      refine wpAnyH_done (by decide +kernel) ?_ _
      go_simp
      go_wp2_with fail
      go_roundw
      case rel => exact ⟨k + 1, by omega, by go_num, by rw [HSTEP.out]; exact HKf.out⟩
      case measure => simp [intOf]; omega
    · obtain rfl : k = n := by omega
      have hd : decide (k < k) = false := decide_eq_false (by omega)
      have hd2 : decide ((k : Int) < (k : Int)) = false := decide_eq_false (by omega)
      have HOK := Lib.hid (show okV bs = ((endF (rdC bs k).1 == 0) && decide (1 ≤ (k : Int)) && rightG (rdV bs)) by unfold okV; rw [HH0.out]; rfl)
      have HV := Lib.hid (show rdV bs = ⟨S, D, P, (rdC bs k).2, sp, sw⟩ by unfold rdV; rw [HH0.out, ← HSDP.out.1, ← HSDP.out.2.1, ← HSDP.out.2.2, ← HSP.out, ← HSW.out]; rfl)
      have HLN := Lib.hid (show (rdC bs k).2.length = k from rdN_len _ k)
      have KE := Lib.hid (end_cur HK.out.cur (HE.out _ HK.out.bel))
      have b0 := cell_of_block (o := 0) HK.out.box rfl
      generalize rdC bs k = rk at *
      obtain ⟨st, l⟩ := rk
      dsimp only at HK HLN HV HOK KE
      obtain ⟨en, hen⟩ : ∃ x, x = endF st := ⟨_, rfl⟩
      rw [← hen] at KE HOK
      clear hen
      go_wp2_with fail
      refine KE.out.mono ?_
      rintro e w13 ⟨rfl, hb13⟩
      have HK13 := Lib.hid (HK.out.below hb13)
      clear hb13 KE HK b0
      by_cases h0 : en = 0
      case neg =>
        have hne : (en == 0) = false := by simpa using h0
        have hne2 : (en != 0) = true := by simp [h0]
        have E := Lib.hid (show okV bs = false by rw [HOK.out, hne]; rfl)
        clear h0
        go_wp2_with fail
        go_ret2
        exact HNO.out E.out _ _ rfl HK13.out.bel
      case pos =>
      subst h0
      by_cases hk0 : k = 0
      · subst hk0
        have E := Lib.hid (show okV bs = false by rw [HOK.out]; rfl)
        have KN := Lib.hid (right_no (w := w13) (P := B + 1) (.inr ⟨B + 1, rfl, _, _, _, _, _, _, _, HK13.out.blk⟩) (HT.out _ HK13.out.bel))
        go_wp2_with fail
        refine KN.out.mono ?_
        rintro e w14 ⟨rfl, hb14⟩
        have HB14 := Lib.hid (below_next HK13.out.bel hb14)
        clear hb14 KN
        go_wp2_with fail
        go_ret2
        exact HNO.out E.out _ _ rfl HB14.out
      · have HFL := Lib.hid (show Fl w13 (B + 1) G (rdV bs) from by
          rw [HV.out]
          refine ⟨by have := HK13.out.fg; omega, ⟨by show 1 ≤ l.length; rw [HLN.out]; omega, by show l.length ≤ 64; rw [HLN.out]; exact HN64.out⟩, ?_, ?_⟩
          · have := HK13.out.blk
            unfold cfV at this
            unfold flC
            dsimp only
            rw [HLN.out]
            exact this
          · have := HK13.out.row
            unfold cgV at this
            rw [HLN.out, Nat.sub_self, List.replicate_zero, List.append_nil] at this
            exact this)
        have KN := Lib.hid (right_fl HFL.out (HT.out _ HK13.out.bel))
        have HFG := Lib.hid (show w.heap.size ≤ B + 1 ∧ w.heap.size ≤ G from by have := HK13.out.wb; have := HK13.out.fg; omega)
        have HOK2 := Lib.hid (show okV bs = rightG (rdV bs) by rw [HOK.out, decide_eq_true (by omega)]; rfl)
        generalize rightG (rdV bs) = rg at *
        go_wp2_with fail
        refine KN.out.mono ?_
        rintro e w14 ⟨rfl, hb14⟩
        have HB14 := Lib.hid (below_next HK13.out.bel hb14)
        have HF14 := Lib.hid (HFL.out.below hb14)
        clear hb14 KN
        cases rg with
        | false =>
          go_wp2_with fail
          go_ret2
          exact HNO.out HOK2.out _ _ rfl HB14.out
        | true =>
          go_wp2_with fail
          go_ret2
          exact HYES.out HOK2.out _ _ _ _ rfl HF14.out HFG.out.1 HFG.out.2 HB14.out
end Go.Proofs.YtdpfbpmdpdfpdaaDoor
namespace Go.Proofs.YtdpfbpmdpdfpdaaDoor
set_option linter.unusedVariables false
open Go.ChangeShapes Go.WideShapes Go.ChangeAt Go.RowKit
attribute [local go_sem ↓] Go.wp_at_zero Go.wp_at_succ comesTo_value_eq comesTo_skip_eq comesTo_enter_eq

theorem fput_sl {w : World} {F G : Nat} {f : FV} (h : Fl w F G f) (hb : FB f) : Calls Tryd.prog 27 #[.pointer (some ⟨F, 0, none⟩)] w fun e w' => ∃ ad n c, e = .returned (.slice ad n c) ∧ OwnTxt w' w.heap.size (.slice ad n c) (bytesF f) ∧ Below w.heap.size w w' := by
  refine (fput_fl h hb).mono fun e w' ⟨u, he, ho, hbl⟩ => ?_
  rcases ho.own.2 with ⟨e1, _⟩ | ⟨g, cap, cur, e1, _⟩
  · subst e1; exact ⟨_, _, _, he, ho, hbl⟩
  · subst e1; exact ⟨_, _, _, he, ho, hbl⟩
theorem bytesF_len {f : FV} (h : FB f) : (bytesF f).length ≤ 2000 := by
  unfold bytesF
  have h1 := putsF_len (l := numsF f ++ ndL f.ns) (fun x hx => by
    rcases List.mem_append.1 hx with h2 | h2
    · exact h.nums x h2
    · exact h.nds x h2)
  rw [List.length_append, ndL_len, show (numsF f).length = 6 from rfl] at h1
  have := h.len
  omega
theorem bequal_eq {w : World} {a1 a2 : Option Addr} {n1 n2 c1 c2 : Nat} {xs : List Int} (h1 : TxtAt w (.slice a1 n1 c1) xs) (h2 : TxtAt w (.slice a2 n2 c2) xs) :
    Calls Tryd.prog 76 #[.slice a1 n1 c1, .slice a2 n2 c2] w fun e w' => e = .returned (.bool true) ∧ w = w' := by
  have k1 := txt_conv h1 w (Below.refl _ _)
  have k2 := txt_conv h2 w (Below.refl _ _)
  generalize strOfNums xs = sz at *
  clear h1 h2
  go_enter Tryd.func76, Tryd.ntmps76
  go_wp2
  go_ret
  exact ⟨rfl, rfl⟩
set_option maxRecDepth 100000 in
theorem same_eq {w : World} {F G F' G' : Nat} {f : FV} (h : Fl w F G f) (h' : Fl w F' G' f) (hb : FB f) : Calls Tryd.prog 34 #[.pointer (some ⟨F, 0, none⟩), .pointer (some ⟨F', 0, none⟩)] w fun e w' => e = .returned (.bool true) ∧ Below w.heap.size w w' := by
  have K1 := Lib.hid (fput_sl h hb)
  have K2 := Lib.hid (fun X (hX : Below w.heap.size w X) => fput_sl (h'.below hX) hb)
  clear h h' hb
  go_enter Tryd.func34, Tryd.ntmps34
  go_wp2_with fail
  refine K1.out.mono ?_
  rintro e w1 ⟨a1, n1, c1, rfl, ho1, hb1⟩
  have H1 := Lib.hid hb1
  have HO1 := Lib.hid ho1
  clear hb1 ho1
  go_wp2_with fail
  refine (K2.out _ H1.out).mono ?_
  rintro e w2 ⟨a2, n2, c2, rfl, ho2, hb2⟩
  have H2 := Lib.hid (below_next H1.out hb2)
  have KE := Lib.hid (bequal_eq (HO1.out.below hb2).at ho2.at)
  clear hb2 ho2 K1 K2 HO1
  go_wp2_with fail
  refine KE.out.mono ?_
  rintro e w' ⟨rfl, rfl⟩
  go_wp2_with fail
  go_ret
  exact ⟨rfl, H2.out⟩
theorem fbyte_txt {w' : World} {b : Nat} {x : Int} (hx : 0 ≤ x ∧ x ≤ 255) (h : w'.heap[b]? = some (.cells #[.int .u8 x] 5 (0, 0))) : TxtAt w' (.slice (some ⟨b, 0, none⟩) 1 1) [x] := by
  refine .inl ⟨b, 0, 1, rfl, by simp, ⟨fun k hk => ?_, fun k hk => ?_, fun k hk => ?_, by simp⟩⟩
  · obtain rfl : k = 0 := by simpa using hk
    exact cell_of_block h rfl
  · obtain rfl : k = 0 := by simpa using hk
    exact hx.1
  · obtain rfl : k = 0 := by simpa using hk
    exact hx.2
end Go.Proofs.YtdpfbpmdpdfpdaaDoor
namespace Go.Proofs.YtdpfbpmdpdfpdaaDoor
set_option linter.unusedVariables false
open Go.ChangeShapes Go.WideShapes Go.ChangeAt Go.RowKit
attribute [local go_sem ↓] Go.wp_at_zero Go.wp_at_succ comesTo_value_eq comesTo_skip_eq comesTo_enter_eq Rl.comesToR_value_eq Rl.comesToR_skip_eq Rl.comesToR_enter_eq

theorem fread_good {w : World} {ad : Option Addr} {nb cb : Nat} {f : FV} {N s j : Nat} (hg : FGood f N s j) (hj : j ≤ 1000) (h : TxtAt w (.slice ad nb cb) (bytesF f)) (hE : ErrAt w) (hT : TabZ w) :
    Calls Tryd.prog 24 #[.slice ad nb cb] w fun e w' => ∃ F G, e = .returned (.tuple #[.pointer (some ⟨F, 0, none⟩), .int .i64 0]) ∧ Fl w' F G f ∧ Below w.heap.size w w' := by
  have hr := hg.reads hj
  refine (fread_any h (by have := bytesF_len (hg.fb hj); omega) hE hT).mono fun e w' hx => ?_
  rcases hx with ⟨h1, _⟩ | ⟨_, F, G, h2, h3, _, _, h4⟩
  · rw [hr.1] at h1; cases h1
  · rw [hr.2.1] at h3; exact ⟨F, G, h2, h3, h4⟩
theorem fread_bad {w : World} {ad : Option Addr} {nb cb : Nat} {f : FV} {N s j : Nat} (hg : FGood f N s j) (hj : j ≤ 1000) (h : TxtAt w (.slice ad nb cb) (bytesF f ++ [0])) (hE : ErrAt w) (hT : TabZ w) :
    Calls Tryd.prog 24 #[.slice ad nb cb] w fun e w' => e = .returned (.tuple #[.pointer none, .int .i64 11]) ∧ Below w.heap.size w w' := by
  have hr := hg.reads hj
  refine (fread_any h (by have := bytesF_len (hg.fb hj); rw [List.length_append]; simp only [List.length_cons, List.length_nil]; omega) hE hT).mono fun e w' hx => ?_
  rcases hx with ⟨_, h2, h3⟩ | ⟨h1, _⟩
  · exact ⟨h2, h3⟩
  · rw [hr.2.2] at h1; cases h1
set_option maxRecDepth 100000 in
set_option maxHeartbeats 8000000 in
theorem fspares_walk (n s S D P : Int) (ad : Option Addr) (ll lcap : Nat) (A : Nat → Int × Int) (w : World) (hN : ErrAt w ∧ TabZ w) (hA : ToldsAt w ad ll A) :
    Calls Tryd.prog 6 #[.agg #[.int .i64 n, .int .i64 s], .agg #[.int .i64 S, .int .i64 D, .int .i64 P], .slice ad ll lcap] w fun e w' => e = .returned (.bool true) ∧ Below w.heap.size w w' := by
  have hmx : Tryd.prog.follows .mixedOrders = true := by kernel_rfl
  have b1 := below_alloc (Below.refl _ w) (.cells #[.int .i64 n, .int .i64 s] 43)
  have b2 := below_alloc (Below.refl _ (w.alloc (.cells #[.int .i64 n, .int .i64 s] 43))) (.cells #[.int .i64 S, .int .i64 D, .int .i64 P] 45)
  have n1 := World.alloc_heap_new w (.cells #[.int .i64 n, .int .i64 s] 43)
  have n2 := World.alloc_heap_new (w.alloc (.cells #[.int .i64 n, .int .i64 s] 43)) (.cells #[.int .i64 S, .int .i64 D, .int .i64 P] 45)
  rw [World.size_alloc] at n2
  have N1 := Lib.hid ((b2.block _ (by simp)).trans n1)
  have N2 := Lib.hid n2
  have HA := Lib.hid (below_next b1 b2)
  have HT := Lib.hid hN.2
  have HE := Lib.hid hN.1
  have HAT := Lib.hid hA
  clear b1 b2 n1 n2 hN hA
  go_enter Tryd.func6, Tryd.ntmps6
  go_upto_region 1 with fail
  generalize (w.alloc (.cells #[.int .i64 n, .int .i64 s] 43)).alloc (.cells #[.int .i64 S, .int .i64 D, .int .i64 P] 45) = U at *
  have a0 := cell_of_block (o := 0) N1.out rfl
  have a1 := cell_of_block (o := 1) N1.out rfl
  have r0 := cell_of_block (o := 0) N2.out rfl
  have r1 := cell_of_block (o := 1) N2.out rfl
  have r2 := cell_of_block (o := 2) N2.out rfl
  have KN := Lib.hid (fnew_any n s S D P U)
  go_wp2_with fail
  refine KN.out.mono ?_
  rintro e w1 (⟨hno, rfl, hb⟩ | ⟨hyes, F, G, rfl, hfl, hF, hG, hb⟩)
  · have HB := Lib.hid (below_next HA.out hb)
    have K1 := Lib.hid (fone w1 (HT.out.below HB.out))
    clear hno hb a0 a1 r0 r1 r2
    go_wp2_with fail
    refine K1.out.mono ?_
    rintro e w2 ⟨rfl, hb2⟩
    have HB2 := Lib.hid (below_next HB.out hb2)
    clear hb2
    go_wp2_with fail
    go_ret
    exact ⟨rfl, HB2.out⟩
  have hok : (1 ≤ n ∧ n ≤ 64 ∧ 0 ≤ s ∧ s < n) ∧ rightR S D P = true := by unfold newOk at hyes; rw [Bool.and_eq_true, decide_eq_true_eq] at hyes; exact hyes
  obtain ⟨hok, hrr⟩ := hok
  obtain ⟨N, rfl⟩ : ∃ N : Nat, n = (N : Int) := ⟨n.toNat, by omega⟩
  obtain ⟨M, rfl⟩ : ∃ M : Nat, s = (M : Int) := ⟨s.toNat, by omega⟩
  have HGD := Lib.hid (newF_good N M S D P (by omega) (by omega) (by omega) hrr)
  generalize newF N M S D P = f0 at *
  have HFL := Lib.hid hfl
  have HNM := Lib.hid hok
  have HFG := Lib.hid (show w.heap.size ≤ F ∧ w.heap.size ≤ G from ⟨Nat.le_trans HA.out.size hF, Nat.le_trans HA.out.size hG⟩)
  have HUF := Lib.hid (show w.heap.size + 1 < F ∧ w.heap.size + 1 < G by have := (Array.getElem?_eq_some_iff.1 N2.out).1; omega)
  have HB1 := Lib.hid (below_next HA.out hb)
  have N1' := Lib.hid ((hb.block _ (Array.getElem?_eq_some_iff.1 N1.out).1).trans N1.out)
  have KCL := Lib.hid (fclone_fl hfl)
  have HLT := Lib.hid hfl.lt
  have HFB0 := Lib.hid (HGD.out.fb (by decide))
  clear hyes hfl hF hG hb hok hrr a0 a1 r0 r1 r2 KN N1 N2
  go_wp2_with fail
  refine KCL.out.mono ?_
  rintro e w2 ⟨F1, G1, rfl, hfl, hF, hG, hb⟩
  have HFL2 := Lib.hid (HFL.out.below hb)
  have HC2 := Lib.hid hfl
  have HNE := Lib.hid (show F1 ≠ F ∧ F1 ≠ G ∧ G1 ≠ F ∧ G1 ≠ G by have := HLT.out; omega)
  have HB2 := Lib.hid (below_next HB1.out hb)
  have N2' := Lib.hid ((hb.block _ (Array.getElem?_eq_some_iff.1 N1'.out).1).trans N1'.out)
  have KP := Lib.hid (fput_sl hfl HFB0.out)
  clear hfl hF hG hb KCL HFL HB1 N1' HLT
  go_wp2_with fail
  refine KP.out.mono ?_
  rintro e w3 ⟨p3, n3, c3, rfl, ho, hb⟩
  have HFL3 := Lib.hid (HFL2.out.below hb)
  have HC3 := Lib.hid (HC2.out.below hb)
  have HB3 := Lib.hid (below_next HB2.out hb)
  have N3' := Lib.hid ((hb.block _ (Array.getElem?_eq_some_iff.1 N2'.out).1).trans N2'.out)
  have hcv := txt_conv ho.at w3 (Below.refl _ _)
  obtain ⟨sz, hsz⟩ : ∃ sz, sz = strOfNums (bytesF f0) := ⟨_, rfl⟩
  rw [← hsz] at hcv
  have HSZ := Lib.hid hsz
  clear ho hb hsz KP HFL2 HC2 HB2 N2'
  go_upto_region 6 with fail
  clear hcv
  go_wp2_with fail
  go_loopw [11] (fun i wr => ∃ (j : Nat) (f : FV), j ≤ 60 ∧ i = .int .i64 j ∧ Fl wr F G f ∧ FGood f N M j ∧ Fr (fun x => x = F ∨ x = G) w3 wr) (fun i _ => 60 - (intOf i).toNat)
  case atStart => exact ⟨0, f0, by decide, rfl, HFL3.out, HGD.out, Fr.refl _ _⟩
  case round =>
    obtain ⟨j, f, hj, rfl, hfl, hinv, hfr⟩ := hrel
    have HF := Lib.hid hfl
    have HI := Lib.hid hinv
    have HFR := Lib.hid hfr
    have HJ := Lib.hid hj
    have HBW := Lib.hid (HB3.out.trans (hfr.below (B := w.heap.size) HB3.out.size (fun x hx => by have := HFG.out; rcases hx with rfl | rfl; exact this.1; exact this.2)))
    have HTR := Lib.hid (HT.out.below HBW.out)
    have HER := Lib.hid (HE.out.below HBW.out)
    have HTL := Lib.hid (HAT.out.below HBW.out)
    clear hfl hinv hfr HFL3
    by_cases hj2 : j < ll ∧ j < 60
    case neg =>
      have HC := Lib.hid (HC3.out.fr HFR.out (by have := HNE.out; omega) (by have := HNE.out; omega))
      have HFBF := Lib.hid (HI.out.fb (by have := HJ.out; omega))
      have KP := Lib.hid (fput_sl HF.out HFBF.out)
      by_cases hjl : j < ll
      · have d1 : decide (j < ll) = true := decide_eq_true hjl
        have d2 : decide ((j : Int) < (ll : Int)) = true := decide_eq_true (by omega)
        have d3 : decide ((j : Int) < 60) = false := decide_eq_false (by omega)
        clear hj2 hjl hj
        go_wp2_with fail
        refine KP.out.mono ?_
        rintro e x1 ⟨a1, m1, k1, rfl, ho1, hb1⟩
        have X1 := Lib.hid hb1
        have KRD := Lib.hid (fread_good HI.out (by have := HJ.out; omega) ho1.at (HER.out.below hb1) (HTR.out.below hb1))
        clear ho1 hb1 KP
        go_wp2_with fail
        refine KRD.out.mono ?_
        rintro e x2 ⟨F2, G2, rfl, hf2, hb2⟩
        have X2 := Lib.hid (below_next X1.out hb2)
        have HF2 := Lib.hid hf2
        have KP2 := Lib.hid (fput_sl (HF.out.below X2.out) HFBF.out)
        clear hf2 hb2 KRD X1
        go_upto_region 14 with fail
        refine wp_region_lit ?_
        refine wpList_yield (w' := x2) (v := .pointer (some ⟨F, 0, none⟩)) rfl (by go_simp) ?_
        refine wpList_enter rfl (by go_simp) KP2.out ?_
        rintro e x3 ⟨a3, m3, k3, rfl, ho3, hb3⟩
        refine ⟨_, rfl, ?_⟩
        have hA4 := below_alloc (Below.refl _ x3) (.cells #[.int .u8 0] 5)
        have HO4 := Lib.hid (ho3.below hA4)
        have HT4 := Lib.hid (fbyte_txt (x := 0) (by decide) (World.alloc_heap_new x3 (.cells #[.int .u8 0] 5)))
        have X4 := Lib.hid (below_next hb3 hA4)
        have HX := Lib.hid X2.out
        clear hA4 hb3 ho3 KP2
        refine wpList_yield (w' := x3.alloc (.cells #[.int .u8 0] 5)) (v := .slice (some ⟨x3.heap.size, 0, none⟩) 1 1) rfl (by go_simp) ?_
        generalize x3.alloc (.cells #[.int .u8 0] 5) = x4 at *
        generalize x3.heap.size = q3 at *
        refine wpList_append_txt (by rfl) _ _ (by rfl) x2.heap.size (.slice a3 m3 k3) (bytesF f) (by go_simp) HO4.out (.slice (some ⟨q3, 0, none⟩) 1 1) [0] (by go_simp) HT4.out (by have := bytesF_len HFBF.out; simp only [List.length_cons, List.length_nil]; omega) X4.out.size ?_
        intro a5 m5 k5 x5 o5 b5 g5
        have X5 := Lib.hid (below_next X2.out (X4.out.trans b5))
        have HF5 := Lib.hid (HF2.out.below (X4.out.trans b5))
        have KB := Lib.hid (fread_bad HI.out (by have := HJ.out; omega) o5.at (HER.out.below X5.out) (HTR.out.below X5.out))
        clear o5 b5 g5 HO4 HT4 X4 HF2 X2 HX
        refine wpList_enter rfl (by go_simp) KB.out ?_
        rintro e x6 ⟨rfl, hb6⟩
        refine ⟨_, rfl, ?_⟩
        have X6 := Lib.hid (below_next X5.out hb6)
        have KS := Lib.hid (same_eq (HF.out.below X6.out) (HF5.out.below hb6) HFBF.out)
        clear hb6 KB HF5 X5
        go_upto_region 15 with fail
        go_wp2_with fail
        refine KS.out.mono ?_
        rintro e x7 ⟨rfl, hb7⟩
        have X7 := Lib.hid (below_next X6.out hb7)
        have KP7 := Lib.hid (fput_sl (HC.out.below X7.out) HFB0.out)
        clear hb7 KS X6
        go_wp2_with fail
        refine KP7.out.mono ?_
        rintro e x8 ⟨a8, m8, k8, rfl, ho8, hb8⟩
        have X8 := Lib.hid (below_next X7.out hb8)
        have hcv := txt_conv ho8.at x8 (Below.refl _ _)
        rw [← HSZ.out] at hcv
        have KO := Lib.hid (fone x8 (HTR.out.below X8.out))
        clear ho8 hb8 KP7 X7
        go_wp2_with fail
        refine KO.out.mono ?_
        rintro e x9 ⟨rfl, hb9⟩
        have X9 := Lib.hid (below_next HBW.out (below_next X8.out hb9))
        clear hb9 KO hcv
        go_wp2_with fail
        go_ret
        exact ⟨rfl, X9.out⟩
      · have d1 : decide (j < ll) = false := decide_eq_false hjl
        have d2 : decide ((j : Int) < (ll : Int)) = false := decide_eq_false (by omega)
        clear hj2 hjl hj
        go_wp2_with fail
        refine KP.out.mono ?_
        rintro e x1 ⟨a1, m1, k1, rfl, ho1, hb1⟩
        have X1 := Lib.hid hb1
        have KRD := Lib.hid (fread_good HI.out (by have := HJ.out; omega) ho1.at (HER.out.below hb1) (HTR.out.below hb1))
        clear ho1 hb1 KP
        go_wp2_with fail
        refine KRD.out.mono ?_
        rintro e x2 ⟨F2, G2, rfl, hf2, hb2⟩
        have X2 := Lib.hid (below_next X1.out hb2)
        have HF2 := Lib.hid hf2
        have KP2 := Lib.hid (fput_sl (HF.out.below X2.out) HFBF.out)
        clear hf2 hb2 KRD X1
        go_upto_region 14 with fail
        refine wp_region_lit ?_
        refine wpList_yield (w' := x2) (v := .pointer (some ⟨F, 0, none⟩)) rfl (by go_simp) ?_
        refine wpList_enter rfl (by go_simp) KP2.out ?_
        rintro e x3 ⟨a3, m3, k3, rfl, ho3, hb3⟩
        refine ⟨_, rfl, ?_⟩
        have hA4 := below_alloc (Below.refl _ x3) (.cells #[.int .u8 0] 5)
        have HO4 := Lib.hid (ho3.below hA4)
        have HT4 := Lib.hid (fbyte_txt (x := 0) (by decide) (World.alloc_heap_new x3 (.cells #[.int .u8 0] 5)))
        have X4 := Lib.hid (below_next hb3 hA4)
        have HX := Lib.hid X2.out
        clear hA4 hb3 ho3 KP2
        refine wpList_yield (w' := x3.alloc (.cells #[.int .u8 0] 5)) (v := .slice (some ⟨x3.heap.size, 0, none⟩) 1 1) rfl (by go_simp) ?_
        generalize x3.alloc (.cells #[.int .u8 0] 5) = x4 at *
        generalize x3.heap.size = q3 at *
        refine wpList_append_txt (by rfl) _ _ (by rfl) x2.heap.size (.slice a3 m3 k3) (bytesF f) (by go_simp) HO4.out (.slice (some ⟨q3, 0, none⟩) 1 1) [0] (by go_simp) HT4.out (by have := bytesF_len HFBF.out; simp only [List.length_cons, List.length_nil]; omega) X4.out.size ?_
        intro a5 m5 k5 x5 o5 b5 g5
        have X5 := Lib.hid (below_next X2.out (X4.out.trans b5))
        have HF5 := Lib.hid (HF2.out.below (X4.out.trans b5))
        have KB := Lib.hid (fread_bad HI.out (by have := HJ.out; omega) o5.at (HER.out.below X5.out) (HTR.out.below X5.out))
        clear o5 b5 g5 HO4 HT4 X4 HF2 X2 HX
        refine wpList_enter rfl (by go_simp) KB.out ?_
        rintro e x6 ⟨rfl, hb6⟩
        refine ⟨_, rfl, ?_⟩
        have X6 := Lib.hid (below_next X5.out hb6)
        have KS := Lib.hid (same_eq (HF.out.below X6.out) (HF5.out.below hb6) HFBF.out)
        clear hb6 KB HF5 X5
        go_upto_region 15 with fail
        go_wp2_with fail
        refine KS.out.mono ?_
        rintro e x7 ⟨rfl, hb7⟩
        have X7 := Lib.hid (below_next X6.out hb7)
        have KP7 := Lib.hid (fput_sl (HC.out.below X7.out) HFB0.out)
        clear hb7 KS X6
        go_wp2_with fail
        refine KP7.out.mono ?_
        rintro e x8 ⟨a8, m8, k8, rfl, ho8, hb8⟩
        have X8 := Lib.hid (below_next X7.out hb8)
        have hcv := txt_conv ho8.at x8 (Below.refl _ _)
        rw [← HSZ.out] at hcv
        have KO := Lib.hid (fone x8 (HTR.out.below X8.out))
        clear ho8 hb8 KP7 X7
        go_wp2_with fail
        refine KO.out.mono ?_
        rintro e x9 ⟨rfl, hb9⟩
        have X9 := Lib.hid (below_next HBW.out (below_next X8.out hb9))
        clear hb9 KO hcv
        go_wp2_with fail
        go_ret
        exact ⟨rfl, X9.out⟩
    case pos =>
    obtain ⟨hjl, hj60⟩ := hj2
    have d1 : decide (j < ll) = true := decide_eq_true hjl
    have d2 : decide ((j : Int) < (ll : Int)) = true := decide_eq_true (by omega)
    have d3 : decide ((j : Int) < 60) = true := decide_eq_true (by omega)
    have hjI : (j : Int) < (ll : Int) := by omega
    have hw1 : IntKind.i64.wrap ((j : Int) + 1) = (j : Int) + 1 := by rw [IntKind.wrap_i64]; omega
    obtain ⟨tb, toff, had, hcells⟩ := HTL.out.2 (by omega)
    obtain ⟨t0, t1⟩ := hcells j hjl
    subst had
    have HTELL := Lib.hid (HI.out.tell (by omega) (A j).1 (A j).2)
    have HSWB := Lib.hid (show 0 ≤ f.sw ∧ f.sw ≤ 1000 by have := HI.out.inv.sw; omega)
    have KT := Lib.hid (fun X (hX : Below wr.heap.size wr X) => tell_fl (HF.out.below hX) (HTR.out.below hX) (by have := HFG.out.1; have := HT.out.1; omega) (by have := HFG.out.2; have := HT.out.1; omega) (by have := HSWB.out; omega) (A j).1 (A j).2)
    have HJ60 := Lib.hid hj60
    have hz := World.block_lt_of_cell? wr _ t0
    dsimp only at hz
    clear hcells hj60
    generalize (A j).1 = tn at *
    generalize (A j).2 = tk at *
    go_upto_region 9 with fail
    refine wp_region_grow_tail 11 (fun w' => Below wr.heap.size wr w') hmx (by kernel_rfl) (Below.refl _ _).drew ?_
    simp only [List.take]
    iterate 11 (refine textS_run ?_ ?_ (fun W hS => ?_) ?_; rotate_left; (focus go_simp); (focus (obtain ⟨hc, hf⟩ := bcell hS; go_simp; first | rfl | exact ⟨rfl, hS⟩ | exact hS)); (try go_simp))
    refine textS_nil ?_
    intro wb hbb
    have HBwb := Lib.hid hbb
    clear hbb t0 t1 hz
    go_wp2_with fail
    refine (KT.out _ HBwb.out).mono ?_
    rintro e wc ⟨rfl, hfl, hfr⟩
    have HFc := Lib.hid hfl
    have HFRc := Lib.hid ((HFR.out.trans (Fr.of_below (F := fun _ => False) HBwb.out) (fun _ h => h.elim)).trans hfr (fun x hx => .inl hx))
    clear hfl hfr KT HFR HBW HTR HER HTL HBwb
    generalize (tellF f tn tk).2 = code at *
    generalize hf1 : (tellF f tn tk).1 = f1 at *
    clear hf1
    have HBWc := Lib.hid (HB3.out.trans (HFRc.out.below (B := w.heap.size) HB3.out.size (fun x hx => by have := HFG.out; rcases hx with rfl | rfl; exact this.1; exact this.2)))
    have NBc := Lib.hid ((HFRc.out.block _ (Array.getElem?_eq_some_iff.1 N3'.out).1 (fun e => by have := HUF.out; omega)).trans N3'.out)
    have HTc := Lib.hid (HT.out.below HBWc.out)
    obtain ⟨q1, q2, q3, q4⟩ := HTELL.out.facts
    have KU := Lib.hid (up_fl HFc.out HTc.out)
    have HQ4 := Lib.hid q4
    have KA0 := fun X (hX : Below wc.heap.size wc X) => factive_fl (HFc.out.below hX)
    have KS0 := fun X (hX : Below wc.heap.size wc X) => fspares_fl (HFc.out.below hX)
    have KC1 := fun X => blen_any f1.sp X
    have KC2 := fun X => blen_any (actF f1) X
    have KLe0 := fun X => show Calls Tryd.prog 32 #[.int .u64 (nv (actF f1)), .int .u64 (nv (upF f1))] X fun e w' => e = .returned (.int .u64 (nv (goneF f1))) ∧ X = w' from bless_any (actF f1) (upF f1) X
    have KN0 := fun X => show Calls Tryd.prog 33 #[.int .u64 (nv f1.sp), .int .u64 (nv (upF f1))] X fun e w' => e = .returned (.int .u64 (nv (freeF f1))) ∧ X = w' from and_any f1.sp (upF f1) X
    have KM0 := fun X => and_any (actF f1) f1.sp X
    rw [q1] at KC1
    rw [q2] at KC2
    rw [q3, nv_zero] at KM0
    clear q1 q2 q3 q4
    have HIN1 := Lib.hid HTELL.out
    have CB0 := Lib.hid (fun X (hX : Below wc.heap.size wc X) => cell_of_block (o := 0) ((hX.block _ (Array.getElem?_eq_some_iff.1 NBc.out).1).trans NBc.out) rfl)
    have CB1 := Lib.hid (fun X (hX : Below wc.heap.size wc X) => cell_of_block (o := 1) ((hX.block _ (Array.getElem?_eq_some_iff.1 NBc.out).1).trans NBc.out) rfl)
    have hwg : IntKind.i64.wrap ((N : Int) - (M : Int)) = (N : Int) - (M : Int) := by have := HNM.out; rw [IntKind.wrap_i64]; omega
    have hcase : nv (goneF f1) = 0 ∨ ((nv (goneF f1) == 0) = false ∧ ¬ nv (goneF f1) = 0 ∧ nv (freeF f1) = 0) := by
      by_cases h : nv (goneF f1) = 0
      · exact .inl h
      · refine .inr ⟨by rw [beq_eq_false_iff_ne]; exact h, h, ?_⟩
        rcases HQ4.out with h1 | h1
        · exact (h (by rw [h1]; rfl)).elim
        · rw [h1]; rfl
    have HCASE := Lib.hid hcase
    have KA := Lib.hid KA0
    have KS := Lib.hid KS0
    have KCS := Lib.hid KC1
    have KCA := Lib.hid KC2
    have KLe := Lib.hid KLe0
    have KN := Lib.hid KN0
    have KM := Lib.hid KM0
    clear hcase KA0 KS0 KC1 KC2 KLe0 KN0 KM0 HTELL HQ4
    generalize nv (goneF f1) = vg at *
    generalize nv (freeF f1) = vf at *
    generalize nv (actF f1) = va at *
    generalize nv (upF f1) = vu at *
    generalize nv f1.sp = vs at *
    go_wp2_with fail
    refine KU.out.mono ?_
    rintro e wd ⟨rfl, hbd⟩
    have HBd := Lib.hid hbd
    clear hbd KU
    go_upto_region 11 with fail
    have hcase := HCASE.out
    clear HCASE
    rcases hcase with rfl | ⟨hsg, hne, rfl⟩
    · skip
      refine Rl.wp_region_rel (fun a b => Below a.heap.size a b) wd (fun a b c h h' => below_next h h') (fun a => Below.refl _ _) hmx (by kernel_rfl) (Below.refl _ _).drew ?_
      iterate 1 (refine Rl.textR_run ?_ (fun ρ => ?_) (fun ρ W hS hd => ?_) ?_; rotate_left; (focus go_simp); (focus (obtain ⟨hc, hf⟩ := bcell hS; go_simp; first | exact ⟨rfl, Below.refl _ _⟩ | (refine ⟨?_, Below.refl _ _⟩; rfl))); (try go_simp))
      (refine Rl.textR_run ?_ (fun ρ => ?_) (fun ρ W hS hd => ?_) ?_; rotate_left; (focus go_simp); (focus (obtain ⟨hc, hf⟩ := bcell hS; go_simp; refine (KS.out W (below_next HBd.out hS)).mono ?_; rintro e w1 ⟨rfl, rfl⟩; refine ⟨_, rfl, ?_, Below.refl _ _⟩; rfl)); (try go_simp))
      (refine Rl.textR_run ?_ (fun ρ => ?_) (fun ρ W hS hd => ?_) ?_; rotate_left; (focus go_simp); (focus (obtain ⟨hc, hf⟩ := bcell hS; go_simp; refine (KCS.out W).mono ?_; rintro e w1 ⟨rfl, rfl⟩; refine ⟨_, rfl, ?_, Below.refl _ _⟩; rfl)); (try go_simp))
      iterate 1 (refine Rl.textR_run ?_ (fun ρ => ?_) (fun ρ W hS hd => ?_) ?_; rotate_left; (focus go_simp); (focus (obtain ⟨hc, hf⟩ := bcell hS; go_simp; first | exact ⟨rfl, Below.refl _ _⟩ | (refine ⟨?_, Below.refl _ _⟩; rfl))); (try go_simp))
      (refine Rl.textR_run ?_ (fun ρ => ?_) (fun ρ W hS hd => ?_) ?_; rotate_left; (focus go_simp); (focus (have hfact := CB1.out W (below_next HBd.out hS); go_simp; first | exact ⟨rfl, Below.refl _ _⟩ | (refine ⟨?_, Below.refl _ _⟩; rfl))); (try go_simp))
      iterate 2 (refine Rl.textR_run ?_ (fun ρ => ?_) (fun ρ W hS hd => ?_) ?_; rotate_left; (focus go_simp); (focus (obtain ⟨hc, hf⟩ := bcell hS; go_simp; first | exact ⟨rfl, Below.refl _ _⟩ | (refine ⟨?_, Below.refl _ _⟩; rfl))); (try go_simp))
      iterate 1 (refine Rl.textR_run ?_ (fun ρ => ?_) (fun ρ W hS hd => ?_) ?_; rotate_left; (focus go_simp); (focus (obtain ⟨hc, hf⟩ := bcell hS; go_simp; first | exact ⟨rfl, Below.refl _ _⟩ | (refine ⟨?_, Below.refl _ _⟩; rfl))); (try go_simp))
      (refine Rl.textR_run ?_ (fun ρ => ?_) (fun ρ W hS hd => ?_) ?_; rotate_left; (focus go_simp); (focus (obtain ⟨hc, hf⟩ := bcell hS; go_simp; refine (KA.out W (below_next HBd.out hS)).mono ?_; rintro e w1 ⟨rfl, rfl⟩; refine ⟨_, rfl, ?_, Below.refl _ _⟩; rfl)); (try go_simp))
      (refine Rl.textR_run ?_ (fun ρ => ?_) (fun ρ W hS hd => ?_) ?_; rotate_left; (focus go_simp); (focus (obtain ⟨hc, hf⟩ := bcell hS; go_simp; refine (KCA.out W).mono ?_; rintro e w1 ⟨rfl, rfl⟩; refine ⟨_, rfl, ?_, Below.refl _ _⟩; rfl)); (try go_simp))
      iterate 1 (refine Rl.textR_run ?_ (fun ρ => ?_) (fun ρ W hS hd => ?_) ?_; rotate_left; (focus go_simp); (focus (obtain ⟨hc, hf⟩ := bcell hS; go_simp; first | exact ⟨rfl, Below.refl _ _⟩ | (refine ⟨?_, Below.refl _ _⟩; rfl))); (try go_simp))
      (refine Rl.textR_run ?_ (fun ρ => ?_) (fun ρ W hS hd => ?_) ?_; rotate_left; (focus go_simp); (focus (have hfact := CB0.out W (below_next HBd.out hS); go_simp; first | exact ⟨rfl, Below.refl _ _⟩ | (refine ⟨?_, Below.refl _ _⟩; rfl))); (try go_simp))
      iterate 1 (refine Rl.textR_run ?_ (fun ρ => ?_) (fun ρ W hS hd => ?_) ?_; rotate_left; (focus go_simp); (focus (obtain ⟨hc, hf⟩ := bcell hS; go_simp; first | exact ⟨rfl, Below.refl _ _⟩ | (refine ⟨?_, Below.refl _ _⟩; rfl))); (try go_simp))
      (refine Rl.textR_run ?_ (fun ρ => ?_) (fun ρ W hS hd => ?_) ?_; rotate_left; (focus go_simp); (focus (have hfact := CB1.out W (below_next HBd.out hS); go_simp; first | exact ⟨rfl, Below.refl _ _⟩ | (refine ⟨?_, Below.refl _ _⟩; rfl))); (try go_simp))
      iterate 4 (refine Rl.textR_run ?_ (fun ρ => ?_) (fun ρ W hS hd => ?_) ?_; rotate_left; (focus go_simp); (focus (obtain ⟨hc, hf⟩ := bcell hS; go_simp; first | exact ⟨rfl, Below.refl _ _⟩ | (refine ⟨?_, Below.refl _ _⟩; rfl))); (try go_simp))
      iterate 1 (refine Rl.textR_run ?_ (fun ρ => ?_) (fun ρ W hS hd => ?_) ?_; rotate_left; (focus go_simp); (focus (obtain ⟨hc, hf⟩ := bcell hS; go_simp; first | exact ⟨rfl, Below.refl _ _⟩ | (refine ⟨?_, Below.refl _ _⟩; rfl))); (try go_simp))
      (refine Rl.textR_run ?_ (fun ρ => ?_) (fun ρ W hS hd => ?_) ?_; rotate_left; (focus go_simp); (focus (obtain ⟨hc, hf⟩ := bcell hS; go_simp; refine (KA.out W (below_next HBd.out hS)).mono ?_; rintro e w1 ⟨rfl, rfl⟩; refine ⟨_, rfl, ?_, Below.refl _ _⟩; rfl)); (try go_simp))
      iterate 1 (refine Rl.textR_run ?_ (fun ρ => ?_) (fun ρ W hS hd => ?_) ?_; rotate_left; (focus go_simp); (focus (obtain ⟨hc, hf⟩ := bcell hS; go_simp; first | exact ⟨rfl, Below.refl _ _⟩ | (refine ⟨?_, Below.refl _ _⟩; rfl))); (try go_simp))
      (refine Rl.textR_run ?_ (fun ρ => ?_) (fun ρ W hS hd => ?_) ?_; rotate_left; (focus go_simp); (focus (obtain ⟨hc, hf⟩ := bcell hS; go_simp; refine (KLe.out W).mono ?_; rintro e w1 ⟨rfl, rfl⟩; refine ⟨_, rfl, ?_, Below.refl _ _⟩; rfl)); (try go_simp))
      iterate 2 (refine Rl.textR_run ?_ (fun ρ => ?_) (fun ρ W hS hd => ?_) ?_; rotate_left; (focus go_simp); (focus (obtain ⟨hc, hf⟩ := bcell hS; go_simp; first | exact ⟨rfl, Below.refl _ _⟩ | (refine ⟨?_, Below.refl _ _⟩; rfl))); (try go_simp))
      iterate 5 (refine Rl.textR_skip (fun ρ => ?_) ?_; (focus (first | rfl | (go_simp; done) | (go_simp; rfl))); (try go_simp))
      iterate 3 (refine Rl.textR_run ?_ (fun ρ => ?_) (fun ρ W hS hd => ?_) ?_; rotate_left; (focus go_simp); (focus (obtain ⟨hc, hf⟩ := bcell hS; go_simp; first | exact ⟨rfl, Below.refl _ _⟩ | (refine ⟨?_, Below.refl _ _⟩; rfl))); (try go_simp))
      iterate 1 (refine Rl.textR_run ?_ (fun ρ => ?_) (fun ρ W hS hd => ?_) ?_; rotate_left; (focus go_simp); (focus (obtain ⟨hc, hf⟩ := bcell hS; go_simp; first | exact ⟨rfl, Below.refl _ _⟩ | (refine ⟨?_, Below.refl _ _⟩; rfl))); (try go_simp))
      (refine Rl.textR_run ?_ (fun ρ => ?_) (fun ρ W hS hd => ?_) ?_; rotate_left; (focus go_simp); (focus (obtain ⟨hc, hf⟩ := bcell hS; go_simp; refine (KA.out W (below_next HBd.out hS)).mono ?_; rintro e w1 ⟨rfl, rfl⟩; refine ⟨_, rfl, ?_, Below.refl _ _⟩; rfl)); (try go_simp))
      iterate 1 (refine Rl.textR_run ?_ (fun ρ => ?_) (fun ρ W hS hd => ?_) ?_; rotate_left; (focus go_simp); (focus (obtain ⟨hc, hf⟩ := bcell hS; go_simp; first | exact ⟨rfl, Below.refl _ _⟩ | (refine ⟨?_, Below.refl _ _⟩; rfl))); (try go_simp))
      (refine Rl.textR_run ?_ (fun ρ => ?_) (fun ρ W hS hd => ?_) ?_; rotate_left; (focus go_simp); (focus (obtain ⟨hc, hf⟩ := bcell hS; go_simp; refine (KS.out W (below_next HBd.out hS)).mono ?_; rintro e w1 ⟨rfl, rfl⟩; refine ⟨_, rfl, ?_, Below.refl _ _⟩; rfl)); (try go_simp))
      (refine Rl.textR_run ?_ (fun ρ => ?_) (fun ρ W hS hd => ?_) ?_; rotate_left; (focus go_simp); (focus (obtain ⟨hc, hf⟩ := bcell hS; go_simp; refine (KM.out W).mono ?_; rintro e w1 ⟨rfl, rfl⟩; refine ⟨_, rfl, ?_, Below.refl _ _⟩; rfl)); (try go_simp))
      iterate 2 (refine Rl.textR_run ?_ (fun ρ => ?_) (fun ρ W hS hd => ?_) ?_; rotate_left; (focus go_simp); (focus (obtain ⟨hc, hf⟩ := bcell hS; go_simp; first | exact ⟨rfl, Below.refl _ _⟩ | (refine ⟨?_, Below.refl _ _⟩; rfl))); (try go_simp))
      refine Rl.textR_nil ?_
      intro ρ wA hgA hkA
      dsimp only
      have HGA := Lib.hid (below_next HBd.out hgA)
      have HFZ := Lib.hid (HFc.out.below HGA.out)
      have HFRZ := Lib.hid (HFRc.out.trans (Fr.of_below (F := fun _ => False) HGA.out) (fun _ h => h.elim))
      clear hgA hkA
      go_simp
      go_wp2_with fail
      go_roundw
      case rel => exact ⟨j + 1, f1, by have := HJ60.out; omega, by go_num, HFZ.out, HIN1.out, HFRZ.out⟩
      case measure => have := HJ60.out; simp [intOf]; omega
    · skip
      refine Rl.wp_region_rel (fun a b => Below a.heap.size a b) wd (fun a b c h h' => below_next h h') (fun a => Below.refl _ _) hmx (by kernel_rfl) (Below.refl _ _).drew ?_
      iterate 1 (refine Rl.textR_run ?_ (fun ρ => ?_) (fun ρ W hS hd => ?_) ?_; rotate_left; (focus go_simp); (focus (obtain ⟨hc, hf⟩ := bcell hS; go_simp; first | exact ⟨rfl, Below.refl _ _⟩ | (refine ⟨?_, Below.refl _ _⟩; rfl))); (try go_simp))
      (refine Rl.textR_run ?_ (fun ρ => ?_) (fun ρ W hS hd => ?_) ?_; rotate_left; (focus go_simp); (focus (obtain ⟨hc, hf⟩ := bcell hS; go_simp; refine (KS.out W (below_next HBd.out hS)).mono ?_; rintro e w1 ⟨rfl, rfl⟩; refine ⟨_, rfl, ?_, Below.refl _ _⟩; rfl)); (try go_simp))
      (refine Rl.textR_run ?_ (fun ρ => ?_) (fun ρ W hS hd => ?_) ?_; rotate_left; (focus go_simp); (focus (obtain ⟨hc, hf⟩ := bcell hS; go_simp; refine (KCS.out W).mono ?_; rintro e w1 ⟨rfl, rfl⟩; refine ⟨_, rfl, ?_, Below.refl _ _⟩; rfl)); (try go_simp))
      iterate 1 (refine Rl.textR_run ?_ (fun ρ => ?_) (fun ρ W hS hd => ?_) ?_; rotate_left; (focus go_simp); (focus (obtain ⟨hc, hf⟩ := bcell hS; go_simp; first | exact ⟨rfl, Below.refl _ _⟩ | (refine ⟨?_, Below.refl _ _⟩; rfl))); (try go_simp))
      (refine Rl.textR_run ?_ (fun ρ => ?_) (fun ρ W hS hd => ?_) ?_; rotate_left; (focus go_simp); (focus (have hfact := CB1.out W (below_next HBd.out hS); go_simp; first | exact ⟨rfl, Below.refl _ _⟩ | (refine ⟨?_, Below.refl _ _⟩; rfl))); (try go_simp))
      iterate 2 (refine Rl.textR_run ?_ (fun ρ => ?_) (fun ρ W hS hd => ?_) ?_; rotate_left; (focus go_simp); (focus (obtain ⟨hc, hf⟩ := bcell hS; go_simp; first | exact ⟨rfl, Below.refl _ _⟩ | (refine ⟨?_, Below.refl _ _⟩; rfl))); (try go_simp))
      iterate 1 (refine Rl.textR_run ?_ (fun ρ => ?_) (fun ρ W hS hd => ?_) ?_; rotate_left; (focus go_simp); (focus (obtain ⟨hc, hf⟩ := bcell hS; go_simp; first | exact ⟨rfl, Below.refl _ _⟩ | (refine ⟨?_, Below.refl _ _⟩; rfl))); (try go_simp))
      (refine Rl.textR_run ?_ (fun ρ => ?_) (fun ρ W hS hd => ?_) ?_; rotate_left; (focus go_simp); (focus (obtain ⟨hc, hf⟩ := bcell hS; go_simp; refine (KA.out W (below_next HBd.out hS)).mono ?_; rintro e w1 ⟨rfl, rfl⟩; refine ⟨_, rfl, ?_, Below.refl _ _⟩; rfl)); (try go_simp))
      (refine Rl.textR_run ?_ (fun ρ => ?_) (fun ρ W hS hd => ?_) ?_; rotate_left; (focus go_simp); (focus (obtain ⟨hc, hf⟩ := bcell hS; go_simp; refine (KCA.out W).mono ?_; rintro e w1 ⟨rfl, rfl⟩; refine ⟨_, rfl, ?_, Below.refl _ _⟩; rfl)); (try go_simp))
      iterate 1 (refine Rl.textR_run ?_ (fun ρ => ?_) (fun ρ W hS hd => ?_) ?_; rotate_left; (focus go_simp); (focus (obtain ⟨hc, hf⟩ := bcell hS; go_simp; first | exact ⟨rfl, Below.refl _ _⟩ | (refine ⟨?_, Below.refl _ _⟩; rfl))); (try go_simp))
      (refine Rl.textR_run ?_ (fun ρ => ?_) (fun ρ W hS hd => ?_) ?_; rotate_left; (focus go_simp); (focus (have hfact := CB0.out W (below_next HBd.out hS); go_simp; first | exact ⟨rfl, Below.refl _ _⟩ | (refine ⟨?_, Below.refl _ _⟩; rfl))); (try go_simp))
      iterate 1 (refine Rl.textR_run ?_ (fun ρ => ?_) (fun ρ W hS hd => ?_) ?_; rotate_left; (focus go_simp); (focus (obtain ⟨hc, hf⟩ := bcell hS; go_simp; first | exact ⟨rfl, Below.refl _ _⟩ | (refine ⟨?_, Below.refl _ _⟩; rfl))); (try go_simp))
      (refine Rl.textR_run ?_ (fun ρ => ?_) (fun ρ W hS hd => ?_) ?_; rotate_left; (focus go_simp); (focus (have hfact := CB1.out W (below_next HBd.out hS); go_simp; first | exact ⟨rfl, Below.refl _ _⟩ | (refine ⟨?_, Below.refl _ _⟩; rfl))); (try go_simp))
      iterate 4 (refine Rl.textR_run ?_ (fun ρ => ?_) (fun ρ W hS hd => ?_) ?_; rotate_left; (focus go_simp); (focus (obtain ⟨hc, hf⟩ := bcell hS; go_simp; first | exact ⟨rfl, Below.refl _ _⟩ | (refine ⟨?_, Below.refl _ _⟩; rfl))); (try go_simp))
      iterate 1 (refine Rl.textR_run ?_ (fun ρ => ?_) (fun ρ W hS hd => ?_) ?_; rotate_left; (focus go_simp); (focus (obtain ⟨hc, hf⟩ := bcell hS; go_simp; first | exact ⟨rfl, Below.refl _ _⟩ | (refine ⟨?_, Below.refl _ _⟩; rfl))); (try go_simp))
      (refine Rl.textR_run ?_ (fun ρ => ?_) (fun ρ W hS hd => ?_) ?_; rotate_left; (focus go_simp); (focus (obtain ⟨hc, hf⟩ := bcell hS; go_simp; refine (KA.out W (below_next HBd.out hS)).mono ?_; rintro e w1 ⟨rfl, rfl⟩; refine ⟨_, rfl, ?_, Below.refl _ _⟩; rfl)); (try go_simp))
      iterate 1 (refine Rl.textR_run ?_ (fun ρ => ?_) (fun ρ W hS hd => ?_) ?_; rotate_left; (focus go_simp); (focus (obtain ⟨hc, hf⟩ := bcell hS; go_simp; first | exact ⟨rfl, Below.refl _ _⟩ | (refine ⟨?_, Below.refl _ _⟩; rfl))); (try go_simp))
      (refine Rl.textR_run ?_ (fun ρ => ?_) (fun ρ W hS hd => ?_) ?_; rotate_left; (focus go_simp); (focus (obtain ⟨hc, hf⟩ := bcell hS; go_simp; refine (KLe.out W).mono ?_; rintro e w1 ⟨rfl, rfl⟩; refine ⟨_, rfl, ?_, Below.refl _ _⟩; rfl)); (try go_simp))
      iterate 2 (refine Rl.textR_run ?_ (fun ρ => ?_) (fun ρ W hS hd => ?_) ?_; rotate_left; (focus go_simp); (focus (obtain ⟨hc, hf⟩ := bcell hS; go_simp; first | exact ⟨rfl, Below.refl _ _⟩ | (refine ⟨?_, Below.refl _ _⟩; rfl))); (try go_simp))
      iterate 1 (refine Rl.textR_run ?_ (fun ρ => ?_) (fun ρ W hS hd => ?_) ?_; rotate_left; (focus go_simp); (focus (obtain ⟨hc, hf⟩ := bcell hS; go_simp; first | exact ⟨rfl, Below.refl _ _⟩ | (refine ⟨?_, Below.refl _ _⟩; rfl))); (try go_simp))
      (refine Rl.textR_run ?_ (fun ρ => ?_) (fun ρ W hS hd => ?_) ?_; rotate_left; (focus go_simp); (focus (obtain ⟨hc, hf⟩ := bcell hS; go_simp; refine (KS.out W (below_next HBd.out hS)).mono ?_; rintro e w1 ⟨rfl, rfl⟩; refine ⟨_, rfl, ?_, Below.refl _ _⟩; rfl)); (try go_simp))
      iterate 1 (refine Rl.textR_run ?_ (fun ρ => ?_) (fun ρ W hS hd => ?_) ?_; rotate_left; (focus go_simp); (focus (obtain ⟨hc, hf⟩ := bcell hS; go_simp; first | exact ⟨rfl, Below.refl _ _⟩ | (refine ⟨?_, Below.refl _ _⟩; rfl))); (try go_simp))
      (refine Rl.textR_run ?_ (fun ρ => ?_) (fun ρ W hS hd => ?_) ?_; rotate_left; (focus go_simp); (focus (obtain ⟨hc, hf⟩ := bcell hS; go_simp; refine (KN.out W).mono ?_; rintro e w1 ⟨rfl, rfl⟩; refine ⟨_, rfl, ?_, Below.refl _ _⟩; rfl)); (try go_simp))
      iterate 1 (refine Rl.textR_run ?_ (fun ρ => ?_) (fun ρ W hS hd => ?_) ?_; rotate_left; (focus go_simp); (focus (obtain ⟨hc, hf⟩ := bcell hS; go_simp; first | exact ⟨rfl, Below.refl _ _⟩ | (refine ⟨?_, Below.refl _ _⟩; rfl))); (try go_simp))
      iterate 3 (refine Rl.textR_run ?_ (fun ρ => ?_) (fun ρ W hS hd => ?_) ?_; rotate_left; (focus go_simp); (focus (obtain ⟨hc, hf⟩ := bcell hS; go_simp; first | exact ⟨rfl, Below.refl _ _⟩ | (refine ⟨?_, Below.refl _ _⟩; rfl))); (try go_simp))
      iterate 1 (refine Rl.textR_run ?_ (fun ρ => ?_) (fun ρ W hS hd => ?_) ?_; rotate_left; (focus go_simp); (focus (obtain ⟨hc, hf⟩ := bcell hS; go_simp; first | exact ⟨rfl, Below.refl _ _⟩ | (refine ⟨?_, Below.refl _ _⟩; rfl))); (try go_simp))
      (refine Rl.textR_run ?_ (fun ρ => ?_) (fun ρ W hS hd => ?_) ?_; rotate_left; (focus go_simp); (focus (obtain ⟨hc, hf⟩ := bcell hS; go_simp; refine (KA.out W (below_next HBd.out hS)).mono ?_; rintro e w1 ⟨rfl, rfl⟩; refine ⟨_, rfl, ?_, Below.refl _ _⟩; rfl)); (try go_simp))
      iterate 1 (refine Rl.textR_run ?_ (fun ρ => ?_) (fun ρ W hS hd => ?_) ?_; rotate_left; (focus go_simp); (focus (obtain ⟨hc, hf⟩ := bcell hS; go_simp; first | exact ⟨rfl, Below.refl _ _⟩ | (refine ⟨?_, Below.refl _ _⟩; rfl))); (try go_simp))
      (refine Rl.textR_run ?_ (fun ρ => ?_) (fun ρ W hS hd => ?_) ?_; rotate_left; (focus go_simp); (focus (obtain ⟨hc, hf⟩ := bcell hS; go_simp; refine (KS.out W (below_next HBd.out hS)).mono ?_; rintro e w1 ⟨rfl, rfl⟩; refine ⟨_, rfl, ?_, Below.refl _ _⟩; rfl)); (try go_simp))
      (refine Rl.textR_run ?_ (fun ρ => ?_) (fun ρ W hS hd => ?_) ?_; rotate_left; (focus go_simp); (focus (obtain ⟨hc, hf⟩ := bcell hS; go_simp; refine (KM.out W).mono ?_; rintro e w1 ⟨rfl, rfl⟩; refine ⟨_, rfl, ?_, Below.refl _ _⟩; rfl)); (try go_simp))
      iterate 2 (refine Rl.textR_run ?_ (fun ρ => ?_) (fun ρ W hS hd => ?_) ?_; rotate_left; (focus go_simp); (focus (obtain ⟨hc, hf⟩ := bcell hS; go_simp; first | exact ⟨rfl, Below.refl _ _⟩ | (refine ⟨?_, Below.refl _ _⟩; rfl))); (try go_simp))
      refine Rl.textR_nil ?_
      intro ρ wA hgA hkA
      dsimp only
      have HGA := Lib.hid (below_next HBd.out hgA)
      have HFZ := Lib.hid (HFc.out.below HGA.out)
      have HFRZ := Lib.hid (HFRc.out.trans (Fr.of_below (F := fun _ => False) HGA.out) (fun _ h => h.elim))
      clear hgA hkA
      go_simp
      go_wp2_with fail
      go_roundw
      case rel => exact ⟨j + 1, f1, by have := HJ60.out; omega, by go_num, HFZ.out, HIN1.out, HFRZ.out⟩
      case measure => have := HJ60.out; simp [intOf]; omega
end Go.Proofs.YtdpfbpmdpdfpdaaDoor
