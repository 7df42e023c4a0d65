/- Laws that belong together: A fleet read from bytes, plainly; where its reading stands. No condition.; What Put lays of a fleet that may be is read as it is; what is told leaves a fleet such. No condition.; The document's reading of a fleet, plainly: it is the program's. No condition.; The document's bytes of a fleet (Put). No condition.; A fleet read from bytes. Conditions: errors.errorType and math/bits' table of trailing zeros lie as the program's text lays them.; Two fleets that hold the same are the same (Same); a fleet's bytes and one more. No condition.; Is a fleet the document's (Like): of two that hold the same, yes. Condition: math/bits' table of trailing zeros lies as its text lays it. -/
import Derived.Test.YtnofgffkfapodaaDoorMam
import Derived.Test.YtnofgffkfapodaaDoorMaj
import Derived.Test.YtnofgffkfapodaaDoorMal
import Derived.Test.YtnofgffkfapodaaDoorErrAt
import Derived.Test.YtnofgffkfapodaaDoorMad
import Derived.Test.YtnofgffkfapodaaDoorMao
import Derived.Test.YtnofgffkfapodaaDoorMap
namespace Go.Proofs.YtnofgffkfapodaaDoor
set_option linter.unusedVariables false
open Go.ChangeShapes Go.WideShapes Go.ChangeAt Go.RowKit
attribute [local go_sem ↓] Go.wp_at_zero Go.wp_at_succ comesTo_value_eq comesTo_skip_eq comesTo_enter_eq

/-- three numbers -/
def rd3 (st : CS) : CS × N3 := ((intF (intF (intF st).1).1).1, ((intF st).2, (intF (intF st).1).2, (intF (intF (intF st).1).1).2))
/-- so many nodes -/
def rdN (st : CS) : Nat → CS × List N3
  | 0 => (st, [])
  | k + 1 => ((rd3 (rdN st k).1).1, (rdN st k).2 ++ [(rd3 (rdN st k).1).2])
theorem rdN_len (st : CS) : ∀ k, (rdN st k).2.length = k
  | 0 => rfl
  | k + 1 => by simp [rdN, rdN_len st k]
def h0 (bs : List Int) : CS × Int := smallF ⟨bs, 0⟩ 64
def h1 (bs : List Int) : CS × Int := intF (h0 bs).1
def h2 (bs : List Int) : CS × Int := intF (h1 bs).1
def h3 (bs : List Int) : CS × Int := intF (h2 bs).1
def h4 (bs : List Int) : CS × Int := intF (h3 bs).1
def h5 (bs : List Int) : CS × Int := smallF (h4 bs).1 9223372036854775807
def rdC (bs : List Int) (k : Nat) : CS × List N3 := rdN (h5 bs).1 k
def rdV (bs : List Int) : FV := ⟨(h1 bs).2, (h2 bs).2, (h3 bs).2, (rdC bs (h0 bs).2.toNat).2, BitVec.ofInt 64 (h4 bs).2, (h5 bs).2⟩
def okV (bs : List Int) : Bool := (endF (rdC bs (h0 bs).2.toNat).1 == 0) && decide (1 ≤ (h0 bs).2) && rightG (rdV bs)
theorem smallF_most (st : CS) {most : Int} (h : 0 ≤ most) : 0 ≤ (smallF st most).2 ∧ (smallF st most).2 ≤ most := by
  unfold smallF
  split
  · exact ⟨Int.le_refl _, h⟩
  · omega
/-- where a reading stands: the cursor, its box, the fleet's block, its nodes' row -/
structure RF (w X : World) (C B F G : Nat) (st : CS) (cf : Array Value) (cg : List Value) : Prop where
  cur : Cur X C (fun j => w.heap.size ≤ j ∧ j < B) st
  box : X.heap[B]? = some (.cells #[.pointer (some ⟨C, 0, none⟩)] 75 (0, 0))
  blk : X.heap[F]? = some (.cells cf 60 (0, 0))
  row : X.heap[G]? = some (.cells cg.toArray 62 (0, 0))
  bf : B < F
  fg : F < G
  wb : w.heap.size ≤ B
  bel : Below w.heap.size w X
theorem RF.call {w X X' : World} {C B F G : Nat} {st st' : CS} {cf : Array Value} {cg : List Value} (h : RF w X C B F G st cf cg) (hc : Cur X' C (fun j => w.heap.size ≤ j ∧ j < B) st') (hf : Fr (fun j => j = C) X X') : RF w X' C B F G st' cf cg := by
  have hC := h.cur.mem
  have h1 := h.bf
  have h2 := h.fg
  exact ⟨hc, (hf.block _ (Array.getElem?_eq_some_iff.1 h.box).1 (by omega)).trans h.box, (hf.block _ (Array.getElem?_eq_some_iff.1 h.blk).1 (by omega)).trans h.blk, (hf.block _ (Array.getElem?_eq_some_iff.1 h.row).1 (by omega)).trans h.row, h1, h2, h.wb, h.bel.trans (hf.below (B := w.heap.size) h.bel.size (fun j hj => by omega))⟩
theorem RF.below {w X X' : World} {C B F G : Nat} {st : CS} {cf : Array Value} {cg : List Value} (h : RF w X C B F G st cf cg) (hb : Below X.heap.size X X') : RF w X' C B F G st cf cg :=
  ⟨h.cur.below hb, (hb.block _ (Array.getElem?_eq_some_iff.1 h.box).1).trans h.box, (hb.block _ (Array.getElem?_eq_some_iff.1 h.blk).1).trans h.blk, (hb.block _ (Array.getElem?_eq_some_iff.1 h.row).1).trans h.row, h.bf, h.fg, h.wb, below_next h.bel hb⟩
theorem RF.setF {w X : World} {C B F G : Nat} {st : CS} {cf : Array Value} {cg : List Value} (h : RF w X C B F G st cf cg) (o : Nat) (v : Value) : RF w (X.setCell ⟨F, o, none⟩ v) C B F G st (cf.setIfInBounds o v) cg := by
  have hw := (wrote_refl h.blk).set o v
  have h1 := h.bf
  have h2 := h.fg
  have h3 := h.wb
  exact ⟨Fr.cur h.cur (G := fun j => j = F) ⟨hw.os, hw.tape, hw.output, Nat.le_of_eq hw.size.symm, fun j _ hn => hw.rest j hn⟩ (fun j hj _ e => by omega), (hw.rest _ (by omega)).trans h.box, hw.there, (hw.rest _ (by omega)).trans h.row, h1, h2, h3, hw.below h.bel (by omega)⟩
theorem RF.setG {w X : World} {C B F G : Nat} {st : CS} {cf : Array Value} {cg : List Value} (h : RF w X C B F G st cf cg) (o : Nat) (v : Value) : RF w (X.setCell ⟨G, o, none⟩ v) C B F G st cf (cg.set o v) := by
  have hw := (wrote_refl h.row).set o v
  have h1 := h.bf
  have h2 := h.fg
  have h3 := h.wb
  have ht := hw.there
  rw [List.setIfInBounds_toArray] at ht
  exact ⟨Fr.cur h.cur (G := fun j => j = G) ⟨hw.os, hw.tape, hw.output, Nat.le_of_eq hw.size.symm, fun j _ hn => hw.rest j hn⟩ (fun j hj _ e => by omega), (hw.rest _ (by omega)).trans h.box, (hw.rest _ (by omega)).trans h.blk, ht, h1, h2, h3, hw.below h.bel (by omega)⟩
theorem number_rf {w X : World} {C B F G : Nat} {st : CS} {cf : Array Value} {cg : List Value} (h : RF w X C B F G st cf cg) :
    Calls Tryd.prog 45 #[.pointer (some ⟨B, 0, none⟩)] X fun e w' => e = .returned (.int .i64 (intF st).2) ∧ RF w w' C B F G (intF st).1 cf cg := by
  have K := Lib.hid (int_cur h.cur)
  have c0 := cell_of_block (o := 0) h.box rfl
  have H := Lib.hid h
  clear h
  go_enter Tryd.func45, Tryd.ntmps45
  go_wp2_with fail
  refine K.out.mono ?_
  rintro e w' ⟨rfl, hc, hf⟩
  have HR := Lib.hid (H.out.call hc hf)
  clear hc hf c0
  go_wp2_with fail
  go_ret
  exact ⟨rfl, HR.out⟩
end Go.Proofs.YtnofgffkfapodaaDoor
namespace Go.Proofs.YtnofgffkfapodaaDoor
set_option linter.unusedVariables false

theorem putsF_cons (x : Int) (l : List Int) (ys : List Int) : putsF (x :: l) ++ ys = putI x ++ (putsF l ++ ys) := by unfold putsF; rw [List.flatMap_cons, List.append_assoc]
theorem rd3_put {a b c : Int} (ha : i64In' a) (hb : i64In' b) (hc : i64In' c) (l ys : List Int) : rd3 ⟨putsF (a :: b :: c :: l) ++ ys, 0⟩ = (⟨putsF l ++ ys, 0⟩, (a, b, c)) := by
  unfold rd3
  rw [putsF_cons, intF_put ha]
  dsimp only
  rw [putsF_cons, intF_put hb]
  dsimp only
  rw [putsF_cons, intF_put hc]
theorem rdN_put (ns : List N3) (h : ∀ x ∈ ns, i64In' x.1 ∧ i64In' x.2.1 ∧ i64In' x.2.2) (ys : List Int) : ∀ k, k ≤ ns.length → rdN ⟨putsF (ndL ns) ++ ys, 0⟩ k = (⟨putsF (ndL (ns.drop k)) ++ ys, 0⟩, ns.take k)
  | 0, _ => by simp [rdN]
  | k + 1, hk => by
    have hlt : k < ns.length := by omega
    have hx := h ns[k] (List.getElem_mem hlt)
    unfold rdN
    rw [rdN_put ns h ys k (by omega)]
    dsimp only
    rw [List.drop_eq_getElem_cons hlt, show ndL (ns[k] :: ns.drop (k + 1)) = ns[k].1 :: ns[k].2.1 :: ns[k].2.2 :: ndL (ns.drop (k + 1)) from by unfold ndL; rw [List.flatMap_cons]; rfl, rd3_put hx.1 hx.2.1 hx.2.2]
    dsimp only
    rw [List.take_succ_eq_append_getElem hlt]
theorem rdC_put {f : FV} (h : FB f) (hs : 0 ≤ f.sw) (ys : List Int) : h0 (bytesF f ++ ys) = (⟨putsF [f.S, f.D, f.P, IntKind.i64.wrap (nv f.sp), f.sw] ++ (putsF (ndL f.ns) ++ ys), 0⟩, (f.ns.length : Int)) ∧ (h1 (bytesF f ++ ys)).2 = f.S ∧ (h2 (bytesF f ++ ys)).2 = f.D ∧ (h3 (bytesF f ++ ys)).2 = f.P ∧ (h4 (bytesF f ++ ys)).2 = IntKind.i64.wrap (nv f.sp) ∧ h5 (bytesF f ++ ys) = (⟨putsF (ndL f.ns) ++ ys, 0⟩, f.sw) := by
  have hl := h.len
  have hz : i64In' (IntKind.i64.wrap (nv f.sp)) := by unfold i64In'; rw [IntKind.wrap_i64]; omega
  have e0 : bytesF f ++ ys = putI (f.ns.length : Int) ++ (putsF [f.S, f.D, f.P, IntKind.i64.wrap (nv f.sp), f.sw] ++ (putsF (ndL f.ns) ++ ys)) := by
    unfold bytesF numsF
    rw [putsF_app, List.append_assoc, putsF_cons]
  have q0 : h0 (bytesF f ++ ys) = (⟨putsF [f.S, f.D, f.P, IntKind.i64.wrap (nv f.sp), f.sw] ++ (putsF (ndL f.ns) ++ ys), 0⟩, (f.ns.length : Int)) := by
    unfold h0
    rw [e0, smallF_put (by omega) (by omega) (by omega)]
  have q1 : h1 (bytesF f ++ ys) = (⟨putsF [f.D, f.P, IntKind.i64.wrap (nv f.sp), f.sw] ++ (putsF (ndL f.ns) ++ ys), 0⟩, f.S) := by
    unfold h1
    rw [q0, putsF_cons, intF_put h.S]
  have q2 : h2 (bytesF f ++ ys) = (⟨putsF [f.P, IntKind.i64.wrap (nv f.sp), f.sw] ++ (putsF (ndL f.ns) ++ ys), 0⟩, f.D) := by
    unfold h2
    rw [q1, putsF_cons, intF_put h.D]
  have q3 : h3 (bytesF f ++ ys) = (⟨putsF [IntKind.i64.wrap (nv f.sp), f.sw] ++ (putsF (ndL f.ns) ++ ys), 0⟩, f.P) := by
    unfold h3
    rw [q2, putsF_cons, intF_put h.P]
  have q4 : h4 (bytesF f ++ ys) = (⟨putsF [f.sw] ++ (putsF (ndL f.ns) ++ ys), 0⟩, IntKind.i64.wrap (nv f.sp)) := by
    unfold h4
    rw [q3, putsF_cons, intF_put hz]
  have q5 : h5 (bytesF f ++ ys) = (⟨putsF (ndL f.ns) ++ ys, 0⟩, f.sw) := by
    unfold h5
    rw [q4, putsF_cons, smallF_put hs h.sw.2 h.sw.2]
    rfl
  exact ⟨q0, by rw [q1], by rw [q2], by rw [q3], by rw [q4], q5⟩
theorem ofInt_wrap (s : NSet) : BitVec.ofInt 64 (IntKind.i64.wrap (nv s)) = s := by
  refine nv_inj ?_
  rw [nv_ofInt', IntKind.wrap_u64, IntKind.wrap_i64]
  have h1 := nv_lo s
  have h2 := nv_hi s
  omega
/-- what is read of a fleet's bytes, and more -/
theorem rdV_put {f : FV} (h : FB f) (hs : 0 ≤ f.sw) (ys : List Int) : rdV (bytesF f ++ ys) = f ∧ (h0 (bytesF f ++ ys)).2 = (f.ns.length : Int) ∧ (rdC (bytesF f ++ ys) (h0 (bytesF f ++ ys)).2.toNat).1 = ⟨ys, 0⟩ := by
  obtain ⟨q0, q1, q2, q3, q4, q5⟩ := rdC_put h hs ys
  have hC : rdC (bytesF f ++ ys) (h0 (bytesF f ++ ys)).2.toNat = (⟨ys, 0⟩, f.ns) := by
    unfold rdC
    rw [q0, q5]
    dsimp only
    rw [Int.toNat_natCast, rdN_put f.ns h.ns ys f.ns.length (Nat.le_refl _), List.drop_length, List.take_length]
    rfl
  refine ⟨?_, by rw [q0], by rw [hC]⟩
  unfold rdV
  rw [hC, q1, q2, q3, q4, q5, ofInt_wrap]
/-- a fleet that may be -/
structure FGood (f : FV) (N s j : Nat) : Prop where
  inv : FInv f N s j
  rr : rightR f.S f.D f.P = true
  nn : ∀ x ∈ f.ns, rightN x.1 x.2.1 x.2.2 f.S f.D f.P = true
  lt : s < N
theorem FGood.fb {f : FV} {N s j : Nat} (h : FGood f N s j) (hj : j ≤ 1000) : FB f := by
  have hr := h.rr
  unfold rightR at hr
  rw [decide_eq_true_eq] at hr
  refine ⟨by rw [h.inv.len]; exact h.inv.le, by unfold i64In'; omega, by unfold i64In'; omega, by unfold i64In'; omega, by have := h.inv.sw; unfold i64In'; omega, fun x hx => ?_⟩
  have hb := right_bd h.rr (h.nn x hx)
  have ht := h.nn x hx
  unfold rightN at ht
  rw [decide_eq_true_eq] at ht
  unfold i64In'
  omega
theorem FGood.tell {f : FV} {N s j : Nat} (h : FGood f N s j) (hj : j < 1000) (n k : Int) : FGood (tellF f n k).1 N s (j + 1) := by
  have hk := tellF_keeps f n k
  refine ⟨(h.inv.tell hj n k).1, by rw [hk.2.1, hk.2.2.1, hk.2.2.2.1]; exact h.rr, ?_, h.lt⟩
  rw [hk.2.1, hk.2.2.1, hk.2.2.2.1]
  unfold tellF
  split
  · exact h.nn
  · split
    · exact h.nn
    · intro x hx
      have e := (swapN_ns 64 { f with ns := f.ns.set n.toNat (nextF f (f.ns.getD n.toNat (0, 0, 0)) k) }).1
      have hx' : x ∈ (swapN 64 { f with ns := f.ns.set n.toNat (nextF f (f.ns.getD n.toNat (0, 0, 0)) k) }).ns := hx
      rw [e] at hx'
      rcases List.mem_or_eq_of_mem_set hx' with hm | rfl
      · exact h.nn x hm
      · have hlt : n.toNat < f.ns.length := by omega
        refine next_right h.rr (h.nn _ ?_)
        simp [List.getD, List.getElem?_eq_getElem hlt]
theorem newF_good (n s : Nat) (S D P : Int) (h1 : 1 ≤ n) (h2 : n ≤ 64) (h3 : s < n) (hr : rightR S D P = true) : FGood (newF n s S D P) n s 0 := by
  refine ⟨newF_inv n s S D P h1 h2 h3, hr, fun x hx => ?_, h3⟩
  unfold newF at hx
  obtain rfl := (List.mem_replicate.1 hx).2
  show rightN 0 0 0 S D P = true
  unfold rightR at hr
  rw [decide_eq_true_eq] at hr
  unfold rightN
  rw [decide_eq_true_eq]
  omega
theorem FGood.right {f : FV} {N s j : Nat} (h : FGood f N s j) : rightG f = true := by
  have hall : card (allF f) = N := by unfold allF; rw [h.inv.len]; exact card_firstI N h.inv.le
  have h1 : (f.sp &&& ~~~ allF f == 0#64) = true := by
    rw [beq_iff_eq]
    refine zero_of fun i hi hx => ?_
    rw [get_diff _ _ _ hi, Bool.and_eq_true] at hx
    have := sub_iff.1 h.inv.sub i hi hx.1
    rw [this] at hx
    cases hx.2
  have h2 : (f.sp == allF f) = false := by
    rw [beq_eq_false_iff_ne]
    intro e
    have := h.inv.cd
    rw [e, hall] at this
    have := h.lt
    omega
  have h3 : (wrongS f == 0#64) = true := by
    rw [beq_iff_eq]
    refine zero_of fun i hi hx => ?_
    unfold wrongS at hx
    rw [sel_get _ _ _ hi, Bool.and_eq_true, decide_eq_true_eq] at hx
    have hm := h.nn (f.ns.getD i (0, 0, 0)) (by simp [List.getD, List.getElem?_eq_getElem hx.1])
    rw [hm] at hx
    cases hx.2
  have h4 : (goneF f == 0#64 || freeF f == 0#64) = true := by
    rw [Bool.or_eq_true, beq_iff_eq, beq_iff_eq]
    exact h.inv.stop
  unfold rightG
  rw [h.rr, h1, h2, h3, h4]
  rfl
theorem FGood.reads {f : FV} {N s j : Nat} (h : FGood f N s j) (hj : j ≤ 1000) : okV (bytesF f) = true ∧ rdV (bytesF f) = f ∧ okV (bytesF f ++ [0]) = false := by
  have hb := h.fb hj
  have a1 := rdV_put hb h.inv.sw.1 []
  have a2 := rdV_put hb h.inv.sw.1 [0]
  rw [List.append_nil] at a1
  have hN : 1 ≤ f.ns.length := by have := h.inv.len; have := h.lt; omega
  refine ⟨?_, a1.1, ?_⟩
  · unfold okV
    rw [a1.2.2, a1.2.1, a1.1, h.right, decide_eq_true (by omega)]
    rfl
  · unfold okV
    rw [a2.2.2]
    rfl
/-- of a fleet that may be: as many spares as at first, the others active, and none is gone where one is free -/
theorem FGood.facts {f : FV} {N s j : Nat} (h : FGood f N s j) : card f.sp = s ∧ (card (actF f) : Int) = (N : Int) - (s : Int) ∧ actF f &&& f.sp = 0#64 ∧ (goneF f = 0#64 ∨ freeF f = 0#64) := by
  have hall : card (allF f) = N := by unfold allF; rw [h.inv.len]; exact card_firstI N h.inv.le
  have hd := card_diff h.inv.sub
  have hc := h.inv.cd
  have hlt := h.lt
  refine ⟨hc, ?_, zero_of fun i hi hx => ?_, h.inv.stop⟩
  · unfold actF
    omega
  · rw [BitVec.getLsbD_and, act_get _ _ hi] at hx
    cases hb : f.sp.getLsbD i <;> rw [hb] at hx <;> simp at hx
end Go.Proofs.YtnofgffkfapodaaDoor
namespace Go.Proofs.YtnofgffkfapodaaDoor
set_option linter.unusedVariables false

/-- three small numbers -/
def rs3 (st : CS) : CS × N3 := ((smallF (smallF (smallF st 4).1 2000).1 2000).1, ((smallF st 4).2, (smallF (smallF st 4).1 2000).2, (smallF (smallF (smallF st 4).1 2000).1 2000).2))
def rsN (st : CS) : Nat → CS × List N3
  | 0 => (st, [])
  | k + 1 => ((rs3 (rsN st k).1).1, (rsN st k).2 ++ [(rs3 (rsN st k).1).2])
theorem rsN_len (st : CS) : ∀ k, (rsN st k).2.length = k
  | 0 => rfl
  | k + 1 => by simp [rsN, rsN_len st k]
def dg1 (bs : List Int) : CS × Int := smallF (h0 bs).1 2000
def dg2 (bs : List Int) : CS × Int := smallF (dg1 bs).1 2000
def dg3 (bs : List Int) : CS × Int := smallF (dg2 bs).1 2000
def dg4 (bs : List Int) : CS × Int := intF (dg3 bs).1
def dg5 (bs : List Int) : CS × Int := intF (dg4 bs).1
def dgS (bs : List Int) : NSet := BitVec.ofInt 64 (dg4 bs).2
def dgN (bs : List Int) : Nat := (h0 bs).2.toNat
def dgC (bs : List Int) (k : Nat) : CS × List N3 := rsN (dg5 bs).1 k
def dgV (bs : List Int) (k : Nat) : FV := ⟨(dg1 bs).2, (dg2 bs).2, (dg3 bs).2, (dgC bs k).2, firstK (dgS bs) k, (dg5 bs).2⟩
def headD (bs : List Int) : Bool := ((dg5 bs).1.bad == 0) && decide (0 ≤ (dg5 bs).2) && rightR (dg1 bs).2 (dg2 bs).2 (dg3 bs).2 && decide (1 ≤ (h0 bs).2)
def allD (bs : List Int) (k : Nat) : Bool := (dgC bs k).2.all fun x => rightN x.1 x.2.1 x.2.2 (dg1 bs).2 (dg2 bs).2 (dg3 bs).2
def tailD (bs : List Int) : Bool := (endF (dgC bs (dgN bs)).1 == 0) && decide (card (firstK (dgS bs) (dgN bs)) < dgN bs) && (goneF (dgV bs (dgN bs)) == 0#64 || freeF (dgV bs (dgN bs)) == 0#64) && decide (bytesF (dgV bs (dgN bs)) = bs)
def okD (bs : List Int) : Bool := headD bs && allD bs (dgN bs) && tailD bs
theorem dgN_eq (bs : List Int) : (h0 bs).2 = (dgN bs : Int) ∧ dgN bs ≤ 64 := by
  have := smallF_most ⟨bs, 0⟩ (most := 64) (by decide)
  unfold dgN h0
  omega
theorem firstK_sub (H : NSet) (k : Nat) : Sub (firstK H k) (firstI (k : Int)) := sub_iff.2 fun i hi h => by
  rw [firstK_get _ _ _ hi, Bool.and_eq_true, decide_eq_true_eq] at h
  rw [firstI_get _ _ hi, decide_eq_true_eq]
  omega
theorem dg_by {bs : List Int} (hb : ∀ x ∈ bs, 0 ≤ x ∧ x ≤ 255) : Cs.By (dg5 bs).1 ∧ Cs.By (dg4 bs).1 ∧ Cs.By (dg3 bs).1 := by
  have a0 : Cs.By (h0 bs).1 := Cs.smallF_by (st := ⟨bs, 0⟩) hb 64
  have a1 : Cs.By (dg1 bs).1 := Cs.smallF_by a0 2000
  have a2 : Cs.By (dg2 bs).1 := Cs.smallF_by a1 2000
  have a3 : Cs.By (dg3 bs).1 := Cs.smallF_by a2 2000
  have a4 : Cs.By (dg4 bs).1 := Cs.intF_by a3
  exact ⟨Cs.intF_by a4, a4, a3⟩
/-- what a fleet is that may be read: bounds -/
theorem fb_of {f : FV} (hl : f.ns.length ≤ 64) (hr : rightR f.S f.D f.P = true) (hn : ∀ x ∈ f.ns, rightN x.1 x.2.1 x.2.2 f.S f.D f.P = true) (h0 : 0 ≤ f.sw) (h1 : f.sw ≤ 9223372036854775807) : FB f ∧ (0 ≤ f.S ∧ f.S ≤ 2000) ∧ (0 ≤ f.D ∧ f.D ≤ 2000) ∧ (0 ≤ f.P ∧ f.P ≤ 2000) ∧ ∀ x ∈ f.ns, (0 ≤ x.1 ∧ x.1 ≤ 4) ∧ (0 ≤ x.2.1 ∧ x.2.1 ≤ 2000) ∧ (0 ≤ x.2.2 ∧ x.2.2 ≤ 2000) := by
  have h8 : ∀ x ∈ f.ns, (0 ≤ x.1 ∧ x.1 ≤ 4) ∧ (0 ≤ x.2.1 ∧ x.2.1 ≤ 2000) ∧ (0 ≤ x.2.2 ∧ x.2.2 ≤ 2000) := by
    intro x hx
    have h := rright8 (t := x.1) (m := x.2.1) (b := x.2.2) (S := f.S) (D := f.D) (P := f.P)
    rw [hr, hn x hx] at h
    have := of_decide_eq_true h.symm
    omega
  unfold rightR at hr
  rw [decide_eq_true_eq] at hr
  refine ⟨⟨hl, by unfold i64In'; omega, by unfold i64In'; omega, by unfold i64In'; omega, by unfold i64In'; omega, fun x hx => ?_⟩, by omega, by omega, by omega, h8⟩
  have := h8 x hx
  unfold i64In'
  omega
theorem rightG_of {f : FV} (hr : rightR f.S f.D f.P = true) (hs : Sub f.sp (allF f)) (hne : f.sp ≠ allF f) (hn : ∀ x ∈ f.ns, rightN x.1 x.2.1 x.2.2 f.S f.D f.P = true) (hst : (goneF f == 0#64 || freeF f == 0#64) = true) : rightG f = true := by
  have h1 : (f.sp &&& ~~~ allF f == 0#64) = true := by
    rw [beq_iff_eq]
    refine zero_of fun i hi hx => ?_
    rw [get_diff _ _ _ hi, Bool.and_eq_true] at hx
    have := sub_iff.1 hs i hi hx.1
    rw [this] at hx
    cases hx.2
  have h2 : (f.sp == allF f) = false := by
    rw [beq_eq_false_iff_ne]
    exact hne
  have h3 : (wrongS f == 0#64) = true := by
    rw [beq_iff_eq]
    refine zero_of fun i hi hx => ?_
    unfold wrongS at hx
    rw [sel_get _ _ _ hi, Bool.and_eq_true, decide_eq_true_eq] at hx
    have hm := hn (f.ns.getD i (0, 0, 0)) (by simp [List.getD, List.getElem?_eq_getElem hx.1])
    rw [hm] at hx
    cases hx.2
  unfold rightG
  rw [hr, h1, h2, h3, hst]
  rfl
theorem rightG_is {f : FV} (hl : f.ns.length ≤ 64) (h : rightG f = true) : rightR f.S f.D f.P = true ∧ Sub f.sp (allF f) ∧ f.sp ≠ allF f ∧ (∀ x ∈ f.ns, rightN x.1 x.2.1 x.2.2 f.S f.D f.P = true) ∧ (goneF f == 0#64 || freeF f == 0#64) = true := by
  unfold rightG at h
  rw [Bool.and_eq_true, Bool.and_eq_true, Bool.and_eq_true, Bool.and_eq_true] at h
  obtain ⟨⟨⟨⟨hr, hs⟩, hne⟩, hw⟩, hst⟩ := h
  refine ⟨hr, sub_iff.2 fun i hi hx => ?_, fun e => ?_, fun x hx => ?_, hst⟩
  · cases hg : (allF f).getLsbD i with
    | true => rfl
    | false =>
      rw [beq_iff_eq] at hs
      have h1 := get_diff f.sp (allF f) i hi
      rw [hs, hx, hg, BitVec.getLsbD_zero] at h1
      cases h1
  · rw [e] at hne
    simp at hne
  · obtain ⟨i, hi, rfl⟩ := List.getElem_of_mem hx
    cases hg : rightN f.ns[i].1 f.ns[i].2.1 f.ns[i].2.2 f.S f.D f.P with
    | true => rfl
    | false =>
      rw [beq_iff_eq] at hw
      have h1 := sel_get (fun x => !rightN x.1 x.2.1 x.2.2 f.S f.D f.P) f.ns i (by omega)
      have h2 : wrongS f = sel (fun x => !rightN x.1 x.2.1 x.2.2 f.S f.D f.P) f.ns := rfl
      rw [← h2, hw, BitVec.getLsbD_zero, decide_eq_true hi, show f.ns.getD i (0, 0, 0) = f.ns[i] by simp [List.getD, List.getElem?_eq_getElem hi]] at h1
      simp only [Bool.true_and] at h1
      rw [hg] at h1
      cases h1
theorem rd3_bk {st : CS} {ys : List Int} {x : N3} (hb : Cs.By st) (h : rd3 st = (⟨ys, 0⟩, x)) : st.bad = 0 ∧ st.xs = putsF [x.1, x.2.1, x.2.2] ++ ys ∧ Cs.By ⟨ys, 0⟩ := by
  obtain ⟨a, b, c⟩ := x
  unfold rd3 at h
  injection h with e1 e2
  injection e2 with e2 e3
  injection e3 with e3 e4
  have k1 := Cs.intF_by hb
  have k2 := Cs.intF_by k1
  rcases hC : intF (intF (intF st).1).1 with ⟨sC, vC⟩
  rw [hC] at e1 e4
  simp only at e1 e4
  subst e1 e4
  obtain ⟨c1, c2, c3⟩ := Cs.intF_bk k2 hC
  rcases hB : intF (intF st).1 with ⟨⟨xB, bB⟩, vB⟩
  rw [hB] at e3 c1 c2
  simp only at e3 c1 c2
  subst e3 c1
  obtain ⟨b1, b2, b3⟩ := Cs.intF_bk k1 hB
  rcases hA : intF st with ⟨⟨xA, bA⟩, vA⟩
  rw [hA] at e2 b1 b2
  simp only at e2 b1 b2
  subst e2 b1
  obtain ⟨a1, a2, a3⟩ := Cs.intF_bk hb hA
  refine ⟨a1, ?_, c3⟩
  rw [a2, b2, c2]
  unfold putsF
  simp
theorem rdN_by {st : CS} (hb : Cs.By st) : ∀ k, Cs.By (rdN st k).1
  | 0 => hb
  | k + 1 => Cs.intF_by (Cs.intF_by (Cs.intF_by (rdN_by hb k)))
theorem rdN_bk {st : CS} (hb : Cs.By st) : ∀ (k : Nat) (ys : List Int), (rdN st k).1 = ⟨ys, 0⟩ → st.bad = 0 ∧ st.xs = putsF (ndL (rdN st k).2) ++ ys
  | 0, ys, h => by
    unfold rdN at h
    simp only at h
    subst h
    exact ⟨rfl, rfl⟩
  | k + 1, ys, h => by
    obtain ⟨c1, c2, c3⟩ := rd3_bk (st := (rdN st k).1) (ys := ys) (x := (rd3 (rdN st k).1).2) (rdN_by hb k) (by
      refine Prod.ext ?_ rfl
      exact h)
    obtain ⟨d1, d2⟩ := rdN_bk hb k (rdN st k).1.xs (by
      rw [← c1])
    refine ⟨d1, ?_⟩
    rw [d2, c2]
    show _ = putsF (ndL ((rdN st k).2 ++ [(rd3 (rdN st k).1).2])) ++ ys
    unfold ndL
    rw [List.flatMap_append, putsF_app, List.append_assoc]
    congr 2
/-- a fleet that the program reads: the bytes are its -/
theorem okV_back {bs : List Int} (hb : ∀ x ∈ bs, 0 ≤ x ∧ x ≤ 255) (h : okV bs = true) : bs = bytesF (rdV bs) ∧ (rdV bs).ns.length = dgN bs ∧ 1 ≤ dgN bs ∧ rightG (rdV bs) = true ∧ 0 ≤ (rdV bs).sw ∧ (rdV bs).sw ≤ 9223372036854775807 := by
  unfold okV at h
  rw [Bool.and_eq_true, Bool.and_eq_true, beq_iff_eq, decide_eq_true_eq] at h
  obtain ⟨⟨he, hn⟩, hg⟩ := h
  have b0 : Cs.By (h0 bs).1 := Cs.smallF_by (st := ⟨bs, 0⟩) hb 64
  have b1 : Cs.By (h1 bs).1 := Cs.intF_by b0
  have b2 : Cs.By (h2 bs).1 := Cs.intF_by b1
  have b3 : Cs.By (h3 bs).1 := Cs.intF_by b2
  have b4 : Cs.By (h4 bs).1 := Cs.intF_by b3
  have b5 : Cs.By (h5 bs).1 := Cs.smallF_by b4 _
  have hN := dgN_eq bs
  have hlen : (rdV bs).ns.length = dgN bs := by unfold rdV rdC dgN; exact rdN_len _ _
  have e := Cs.endF_ok he
  obtain ⟨c1, c2⟩ := rdN_bk b5 (h0 bs).2.toNat [] (by unfold rdC at e; exact e)
  obtain ⟨s1, s2, _⟩ := Cs.smallF_bk (st := (h4 bs).1) (ys := (h5 bs).1.xs) (v := (h5 bs).2) (most := 9223372036854775807) b4 (by
    refine Prod.ext ?_ rfl
    show (h5 bs).1 = _
    rw [← c1])
  obtain ⟨t1, t2, _⟩ := Cs.intF_bk (st := (h3 bs).1) (ys := (h4 bs).1.xs) (v := (h4 bs).2) b3 (by
    refine Prod.ext ?_ rfl
    show (h4 bs).1 = _
    rw [← s1])
  obtain ⟨u1, u2, _⟩ := Cs.intF_bk (st := (h2 bs).1) (ys := (h3 bs).1.xs) (v := (h3 bs).2) b2 (by
    refine Prod.ext ?_ rfl
    show (h3 bs).1 = _
    rw [← t1])
  obtain ⟨v1, v2, _⟩ := Cs.intF_bk (st := (h1 bs).1) (ys := (h2 bs).1.xs) (v := (h2 bs).2) b1 (by
    refine Prod.ext ?_ rfl
    show (h2 bs).1 = _
    rw [← u1])
  obtain ⟨w1, w2, _⟩ := Cs.intF_bk (st := (h0 bs).1) (ys := (h1 bs).1.xs) (v := (h1 bs).2) b0 (by
    refine Prod.ext ?_ rfl
    show (h1 bs).1 = _
    rw [← v1])
  obtain ⟨_, z2, _⟩ := Cs.smallF_bk (st := ⟨bs, 0⟩) (ys := (h0 bs).1.xs) (v := (h0 bs).2) (most := 64) hb (by
    refine Prod.ext ?_ rfl
    show (h0 bs).1 = _
    rw [← w1])
  have hsm := smallF_most (h4 bs).1 (most := 9223372036854775807) (by decide)
  have h4in := intF_in b3
  have hsp : IntKind.i64.wrap (nv (rdV bs).sp) = (h4 bs).2 := by
    show IntKind.i64.wrap (nv (BitVec.ofInt 64 (h4 bs).2)) = _
    rw [nv_ofInt', IntKind.wrap_u64, IntKind.wrap_i64]
    have : -9223372036854775808 ≤ (h4 bs).2 ∧ (h4 bs).2 ≤ 9223372036854775807 := h4in
    omega
  refine ⟨?_, hlen, by omega, hg, hsm.1, hsm.2⟩
  unfold bytesF numsF
  rw [hsp, hlen, putsF_app]
  have hz : bs = putI (h0 bs).2 ++ (putI (h1 bs).2 ++ (putI (h2 bs).2 ++ (putI (h3 bs).2 ++ (putI (h4 bs).2 ++ (putI (h5 bs).2 ++ putsF (ndL (rdN (h5 bs).1 (h0 bs).2.toNat).2)))))) := by
    have z3 : bs = putI (h0 bs).2 ++ (h0 bs).1.xs := z2
    rw [List.append_nil] at c2
    rw [← c2, ← s2, ← t2, ← u2, ← v2, ← w2]
    exact z3
  have hz2 : putI (h0 bs).2 = putI (dgN bs : Int) := by rw [hN.1]
  rw [hz2] at hz
  refine hz.trans ?_
  unfold putsF rdV rdC
  simp
theorem rs3_put {a b c : Int} (ha : 0 ≤ a ∧ a ≤ 4) (hb : 0 ≤ b ∧ b ≤ 2000) (hc : 0 ≤ c ∧ c ≤ 2000) (l ys : List Int) : rs3 ⟨putsF (a :: b :: c :: l) ++ ys, 0⟩ = (⟨putsF l ++ ys, 0⟩, (a, b, c)) := by
  unfold rs3
  rw [putsF_cons, smallF_put ha.1 ha.2 (by omega)]
  dsimp only
  rw [putsF_cons, smallF_put hb.1 hb.2 (by omega)]
  dsimp only
  rw [putsF_cons, smallF_put hc.1 hc.2 (by omega)]
theorem rsN_put (ns : List N3) (h : ∀ x ∈ ns, (0 ≤ x.1 ∧ x.1 ≤ 4) ∧ (0 ≤ x.2.1 ∧ x.2.1 ≤ 2000) ∧ (0 ≤ x.2.2 ∧ x.2.2 ≤ 2000)) (ys : List Int) : ∀ k, k ≤ ns.length → rsN ⟨putsF (ndL ns) ++ ys, 0⟩ k = (⟨putsF (ndL (ns.drop k)) ++ ys, 0⟩, ns.take k)
  | 0, _ => by simp [rsN]
  | k + 1, hk => by
    have hlt : k < ns.length := by omega
    have hx := h ns[k] (List.getElem_mem hlt)
    unfold rsN
    rw [rsN_put ns h ys k (by omega)]
    dsimp only
    rw [List.drop_eq_getElem_cons hlt, show ndL (ns[k] :: ns.drop (k + 1)) = ns[k].1 :: ns[k].2.1 :: ns[k].2.2 :: ndL (ns.drop (k + 1)) from by unfold ndL; rw [List.flatMap_cons]; rfl, rs3_put hx.1 hx.2.1 hx.2.2]
    dsimp only
    rw [List.take_succ_eq_append_getElem hlt]
/-- what the document reads of a right fleet's bytes -/
theorem dgC_put {f : FV} (h : FB f ∧ (0 ≤ f.S ∧ f.S ≤ 2000) ∧ (0 ≤ f.D ∧ f.D ≤ 2000) ∧ (0 ≤ f.P ∧ f.P ≤ 2000) ∧ ∀ x ∈ f.ns, (0 ≤ x.1 ∧ x.1 ≤ 4) ∧ (0 ≤ x.2.1 ∧ x.2.1 ≤ 2000) ∧ (0 ≤ x.2.2 ∧ x.2.2 ≤ 2000)) :
    (h0 (bytesF f)).2 = (f.ns.length : Int) ∧ (dg1 (bytesF f)).2 = f.S ∧ (dg2 (bytesF f)).2 = f.D ∧ (dg3 (bytesF f)).2 = f.P ∧ dgS (bytesF f) = f.sp ∧ dg5 (bytesF f) = (⟨putsF (ndL f.ns), 0⟩, f.sw) ∧ dgC (bytesF f) f.ns.length = (⟨[], 0⟩, f.ns) := by
  obtain ⟨hf, hS, hD, hP, hns⟩ := h
  have hl := hf.len
  have hz : i64In' (IntKind.i64.wrap (nv f.sp)) := by unfold i64In'; rw [IntKind.wrap_i64]; omega
  have e0 : bytesF f = putI (f.ns.length : Int) ++ (putsF [f.S, f.D, f.P, IntKind.i64.wrap (nv f.sp), f.sw] ++ (putsF (ndL f.ns) ++ [])) := by
    rw [List.append_nil]
    unfold bytesF numsF
    rw [putsF_app]
    unfold putsF
    rw [List.flatMap_cons, List.append_assoc]
  have q0 : h0 (bytesF f) = (⟨putsF [f.S, f.D, f.P, IntKind.i64.wrap (nv f.sp), f.sw] ++ (putsF (ndL f.ns) ++ []), 0⟩, (f.ns.length : Int)) := by
    unfold h0
    rw [e0, smallF_put (by omega) (by omega) (by omega)]
  have q1 : dg1 (bytesF f) = (⟨putsF [f.D, f.P, IntKind.i64.wrap (nv f.sp), f.sw] ++ (putsF (ndL f.ns) ++ []), 0⟩, f.S) := by
    unfold dg1
    rw [q0, putsF_cons, smallF_put hS.1 hS.2 (by omega)]
  have q2 : dg2 (bytesF f) = (⟨putsF [f.P, IntKind.i64.wrap (nv f.sp), f.sw] ++ (putsF (ndL f.ns) ++ []), 0⟩, f.D) := by
    unfold dg2
    rw [q1, putsF_cons, smallF_put hD.1 hD.2 (by omega)]
  have q3 : dg3 (bytesF f) = (⟨putsF [IntKind.i64.wrap (nv f.sp), f.sw] ++ (putsF (ndL f.ns) ++ []), 0⟩, f.P) := by
    unfold dg3
    rw [q2, putsF_cons, smallF_put hP.1 hP.2 (by omega)]
  have q4 : dg4 (bytesF f) = (⟨putsF [f.sw] ++ (putsF (ndL f.ns) ++ []), 0⟩, IntKind.i64.wrap (nv f.sp)) := by
    unfold dg4
    rw [q3, putsF_cons, intF_put hz]
  have q5 : dg5 (bytesF f) = (⟨putsF (ndL f.ns) ++ [], 0⟩, f.sw) := by
    unfold dg5
    rw [q4, putsF_cons, intF_put hf.sw]
    rfl
  refine ⟨by rw [q0], by rw [q1], by rw [q2], by rw [q3], by unfold dgS; rw [q4, ofInt_wrap], by rw [q5, List.append_nil], ?_⟩
  unfold dgC
  rw [q5]
  dsimp only
  rw [rsN_put f.ns hns [] f.ns.length (Nat.le_refl _), List.drop_length, List.take_length]
  rfl
theorem sub_card {a b : NSet} (h : Sub a b) (hc : card b ≤ card a) : a = b := by
  have h1 := card_diff h
  have h2 : b &&& ~~~a = 0#64 := card_eq_zero (by omega)
  refine set_ext fun i hi => ?_
  have h3 := get_diff b a i hi
  rw [h2, BitVec.getLsbD_zero] at h3
  cases ha : a.getLsbD i with
  | true => exact (sub_iff.1 h i hi ha).symm
  | false =>
    rw [ha] at h3
    cases hb : b.getLsbD i with
    | false => rfl
    | true => rw [hb] at h3; cases h3
theorem okD_is {bs : List Int} (hb : ∀ x ∈ bs, 0 ≤ x ∧ x ≤ 255) : okD bs = okV bs ∧ (okD bs = true → dgV bs (dgN bs) = rdV bs ∧ FB (dgV bs (dgN bs))) := by
  have hN := dgN_eq bs
  have fwd : okD bs = true → okV bs = true ∧ dgV bs (dgN bs) = rdV bs ∧ FB (dgV bs (dgN bs)) := by
    intro h
    unfold okD headD tailD allD at h
    simp only [Bool.and_eq_true, beq_iff_eq, decide_eq_true_eq, List.all_eq_true] at h
    obtain ⟨⟨⟨⟨⟨hbd, hsw⟩, hr⟩, hn1⟩, hall⟩, ⟨⟨hend, hcd⟩, hst⟩, hby⟩ := h
    obtain ⟨y5, y4, y3⟩ := dg_by hb
    have hswin := intF_in y4
    have hlen : (dgV bs (dgN bs)).ns.length = dgN bs := by unfold dgV dgC; exact rsN_len _ _
    have hfb := fb_of (f := dgV bs (dgN bs)) (by rw [hlen]; exact hN.2) hr hall hsw (by
      have : -9223372036854775808 ≤ (dg5 bs).2 ∧ (dg5 bs).2 ≤ 9223372036854775807 := hswin
      exact this.2)
    have hall2 : allF (dgV bs (dgN bs)) = firstI (dgN bs : Int) := by unfold allF; rw [hlen]
    have hG : rightG (dgV bs (dgN bs)) = true := by
      refine rightG_of hr ?_ ?_ hall ?_
      · rw [hall2]; exact firstK_sub _ _
      · rw [hall2]
        intro e
        have h1 : card (firstK (dgS bs) (dgN bs)) = card (firstI (dgN bs : Int)) := by rw [← e]; rfl
        rw [card_firstI _ hN.2] at h1
        omega
      · exact hst
    have hp := rdV_put hfb.1 hsw []
    rw [List.append_nil, hby] at hp
    refine ⟨?_, hp.1.symm, hfb.1⟩
    unfold okV
    rw [hp.2.2, hp.1, hG, decide_eq_true hn1]
    rfl
  have bwd : okV bs = true → okD bs = true := by
    intro h
    obtain ⟨e1, e2, e3, e4, e5, e6⟩ := okV_back hb h
    generalize rdV bs = f at *
    obtain ⟨r1, r2, r3, r4, r5⟩ := rightG_is (f := f) (by omega) e4
    have hfb := fb_of (f := f) (by omega) r1 r4 e5 e6
    obtain ⟨p0, p1, p2, p3, pS, p5, pC⟩ := dgC_put hfb
    have hall2 : allF f = firstI (dgN bs : Int) := by unfold allF; rw [e2]
    have hsp : firstK f.sp (dgN bs) = f.sp := firstK_all _ _ fun i hi hg => by
      have := sub_iff.1 r2 i hi hg
      rw [hall2, firstI_get _ _ hi, decide_eq_true_eq] at this
      omega
    rw [← e2] at hsp
    have hcd : card f.sp < f.ns.length := by
      have h1 := card_mono r2
      have h2 : card (allF f) = f.ns.length := by unfold allF; exact card_firstI _ (by omega)
      rcases Nat.lt_or_ge (card f.sp) f.ns.length with h3 | h3
      · exact h3
      · exact absurd (sub_card r2 (by omega)) r3
    have hV : dgV (bytesF f) f.ns.length = f := by
      unfold dgV
      rw [p1, p2, p3, pC, pS, hsp, p5]
    have hNN : dgN (bytesF f) = f.ns.length := by unfold dgN; rw [p0]; exact Int.toNat_natCast _
    rw [e1]
    unfold okD headD tailD allD
    rw [hNN, hV, pC, p5, p1, p2, p3, pS, hsp, p0, r1, r5, decide_eq_true hcd]
    simp only [Bool.and_eq_true, beq_iff_eq, decide_eq_true_eq, List.all_eq_true]
    refine ⟨⟨⟨⟨⟨?_, e5⟩, ?_⟩, ?_⟩, r4⟩, ⟨⟨?_, ?_⟩, ?_⟩, ?_⟩ <;> first | trivial | rfl | omega
  refine ⟨?_, fun h => (fwd h).2⟩
  cases h1 : okD bs with
  | true => exact (fwd h1).1.symm
  | false =>
    cases h2 : okV bs with
    | false => rfl
    | true => rw [bwd h2] at h1; cases h1
end Go.Proofs.YtnofgffkfapodaaDoor
namespace Go.Proofs.YtnofgffkfapodaaDoor
set_option linter.unusedVariables false
open Go.ChangeShapes Go.WideShapes Go.ChangeAt Go.RowKit
attribute [local go_sem ↓] Go.wp_at_zero Go.wp_at_succ comesTo_value_eq comesTo_skip_eq comesTo_enter_eq

/-- numbers' bytes as a text -/
def tx9 (l : List Int) : ByteArray := strOfNums (putsF l)
theorem rp9 {l : List Int} (hl : l.length ≤ 1000) (hin : ∀ x ∈ l, i64In' x) {v : Int} (hv : i64In' v) (w : World) :
    Calls Tryd.prog 66 #[.string (tx9 l), .int .i64 v] w fun e w' => e = .returned (.string (tx9 (l ++ [v]))) ∧ Below w.heap.size w w' := by
  have h1 := putsF_len hin
  have K := rputint_any (putsF l) (by omega) hv w
  have e : putsF (l ++ [v]) = putsF l ++ putI v := by rw [putsF_app]; unfold putsF; simp
  unfold tx9
  rw [e]
  exact K
set_option maxRecDepth 100000 in
set_option maxHeartbeats 8000000 in
theorem put9_any {w : World} {L oL cL P oP cP : Nat} {f : FV} (h : RF9 w L oL P oP f) (hcL : f.ns.length ≤ cL) (hcP : f.ns.length ≤ cP) (hs : ∀ i, i < 64 → f.sp.getLsbD i = true → i < f.ns.length) (hb : FB f) :
    Calls Tryd.prog 41 #[.agg (rf9C f f.ns.length L oL cL P oP cP)] w fun e w' => e = .returned (.string (strOfNums (bytesF f))) ∧ Below w.heap.size w w' := by
  obtain ⟨n, hn⟩ : ∃ n, n = f.ns.length := ⟨_, rfl⟩
  have hA := below_alloc (Below.refl _ w) (.cells (rf9C f f.ns.length L oL cL P oP cP) 34)
  have NB := World.alloc_heap_new w (.cells (rf9C f f.ns.length L oL cL P oP cP) 34)
  have hR := h.below hA
  have KS := fun X (hX : Below (w.alloc (.cells (rf9C f f.ns.length L oL cL P oP cP) 34)).heap.size (w.alloc (.cells (rf9C f f.ns.length L oL cL P oP cP) 34)) X) => spares9_any (hR.below hX) hcL hcP hs
  rw [← hn] at hA NB hR KS ⊢
  unfold rf9C at hA NB hR KS ⊢
  have HR := Lib.hid hR
  have HA := Lib.hid hA
  have HN := Lib.hid hn
  have HFB := Lib.hid hb
  have HLN := Lib.hid (show n ≤ 64 by rw [hn]; exact h.len.2)
  have hcL' : n ≤ cL := by rw [hn]; exact hcL
  obtain ⟨zs, hzs⟩ : ∃ zs, zs = IntKind.i64.wrap (nv f.sp) := ⟨_, rfl⟩
  have hzs' := hzs.symm
  have HNM := Lib.hid (show numsF f = [(n : Int), f.S, f.D, f.P, zs, f.sw] by unfold numsF; rw [← hn, ← hzs])
  have HEND := Lib.hid (show strOfNums (bytesF f) = tx9 ([(n : Int), f.S, f.D, f.P, zs, f.sw] ++ ndL f.ns) by unfold bytesF tx9; rw [HNM.out])
  have HIN := Lib.hid (show ∀ x ∈ [(n : Int), f.S, f.D, f.P, zs, f.sw], i64In' x by rw [← HNM.out]; exact hb.nums)
  have HND := Lib.hid hb.nds
  have K1 := Lib.hid (fun X => show Calls Tryd.prog 66 #[.string ⟨#[]⟩, .int .i64 n] X fun e w' => e = .returned (.string (tx9 [(n : Int)])) ∧ Below X.heap.size X w' from rp9 (l := []) (by decide) (fun x hx => by cases hx) (HIN.out _ (by simp)) X)
  have K2 := Lib.hid (fun X => show Calls Tryd.prog 66 #[.string (tx9 [(n : Int)]), .int .i64 (f.S)] X fun e w' => e = .returned (.string (tx9 [(n : Int), f.S])) ∧ Below X.heap.size X w' from rp9 (by simp) (fun x hx => HIN.out x (by simp only [List.mem_cons, List.not_mem_nil, or_false] at hx ⊢; omega)) (HIN.out _ (by simp)) X)
  have K3 := Lib.hid (fun X => show Calls Tryd.prog 66 #[.string (tx9 [(n : Int), f.S]), .int .i64 (f.D)] X fun e w' => e = .returned (.string (tx9 [(n : Int), f.S, f.D])) ∧ Below X.heap.size X w' from rp9 (by simp) (fun x hx => HIN.out x (by simp only [List.mem_cons, List.not_mem_nil, or_false] at hx ⊢; omega)) (HIN.out _ (by simp)) X)
  have K4 := Lib.hid (fun X => show Calls Tryd.prog 66 #[.string (tx9 [(n : Int), f.S, f.D]), .int .i64 (f.P)] X fun e w' => e = .returned (.string (tx9 [(n : Int), f.S, f.D, f.P])) ∧ Below X.heap.size X w' from rp9 (by simp) (fun x hx => HIN.out x (by simp only [List.mem_cons, List.not_mem_nil, or_false] at hx ⊢; omega)) (HIN.out _ (by simp)) X)
  have K5 := Lib.hid (fun X => show Calls Tryd.prog 66 #[.string (tx9 [(n : Int), f.S, f.D, f.P]), .int .i64 (zs)] X fun e w' => e = .returned (.string (tx9 [(n : Int), f.S, f.D, f.P, zs])) ∧ Below X.heap.size X w' from rp9 (by simp) (fun x hx => HIN.out x (by simp only [List.mem_cons, List.not_mem_nil, or_false] at hx ⊢; omega)) (HIN.out _ (by simp)) X)
  have K6 := Lib.hid (fun X => show Calls Tryd.prog 66 #[.string (tx9 [(n : Int), f.S, f.D, f.P, zs]), .int .i64 (f.sw)] X fun e w' => e = .returned (.string (tx9 [(n : Int), f.S, f.D, f.P, zs, f.sw])) ∧ Below X.heap.size X w' from rp9 (by simp) (fun x hx => HIN.out x (by simp only [List.mem_cons, List.not_mem_nil, or_false] at hx ⊢; omega)) (HIN.out _ (by simp)) X)
  have HX := Lib.hid (fun X (hX : Below (w.alloc (.cells #[.slice (some ⟨L, oL, none⟩) n cL, .slice (some ⟨P, oP, none⟩) n cP, .int .i64 f.S, .int .i64 f.D, .int .i64 f.P, .int .i64 f.sw] 34)).heap.size (w.alloc (.cells #[.slice (some ⟨L, oL, none⟩) n cL, .slice (some ⟨P, oP, none⟩) n cP, .int .i64 f.S, .int .i64 f.D, .int .i64 f.P, .int .i64 f.sw] 34)) X) => (hX.block _ (Array.getElem?_eq_some_iff.1 NB).1).trans NB)
  have HKS := Lib.hid KS
  clear h hb hcL hcP hs hn hzs hA NB hR KS
  rw [HEND.out]
  clear HEND
  obtain ⟨l6, hl6⟩ : ∃ l, l = [(n : Int), f.S, f.D, f.P, zs, f.sw] := ⟨_, rfl⟩
  rw [← hl6] at K6 HIN ⊢
  have HL6 := Lib.hid (show l6.length = 6 by rw [hl6]; rfl)
  clear hl6 HNM
  generalize tx9 [(n : Int)] = s1 at *
  generalize tx9 [(n : Int), f.S] = s2 at *
  generalize tx9 [(n : Int), f.S, f.D] = s3 at *
  generalize tx9 [(n : Int), f.S, f.D, f.P] = s4 at *
  generalize tx9 [(n : Int), f.S, f.D, f.P, zs] = s5 at *
  go_enter Tryd.func41, Tryd.ntmps41
  go_upto_region 1 with fail
  generalize w.alloc (.cells #[.slice (some ⟨L, oL, none⟩) n cL, .slice (some ⟨P, oP, none⟩) n cP, .int .i64 f.S, .int .i64 f.D, .int .i64 f.P, .int .i64 f.sw] 34) = W at *
  have H0 := Lib.hid (Below.refl W.heap.size W)
  have b0 := cell_of_block (o := 0) (HX.out W H0.out) rfl
  have b1 := cell_of_block (o := 1) (HX.out W H0.out) rfl
  have b2 := cell_of_block (o := 2) (HX.out W H0.out) rfl
  have b3 := cell_of_block (o := 3) (HX.out W H0.out) rfl
  have b4 := cell_of_block (o := 4) (HX.out W H0.out) rfl
  have b5 := cell_of_block (o := 5) (HX.out W H0.out) rfl
  go_wp2_with fail
  refine (K1.out _).mono ?_
  rintro e w1 ⟨rfl, hb⟩
  have H1 := Lib.hid (below_next H0.out hb)
  clear hb
  clear b0 b1 b2 b3 b4 b5
  have b0 := cell_of_block (o := 0) (HX.out w1 H1.out) rfl
  have b1 := cell_of_block (o := 1) (HX.out w1 H1.out) rfl
  have b2 := cell_of_block (o := 2) (HX.out w1 H1.out) rfl
  have b3 := cell_of_block (o := 3) (HX.out w1 H1.out) rfl
  have b4 := cell_of_block (o := 4) (HX.out w1 H1.out) rfl
  have b5 := cell_of_block (o := 5) (HX.out w1 H1.out) rfl
  go_wp2_with fail
  refine (K2.out _).mono ?_
  rintro e w2 ⟨rfl, hb⟩
  have H2 := Lib.hid (below_next H1.out hb)
  clear hb
  clear b0 b1 b2 b3 b4 b5
  have b0 := cell_of_block (o := 0) (HX.out w2 H2.out) rfl
  have b1 := cell_of_block (o := 1) (HX.out w2 H2.out) rfl
  have b2 := cell_of_block (o := 2) (HX.out w2 H2.out) rfl
  have b3 := cell_of_block (o := 3) (HX.out w2 H2.out) rfl
  have b4 := cell_of_block (o := 4) (HX.out w2 H2.out) rfl
  have b5 := cell_of_block (o := 5) (HX.out w2 H2.out) rfl
  go_wp2_with fail
  refine (K3.out _).mono ?_
  rintro e w3 ⟨rfl, hb⟩
  have H3 := Lib.hid (below_next H2.out hb)
  clear hb
  clear b0 b1 b2 b3 b4 b5
  have b0 := cell_of_block (o := 0) (HX.out w3 H3.out) rfl
  have b1 := cell_of_block (o := 1) (HX.out w3 H3.out) rfl
  have b2 := cell_of_block (o := 2) (HX.out w3 H3.out) rfl
  have b3 := cell_of_block (o := 3) (HX.out w3 H3.out) rfl
  have b4 := cell_of_block (o := 4) (HX.out w3 H3.out) rfl
  have b5 := cell_of_block (o := 5) (HX.out w3 H3.out) rfl
  go_wp2_with fail
  refine (K4.out _).mono ?_
  rintro e w4 ⟨rfl, hb⟩
  have H4 := Lib.hid (below_next H3.out hb)
  clear hb
  clear b0 b1 b2 b3 b4 b5
  have b0 := cell_of_block (o := 0) (HX.out w4 H4.out) rfl
  have b1 := cell_of_block (o := 1) (HX.out w4 H4.out) rfl
  have b2 := cell_of_block (o := 2) (HX.out w4 H4.out) rfl
  have b3 := cell_of_block (o := 3) (HX.out w4 H4.out) rfl
  have b4 := cell_of_block (o := 4) (HX.out w4 H4.out) rfl
  have b5 := cell_of_block (o := 5) (HX.out w4 H4.out) rfl
  go_wp2_with fail
  refine (HKS.out _ H4.out).mono ?_
  rintro e w5 ⟨rfl, hb⟩
  have H5 := Lib.hid (below_next H4.out hb)
  clear hb
  clear b0 b1 b2 b3 b4 b5
  have b0 := cell_of_block (o := 0) (HX.out w5 H5.out) rfl
  have b1 := cell_of_block (o := 1) (HX.out w5 H5.out) rfl
  have b2 := cell_of_block (o := 2) (HX.out w5 H5.out) rfl
  have b3 := cell_of_block (o := 3) (HX.out w5 H5.out) rfl
  have b4 := cell_of_block (o := 4) (HX.out w5 H5.out) rfl
  have b5 := cell_of_block (o := 5) (HX.out w5 H5.out) rfl
  go_wp2_with fail
  refine (K5.out _).mono ?_
  rintro e w6 ⟨rfl, hb⟩
  have H6 := Lib.hid (below_next H5.out hb)
  clear hb
  clear b0 b1 b2 b3 b4 b5
  have b0 := cell_of_block (o := 0) (HX.out w6 H6.out) rfl
  have b1 := cell_of_block (o := 1) (HX.out w6 H6.out) rfl
  have b2 := cell_of_block (o := 2) (HX.out w6 H6.out) rfl
  have b3 := cell_of_block (o := 3) (HX.out w6 H6.out) rfl
  have b4 := cell_of_block (o := 4) (HX.out w6 H6.out) rfl
  have b5 := cell_of_block (o := 5) (HX.out w6 H6.out) rfl
  go_wp2_with fail
  refine (K6.out _).mono ?_
  rintro e w7 ⟨rfl, hb⟩
  have H7 := Lib.hid (below_next H6.out hb)
  clear hb
  clear b0 b1 b2 b3 b4 b5
  have b0 := cell_of_block (o := 0) (HX.out w7 H7.out) rfl
  have b1 := cell_of_block (o := 1) (HX.out w7 H7.out) rfl
  have b2 := cell_of_block (o := 2) (HX.out w7 H7.out) rfl
  have b3 := cell_of_block (o := 3) (HX.out w7 H7.out) rfl
  have b4 := cell_of_block (o := 4) (HX.out w7 H7.out) rfl
  have b5 := cell_of_block (o := 5) (HX.out w7 H7.out) rfl
  clear K1 K2 K3 K4 K5 K6 HKS
  go_wp2_with fail
  go_loopw [4, 3] (fun i v wr => Below W.heap.size W wr ∧ ∃ k : Nat, k ≤ n ∧ i = .int .i64 k ∧ v = .string (tx9 (l6 ++ ndL (f.ns.take k)))) (fun i _ _ => n - (intOf i).toNat)
  case atStart => exact ⟨H7.out, 0, Nat.zero_le _, rfl, by simp [ndL]⟩
  case round =>
    obtain ⟨hbw, k, hk, rfl, rfl⟩ := hrel
    have G0 := Lib.hid hbw
    clear hbw b0 b1 b2 b3 b4 b5
    have b0 := cell_of_block (o := 0) (HX.out _ G0.out) rfl
    by_cases hlt : k < n
    · have hd : decide (k < n) = true := decide_eq_true hlt
      have hd2 : decide ((k : Int) < (n : Int)) = true := decide_eq_true (by omega)
      have hkI : (k : Int) < (n : Int) := by omega
      have hkn : k < f.ns.length := by rw [← HN.out]; exact hlt
      have hw1 : IntKind.i64.wrap ((k : Int) + 1) = (k : Int) + 1 := by have := HLN.out; rw [IntKind.wrap_i64]; omega
      have HTK := Lib.hid (ndL_take f.ns hkn)
      have HCELL := Lib.hid (fun X (hX : Below W.heap.size W X) => (HR.out.below hX).nd k hkn)
      have hmem : ∀ x ∈ [(f.ns.getD k (0, 0, 0)).1, (f.ns.getD k (0, 0, 0)).2.1, (f.ns.getD k (0, 0, 0)).2.2], i64In' x := fun x hx => HND.out x (by
        unfold ndL
        refine List.mem_flatMap.2 ⟨f.ns.getD k (0, 0, 0), by simp [List.getD, List.getElem?_eq_getElem hkn], hx⟩)
      have hpre : ∀ x ∈ l6 ++ ndL (f.ns.take k), i64In' x := fun x hx => by
        rcases List.mem_append.1 hx with h | h
        · exact HIN.out x h
        · refine HND.out x ?_
          unfold ndL at h ⊢
          obtain ⟨y, hy, hxy⟩ := List.mem_flatMap.1 h
          exact List.mem_flatMap.2 ⟨y, List.mem_of_mem_take hy, hxy⟩
      have hlen : (l6 ++ ndL (f.ns.take k)).length ≤ 200 := by
        rw [List.length_append, ndL_len, List.length_take, HL6.out]
        have := HLN.out
        omega
      have HMEM := Lib.hid hmem
      have HPRE := Lib.hid hpre
      have HLEN := Lib.hid hlen
      clear hmem hpre hlen hkn
      generalize f.ns.getD k (0, 0, 0) = nd at *
      obtain ⟨t, m, b⟩ := nd
      dsimp only at HCELL HTK HMEM
      have HST := Lib.hid (show l6 ++ ndL (f.ns.take (k + 1)) = l6 ++ ndL (f.ns.take k) ++ [t] ++ [m] ++ [b] by rw [HTK.out]; simp)
      generalize l6 ++ ndL (f.ns.take k) = q at *
      have P1 := Lib.hid (fun X => rp9 (l := q) (v := t) (by have := HLEN.out; omega) HPRE.out (HMEM.out _ (by simp)) X)
      have P2 := Lib.hid (fun X => rp9 (l := q ++ [t]) (v := m) (by have := HLEN.out; simp; omega) (fun x hx => by rcases List.mem_append.1 hx with h | h; exact HPRE.out x h; exact HMEM.out x (by simp at h; simp [h])) (HMEM.out _ (by simp)) X)
      have P3 := Lib.hid (fun X => rp9 (l := q ++ [t] ++ [m]) (v := b) (by have := HLEN.out; simp; omega) (fun x hx => by rcases List.mem_append.1 hx with h | h; rcases List.mem_append.1 h with h | h; exact HPRE.out x h; exact HMEM.out x (by simp at h; simp [h]); exact HMEM.out x (by simp at h; simp [h])) (HMEM.out _ (by simp)) X)
      have HE := Lib.hid (show tx9 (l6 ++ ndL (f.ns.take (k + 1))) = tx9 (q ++ [t] ++ [m] ++ [b]) by rw [HST.out])
      generalize tx9 (q ++ [t] ++ [m] ++ [b]) = z3 at *
      generalize tx9 (q ++ [t] ++ [m]) = z2 at *
      generalize tx9 (q ++ [t]) = z1 at *
      generalize tx9 q = z0 at *
      obtain ⟨n0, n1, n2⟩ := HCELL.out _ G0.out
      go_wp2_with fail
      refine (P1.out _).mono ?_
      rintro e x1 ⟨rfl, hb⟩
      have G1 := Lib.hid (below_next G0.out hb)
      clear hb b0 n0 n1 n2
      have b0 := cell_of_block (o := 0) (HX.out _ G1.out) rfl
      obtain ⟨n0, n1, n2⟩ := HCELL.out _ G1.out
      go_wp2_with fail
      refine (P2.out _).mono ?_
      rintro e x2 ⟨rfl, hb⟩
      have G2 := Lib.hid (below_next G1.out hb)
      clear hb b0 n0 n1 n2
      have b0 := cell_of_block (o := 0) (HX.out _ G2.out) rfl
      obtain ⟨n0, n1, n2⟩ := HCELL.out _ G2.out
      go_wp2_with fail
      refine (P3.out _).mono ?_
      rintro e x3 ⟨rfl, hb⟩
      have G3 := Lib.hid (below_next G2.out hb)
      clear hb b0 n0 n1 n2
      have b0 := cell_of_block (o := 0) (HX.out _ G3.out) rfl
      obtain ⟨n0, n1, n2⟩ := HCELL.out _ G3.out
      go_wp2_with fail
      go_roundw
      case rel => exact ⟨G3.out, k + 1, by omega, by go_num, by rw [HE.out]⟩
      case measure => simp [intOf]; omega
    · obtain rfl : k = n := by omega
      have hd : decide (k < k) = false := decide_eq_false (by omega)
      have hd2 : decide ((k : Int) < (k : Int)) = false := decide_eq_false (by omega)
      have HT := Lib.hid (show f.ns.take k = f.ns from List.take_of_length_le (by rw [HN.out]; exact Nat.le_refl _))
      have HBE := Lib.hid (below_next HA.out G0.out)
      rw [HT.out]
      go_wp2_with fail
      go_ret
      exact ⟨rfl, HBE.out⟩
end Go.Proofs.YtnofgffkfapodaaDoor
namespace Go.Proofs.YtnofgffkfapodaaDoor
set_option linter.unusedVariables false
open Go.ChangeShapes Go.WideShapes Go.ChangeAt Go.RowKit
attribute [local go_sem ↓] Go.wp_at_zero Go.wp_at_succ comesTo_value_eq comesTo_skip_eq comesTo_enter_eq

def FReadEnd (w : World) (bs : List Int) (e : Ending) (w' : World) : Prop :=
  (okV bs = false ∧ e = .returned (.tuple #[.pointer none, .int .i64 11]) ∧ Below w.heap.size w w') ∨
  (okV bs = true ∧ ∃ F G, e = .returned (.tuple #[.pointer (some ⟨F, 0, none⟩), .int .i64 0]) ∧ Fl w' F G (rdV bs) ∧ w.heap.size ≤ F ∧ w.heap.size ≤ G ∧ Below w.heap.size w w')
/-- the fleet's block under way -/
def cfV (S D P : Int) (G n : Nat) (sp sw : Int) : Array Value := #[.int .i64 S, .int .i64 D, .int .i64 P, .slice (some ⟨G, 0, none⟩) n n, .int .u64 sp, .int .i64 sw]
/-- the nodes' row when some have been read -/
def cgV (l : List N3) (n : Nat) : List Value := flatN (l ++ List.replicate (n - l.length) (0, 0, 0))
theorem cgV_set (l : List N3) (n : Nat) (hk : l.length < n) (x : N3) : (((cgV l n).set (l.length * 3) (.int .i64 x.1)).set (l.length * 3 + 1) (.int .i64 x.2.1)).set (l.length * 3 + 2) (.int .i64 x.2.2) = cgV (l ++ [x]) n := by
  unfold cgV
  rw [flatN_set _ _ _ (by simp; omega)]
  congr 1
  rw [List.set_append]
  simp only [Nat.lt_irrefl, if_false, Nat.sub_self, List.length_append, List.length_cons, List.length_nil, List.append_assoc]
  obtain ⟨m, hm⟩ : ∃ m, n - l.length = m + 1 := ⟨n - l.length - 1, by omega⟩
  rw [hm, show n - (l.length + (0 + 1)) = m by omega, List.replicate_succ]
  rfl
theorem cgV_len (l : List N3) (n : Nat) (h : l.length ≤ n) : (cgV l n).length = n * 3 := by unfold cgV; rw [flatN_length]; simp; omega
set_option maxRecDepth 100000 in
set_option maxHeartbeats 8000000 in
theorem fread_any {w : World} {ad : Option Addr} {nb cb : Nat} {bs : List Int} (h : TxtAt w (.slice ad nb cb) bs) (hl : bs.length ≤ 1099511627775) (hE : ErrAt w) (hT : TabZ w) :
    Calls Tryd.prog 16 #[.slice ad nb cb] w fun e w' => FReadEnd w bs e w' := by
  have hmx : Tryd.prog.follows .mixedOrders = true := by kernel_rfl
  have hEn := enters_of (P := Tryd.prog) Tryd.func45 (by kernel_rfl) rfl
  unfold Go.Proofs.Enters at hEn
  have KR := Lib.hid (read_cur h hl)
  have HE := Lib.hid (fun X (hX : Below w.heap.size w X) => hE.below hX)
  have HT := Lib.hid (fun X (hX : Below w.heap.size w X) => hT.below hX)
  have HNO := Lib.hid (fun (hh : okV bs = false) e w' (he : e = .returned (.tuple #[.pointer none, .int .i64 11])) (hb : Below w.heap.size w w') => (.inl ⟨hh, he, hb⟩ : FReadEnd w bs e w'))
  have HYES := Lib.hid (fun (hh : okV bs = true) e w' F G (he : e = .returned (.tuple #[.pointer (some ⟨F, 0, none⟩), .int .i64 0])) (hf : Fl w' F G (rdV bs)) (h1 : w.heap.size ≤ F) (h2 : w.heap.size ≤ G) (hb : Below w.heap.size w w') => (.inr ⟨hh, F, G, he, hf, h1, h2, hb⟩ : FReadEnd w bs e w'))
  clear h hl hE hT
  go_enter Tryd.func16, Tryd.ntmps16
  go_wp2_with fail
  refine KR.out.mono ?_
  rintro e w1 ⟨C, rfl, hc, hb⟩
  have hct := hc.tight
  have b1 := below_alloc (Below.refl _ w1) (.cells #[.pointer (some ⟨C, 0, none⟩)] 75)
  have b2 := below_alloc (Below.refl _ (w1.alloc (.cells #[.pointer (some ⟨C, 0, none⟩)] 75))) (.cells #[.int .i64 0, .int .i64 0, .int .i64 0, .slice none 0 0, .int .u64 0, .int .i64 0] 60)
  have q1 := World.alloc_heap_new w1 (.cells #[.pointer (some ⟨C, 0, none⟩)] 75)
  have q2 := World.alloc_heap_new (w1.alloc (.cells #[.pointer (some ⟨C, 0, none⟩)] 75)) (.cells #[.int .i64 0, .int .i64 0, .int .i64 0, .slice none 0 0, .int .u64 0, .int .i64 0] 60)
  rw [World.size_alloc] at q2
  have HBX := Lib.hid ((b2.block _ (by simp)).trans q1)
  have HFX := Lib.hid q2
  have HB2 := Lib.hid (below_next (below_next hb b1) b2)
  have HCU := Lib.hid (hct.below (below_next b1 b2))
  have HWB := Lib.hid hb.size
  have HC1 := Lib.hid hct.mem.2
  have c0 := cell_of_block (o := 0) ((b2.block _ (by simp)).trans q1) rfl
  clear hc hb hct b1 b2 q1 q2 KR
  go_upto_region 3 with fail
  generalize (w1.alloc (.cells #[.pointer (some ⟨C, 0, none⟩)] 75)).alloc (.cells #[.int .i64 0, .int .i64 0, .int .i64 0, .slice none 0 0, .int .u64 0, .int .i64 0] 60) = W2 at *
  obtain ⟨B, hB⟩ : ∃ B, B = w1.heap.size := ⟨_, rfl⟩
  rw [← hB] at HBX HFX HCU HWB HC1 c0 ⊢
  clear hB
  have KS := Lib.hid (small_cur HCU.out 64)
  go_wp2_with fail
  refine KS.out.mono ?_
  rintro e w3 ⟨rfl, hc3, hf3⟩
  have hn := smallF_most ⟨bs, 0⟩ (most := 64) (by decide)
  obtain ⟨n, hnn⟩ : ∃ n : Nat, (smallF ⟨bs, 0⟩ 64).2 = (n : Int) := ⟨(smallF ⟨bs, 0⟩ 64).2.toNat, by omega⟩
  have HN64 := Lib.hid (show n ≤ 64 by omega)
  rw [hnn]
  have HH0 := Lib.hid (show (h0 bs).2 = (n : Int) from hnn)
  have hmk := make_nodes n (by omega) w3
  have nB3 := (hf3.block _ (Array.getElem?_eq_some_iff.1 HBX.out).1 (by have := HC1.out; omega)).trans HBX.out
  have nF3 := (hf3.block _ (Array.getElem?_eq_some_iff.1 HFX.out).1 (by have := HC1.out; omega)).trans HFX.out
  have HB3 := Lib.hid (HB2.out.trans (hf3.below (B := w.heap.size) HB2.out.size (fun j hj => by have := HCU.out.mem.1; omega)))
  have b3 := below_alloc (Below.refl _ w3) (.cells (flatN (List.replicate n (0, 0, 0))).toArray 62)
  have nG := World.alloc_heap_new w3 (.cells (flatN (List.replicate n (0, 0, 0))).toArray 62)
  have hlF := (Array.getElem?_eq_some_iff.1 nF3).1
  have HRF := Lib.hid (show RF w (w3.alloc (.cells (flatN (List.replicate n (0, 0, 0))).toArray 62)) C B (B + 1) w3.heap.size (h0 bs).1 #[.int .i64 0, .int .i64 0, .int .i64 0, .slice none 0 0, .int .u64 0, .int .i64 0] (cgV [] n) from
    ⟨(hc3.more (fun j hj => ⟨hj.1, hj.2⟩)).below b3, (b3.block _ (Array.getElem?_eq_some_iff.1 nB3).1).trans nB3, (b3.block _ hlF).trans nF3, by unfold cgV; simpa using nG, by omega, hlF, HWB.out, below_next HB3.out b3⟩)
  have e3 := cell_of_block (o := 3) ((b3.block _ hlF).trans nF3) rfl
  have x3 := free_of_block 3 ((b3.block _ hlF).trans nF3)
  clear hc3 hf3 hn hnn nB3 nF3 b3 nG hlF c0 KS HCU HBX HFX HB2 HB3
  go_upto_region 5 with fail
  have HRF1 := Lib.hid (HRF.out.setF 3 (.slice (some ⟨w3.heap.size, 0, none⟩) n n))
  clear hmk e3 x3 HRF
  generalize (w3.alloc (.cells (flatN (List.replicate n (0, 0, 0))).toArray 62)).setCell ⟨B + 1, 3, none⟩ (.slice (some ⟨w3.heap.size, 0, none⟩) n n) = w4 at *
  generalize w3.heap.size = G at *
  have HR4 := Lib.hid (show RF w w4 C B (B + 1) G (h0 bs).1 (cfV 0 0 0 G n 0 0) (cgV [] n) from HRF1.out)
  clear HRF1
  go_wp2_with fail
  refine (number_rf HR4.out).mono ?_
  rintro e w5 ⟨rfl, hr⟩
  have HR5 := Lib.hid (show RF w w5 C B (B + 1) G (h1 bs).1 (cfV 0 0 0 G n 0 0) (cgV [] n) from hr)
  rw [show (intF (h0 bs).1).2 = (h1 bs).2 from rfl]
  clear hr HR4
  go_wp2_with fail
  refine (number_rf HR5.out).mono ?_
  rintro e w6 ⟨rfl, hr⟩
  have HR6 := Lib.hid (show RF w w6 C B (B + 1) G (h2 bs).1 (cfV 0 0 0 G n 0 0) (cgV [] n) from hr)
  rw [show (intF (h1 bs).1).2 = (h2 bs).2 from rfl]
  clear hr HR5
  go_wp2_with fail
  refine (number_rf HR6.out).mono ?_
  rintro e w7 ⟨rfl, hr⟩
  have HR7 := Lib.hid (show RF w w7 C B (B + 1) G (h3 bs).1 (cfV 0 0 0 G n 0 0) (cgV [] n) from hr)
  rw [show (intF (h2 bs).1).2 = (h3 bs).2 from rfl]
  clear hr HR6
  obtain ⟨S, hS⟩ : ∃ S, S = (h1 bs).2 := ⟨_, rfl⟩
  obtain ⟨D, hD⟩ : ∃ S, S = (h2 bs).2 := ⟨_, rfl⟩
  obtain ⟨P, hP⟩ : ∃ S, S = (h3 bs).2 := ⟨_, rfl⟩
  rw [← hS, ← hD, ← hP]
  have HSDP := Lib.hid (And.intro hS (And.intro hD hP))
  clear hS hD hP
  have HR8 := Lib.hid (show RF w (((w7.setCell ⟨B + 1, 0, none⟩ (.int .i64 S)).setCell ⟨B + 1, 1, none⟩ (.int .i64 D)).setCell ⟨B + 1, 2, none⟩ (.int .i64 P)) C B (B + 1) G (h3 bs).1 (cfV S D P G n 0 0) (cgV [] n) from ((HR7.out.setF 0 (.int .i64 S)).setF 1 (.int .i64 D)).setF 2 (.int .i64 P))
  have r0 : w7.cell? ⟨B + 1, 0, none⟩ = some (.int .i64 0) := cell_of_block (o := 0) HR7.out.blk rfl
  have r1 : w7.cell? ⟨B + 1, 1, none⟩ = some (.int .i64 0) := cell_of_block (o := 1) HR7.out.blk rfl
  have r2 : w7.cell? ⟨B + 1, 2, none⟩ = some (.int .i64 0) := cell_of_block (o := 2) HR7.out.blk rfl
  have f0 := free_of_block 0 HR7.out.blk
  have f1 := free_of_block 1 HR7.out.blk
  have f2 := free_of_block 2 HR7.out.blk
  have b0 := cell_of_block (o := 0) HR8.out.box rfl
  have b7 := cell_of_block (o := 0) HR7.out.box rfl
  clear HR7
  go_upto_region 6 with fail
  generalize ((w7.setCell ⟨B + 1, 0, none⟩ (.int .i64 S)).setCell ⟨B + 1, 1, none⟩ (.int .i64 D)).setCell ⟨B + 1, 2, none⟩ (.int .i64 P) = w8 at *
  clear r0 r1 r2 f0 f1 f2 b7
  have KI := Lib.hid (int_cur HR8.out.cur)
  go_wp2_with fail
  refine KI.out.mono ?_
  rintro e w9 ⟨rfl, hc, hf⟩
  have HR9 := Lib.hid (show RF w w9 C B (B + 1) G (h4 bs).1 (cfV S D P G n 0 0) (cgV [] n) from HR8.out.call hc hf)
  rw [show (intF (h3 bs).1).2 = (h4 bs).2 from rfl]
  clear hc hf KI HR8 b0
  obtain ⟨vs, hvs⟩ : ∃ S, S = (h4 bs).2 := ⟨_, rfl⟩
  rw [← hvs]
  obtain ⟨sp, hsp⟩ : ∃ s : NSet, s = BitVec.ofInt 64 vs := ⟨_, rfl⟩
  have hcv : IntKind.u64.wrap vs = nv sp := by rw [hsp, nv_ofInt']
  have HSP := Lib.hid (show sp = BitVec.ofInt 64 (h4 bs).2 by rw [hsp, hvs])
  clear hvs hsp
  have HR10 := Lib.hid (show RF w (w9.setCell ⟨B + 1, 4, none⟩ (.int .u64 (nv sp))) C B (B + 1) G (h4 bs).1 (cfV S D P G n (nv sp) 0) (cgV [] n) from HR9.out.setF 4 (.int .u64 (nv sp)))
  have r4 : w9.cell? ⟨B + 1, 4, none⟩ = some (.int .u64 0) := cell_of_block (o := 4) HR9.out.blk rfl
  have f4 := free_of_block 4 HR9.out.blk
  have b0 := cell_of_block (o := 0) HR10.out.box rfl
  have b9 := cell_of_block (o := 0) HR9.out.box rfl
  clear HR9
  go_upto_region 7 with fail
  generalize w9.setCell ⟨B + 1, 4, none⟩ (.int .u64 (nv sp)) = w10 at *
  clear r4 f4 b9 hcv
  have KI := Lib.hid (small_cur HR10.out.cur 9223372036854775807)
  go_wp2_with fail
  refine KI.out.mono ?_
  rintro e w11 ⟨rfl, hc, hf⟩
  have HR11 := Lib.hid (show RF w w11 C B (B + 1) G (h5 bs).1 (cfV S D P G n (nv sp) 0) (cgV [] n) from HR10.out.call hc hf)
  rw [show (smallF (h4 bs).1 9223372036854775807).2 = (h5 bs).2 from rfl]
  clear hc hf KI HR10 b0
  obtain ⟨sw, hsw⟩ : ∃ S, S = (h5 bs).2 := ⟨_, rfl⟩
  rw [← hsw]
  have HSW := Lib.hid hsw
  clear hsw
  have HR12 := Lib.hid (show RF w (w11.setCell ⟨B + 1, 5, none⟩ (.int .i64 sw)) C B (B + 1) G (h5 bs).1 (cfV S D P G n (nv sp) sw) (cgV [] n) from HR11.out.setF 5 (.int .i64 sw))
  have r5 : w11.cell? ⟨B + 1, 5, none⟩ = some (.int .i64 0) := cell_of_block (o := 5) HR11.out.blk rfl
  have f5 := free_of_block 5 HR11.out.blk
  have b3 : w11.cell? ⟨B + 1, 3, none⟩ = some (.slice (some ⟨G, 0, none⟩) n n) := cell_of_block (o := 3) HR11.out.blk rfl
  have d3 : (w11.setCell ⟨B + 1, 5, none⟩ (.int .i64 sw)).cell? ⟨B + 1, 3, none⟩ = some (.slice (some ⟨G, 0, none⟩) n n) := cell_of_block (o := 3) HR12.out.blk rfl
  clear HR11
  go_wp2_with fail
  generalize w11.setCell ⟨B + 1, 5, none⟩ (.int .i64 sw) = w12 at *
  clear r5 f5 b3 d3
  go_loopw [45, 7] (fun i j wr => ∃ k : Nat, k ≤ n ∧ i = .int .i64 k ∧ RF w wr C B (B + 1) G (rdC bs k).1 (cfV S D P G n (nv sp) sw) (cgV (rdC bs k).2 n)) (fun i _ _ => n - (intOf i).toNat)
  case atStart => exact ⟨0, Nat.zero_le _, rfl, HR12.out⟩
  case round =>
    obtain ⟨k, hk, rfl, hrf⟩ := hrel
    have HK := Lib.hid hrf
    clear hrf
    by_cases hlt : k < n
    · have hd : decide (k < n) = true := decide_eq_true hlt
      have hd2 : decide ((k : Int) < (n : Int)) = true := decide_eq_true (by omega)
      have hkI : (k : Int) < (n : Int) := by omega
      have hw1 : IntKind.i64.wrap ((k : Int) + 1) = (k : Int) + 1 := by have := HN64.out; rw [IntKind.wrap_i64]; omega
      go_upto_region 11 with fail
      refine wp_region_held (S := fun X => X.cell? ⟨B + 1, 3, none⟩ = some (.slice (some ⟨G, 0, none⟩) n n)) hmx ?_
      have HKd := Lib.hid (HK.out.below (show Below wr.heap.size wr wr.drew from (Below.refl _ _).drew))
      clear HK
      change wpAnyH _ _ _ _ _ 14 _ _ wr.drew
      generalize wr.drew = wd at *
      have hS : wd.cell? ⟨B + 1, 3, none⟩ = some (.slice (some ⟨G, 0, none⟩) n n) := cell_of_block (o := 3) HKd.out.blk rfl
      (refine wpAnyH_take (i := 0) (v := .pointer (some ⟨B + 1, 0, none⟩)) rfl (by decide +kernel) (by decide +kernel) (by decide +kernel) (fun _ _ _ h => h) (.inl ⟨by first | rfl | (go_simp; done), fun X hX => by first | (go_simp; done) | (go_simp; rfl)⟩) hS ?_)
      (refine wpAnyH_take (i := 1) (v := .pointer (some ⟨B + 1, 0, none⟩)) rfl (by decide +kernel) (by decide +kernel) (by decide +kernel) (fun _ _ _ h => h) (.inl ⟨by first | rfl | (go_simp; done), fun X hX => by first | (go_simp; done) | (go_simp; rfl)⟩) hS ?_)
      (refine wpAnyH_take (i := 2) (v := .pointer (some ⟨B + 1, 3, none⟩)) rfl (by decide +kernel) (by decide +kernel) (by decide +kernel) (fun _ _ _ h => h) (.inl ⟨by first | rfl | (go_simp; done), fun X hX => by first | (go_simp; done) | (go_simp; rfl)⟩) hS ?_)
      (refine wpAnyH_take (i := 3) (v := .slice (some ⟨G, 0, none⟩) n n) rfl (by decide +kernel) (by decide +kernel) (by decide +kernel) (fun _ _ _ h => h) (.inl ⟨by first | rfl | (go_simp; done), fun X hX => by first | (go_simp; done) | (go_simp; rfl)⟩) hS ?_)
      (refine wpAnyH_take (i := 4) (v := .int .i64 k) rfl (by decide +kernel) (by decide +kernel) (by decide +kernel) (fun _ _ _ h => h) (.inl ⟨by first | rfl | (go_simp; done), fun X hX => by first | (go_simp; done) | (go_simp; rfl)⟩) hS ?_)
      (refine wpAnyH_take (i := 5) (v := .func (.func 45) #[] #[.pointer (some ⟨B, 0, none⟩)]) rfl (by decide +kernel) (by decide +kernel) (by decide +kernel) (fun _ _ _ h => h) (.inl ⟨by first | rfl | (go_simp; done), fun X hX => by first | (go_simp; done) | (go_simp; rfl)⟩) hS ?_)
      (refine wpAnyH_take (i := 7) (v := .func (.func 45) #[] #[.pointer (some ⟨B, 0, none⟩)]) rfl (by decide +kernel) (by decide +kernel) (by decide +kernel) (fun _ _ _ h => h) (.inl ⟨by first | rfl | (go_simp; done), fun X hX => by first | (go_simp; done) | (go_simp; rfl)⟩) hS ?_)
      (refine wpAnyH_take (i := 9) (v := .func (.func 45) #[] #[.pointer (some ⟨B, 0, none⟩)]) rfl (by decide +kernel) (by decide +kernel) (by decide +kernel) (fun _ _ _ h => h) (.inl ⟨by first | rfl | (go_simp; done), fun X hX => by first | (go_simp; done) | (go_simp; rfl)⟩) hS ?_)
      clear hS
      have HSTEP := Lib.hid (show rdC bs (k + 1) = ((rd3 (rdC bs k).1).1, (rdC bs k).2 ++ [(rd3 (rdC bs k).1).2]) from rfl)
      have HLN := Lib.hid (show (rdC bs k).2.length = k from rdN_len _ k)
      generalize rdC bs k = rk at *
      obtain ⟨st, l⟩ := rk
      dsimp only at HKd HSTEP HLN
      unfold rd3 at HSTEP
      obtain ⟨x0, hx0⟩ : ∃ x, x = (intF st).2 := ⟨_, rfl⟩
      obtain ⟨s1, hs1⟩ : ∃ x, x = (intF st).1 := ⟨_, rfl⟩
      obtain ⟨x1, hx1⟩ : ∃ x, x = (intF s1).2 := ⟨_, rfl⟩
      obtain ⟨s2, hs2⟩ : ∃ x, x = (intF s1).1 := ⟨_, rfl⟩
      obtain ⟨x2, hx2⟩ : ∃ x, x = (intF s2).2 := ⟨_, rfl⟩
      obtain ⟨s3, hs3⟩ : ∃ x, x = (intF s2).1 := ⟨_, rfl⟩
      rw [← hs1, ← hs2, ← hs3, ← hx0, ← hx1, ← hx2] at HSTEP
      have K1 := Lib.hid (number_rf HKd.out)
      rw [← hx0, ← hs1] at K1
      refine anyH_call (i := 6) (by decide +kernel) rfl (by first | rfl | (go_simp; done)) (by go_simp) (K1.out) ?_
      rintro e wa ⟨rfl, hr⟩
      have HKa := Lib.hid hr
      clear hr K1 HKd
      refine ⟨_, rfl, cell_of_block (o := 3) HKa.out.blk rfl, ?_⟩
      have K1 := Lib.hid (number_rf HKa.out)
      rw [← hx1, ← hs2] at K1
      refine anyH_call (i := 8) (by decide +kernel) rfl (by first | rfl | (go_simp; done)) (by go_simp) (K1.out) ?_
      rintro e wb ⟨rfl, hr⟩
      have HKb := Lib.hid hr
      clear hr K1 HKa
      refine ⟨_, rfl, cell_of_block (o := 3) HKb.out.blk rfl, ?_⟩
      have K1 := Lib.hid (number_rf HKb.out)
      rw [← hx2, ← hs3] at K1
      refine anyH_call (i := 10) (by decide +kernel) rfl (by first | rfl | (go_simp; done)) (by go_simp) (K1.out) ?_
      rintro e wc ⟨rfl, hr⟩
      have HKc := Lib.hid hr
      clear hr K1 HKb hx0 hx1 hx2 hs1 hs2 hs3
      have hS : wc.cell? ⟨B + 1, 3, none⟩ = some (.slice (some ⟨G, 0, none⟩) n n) := cell_of_block (o := 3) HKc.out.blk rfl
      refine ⟨_, rfl, hS, ?_⟩
      (refine wpAnyH_take (i := 11) (v := .agg #[.int .i64 x0, .int .i64 x1, .int .i64 x2]) rfl (by decide +kernel) (by decide +kernel) (by decide +kernel) (fun _ _ _ h => h) (.inl ⟨by first | rfl | (go_simp; done), fun X hX => by first | (go_simp; done) | (go_simp; rfl)⟩) hS ?_)
      (refine wpAnyH_take (i := 12) (v := .pointer (some ⟨G, k * 3, none⟩)) rfl (by decide +kernel) (by decide +kernel) (by decide +kernel) (fun _ _ _ h => h) (.inl ⟨by first | rfl | (go_simp; done), fun X hX => by first | (go_simp; done) | (go_simp; rfl)⟩) hS ?_)
      clear hS
      have hcl := cgV_len l n (by rw [HLN.out]; omega)
      obtain ⟨v0, hv0⟩ : ∃ v, (cgV l n)[k * 3]? = some v := ⟨_, List.getElem?_eq_getElem (by rw [hcl]; omega)⟩
      obtain ⟨v1, hv1⟩ : ∃ v, (cgV l n)[k * 3 + 1]? = some v := ⟨_, List.getElem?_eq_getElem (by rw [hcl]; omega)⟩
      obtain ⟨v2, hv2⟩ : ∃ v, (cgV l n)[k * 3 + 2]? = some v := ⟨_, List.getElem?_eq_getElem (by rw [hcl]; omega)⟩
      have q0 := cell_of_block (o := k * 3) (v := v0) HKc.out.row (by simpa using hv0)
      have q1 := cell_of_block (o := k * 3 + 1) (v := v1) HKc.out.row (by simpa using hv1)
      have q2 := cell_of_block (o := k * 3 + 2) (v := v2) HKc.out.row (by simpa using hv2)
      have g0 := free_of_block (k * 3) HKc.out.row
      have g1 := free_of_block (k * 3 + 1) HKc.out.row
      have g2 := free_of_block (k * 3 + 2) HKc.out.row
      have hset := cgV_set l n (by rw [HLN.out]; exact hlt) (x0, x1, x2)
      rw [HLN.out] at hset
      dsimp only at hset
      have HKf := Lib.hid (((HKc.out.setG (k * 3) (.int .i64 x0)).setG (k * 3 + 1) (.int .i64 x1)).setG (k * 3 + 2) (.int .i64 x2))
      rw [hset] at HKf
      have hSf : (((wc.setCell ⟨G, k * 3, none⟩ (.int .i64 x0)).setCell ⟨G, k * 3 + 1, none⟩ (.int .i64 x1)).setCell ⟨G, k * 3 + 2, none⟩ (.int .i64 x2)).cell? ⟨B + 1, 3, none⟩ = some (.slice (some ⟨G, 0, none⟩) n n) := cell_of_block (o := 3) HKf.out.blk rfl
      clear hcl hv0 hv1 hv2 hset HKc
      refine anyH_store (i := 13) (w' := ((wc.setCell ⟨G, k * 3, none⟩ (.int .i64 x0)).setCell ⟨G, k * 3 + 1, none⟩ (.int .i64 x1)).setCell ⟨G, k * 3 + 2, none⟩ (.int .i64 x2)) (by decide +kernel) rfl (by first | rfl | (go_simp; done)) (by go_simp) hSf ?_
      generalize ((wc.setCell ⟨G, k * 3, none⟩ (.int .i64 x0)).setCell ⟨G, k * 3 + 1, none⟩ (.int .i64 x1)).setCell ⟨G, k * 3 + 2, none⟩ (.int .i64 x2) = wf at *
      clear q0 q1 q2 g0 g1 g2 hSf
      refine wpAnyH_done (by decide +kernel) ?_ _
      go_simp
      go_wp2_with fail
      go_roundw
      case rel => exact ⟨k + 1, by omega, by go_num, by rw [HSTEP.out]; exact HKf.out⟩
      case measure => simp [intOf]; omega
    · obtain rfl : k = n := by omega
      have hd : decide (k < k) = false := decide_eq_false (by omega)
      have hd2 : decide ((k : Int) < (k : Int)) = false := decide_eq_false (by omega)
      have HOK := Lib.hid (show okV bs = ((endF (rdC bs k).1 == 0) && decide (1 ≤ (k : Int)) && rightG (rdV bs)) by unfold okV; rw [HH0.out]; rfl)
      have HV := Lib.hid (show rdV bs = ⟨S, D, P, (rdC bs k).2, sp, sw⟩ by unfold rdV; rw [HH0.out, ← HSDP.out.1, ← HSDP.out.2.1, ← HSDP.out.2.2, ← HSP.out, ← HSW.out]; rfl)
      have HLN := Lib.hid (show (rdC bs k).2.length = k from rdN_len _ k)
      have KE := Lib.hid (end_cur HK.out.cur (HE.out _ HK.out.bel))
      have b0 := cell_of_block (o := 0) HK.out.box rfl
      generalize rdC bs k = rk at *
      obtain ⟨st, l⟩ := rk
      dsimp only at HK HLN HV HOK KE
      obtain ⟨en, hen⟩ : ∃ x, x = endF st := ⟨_, rfl⟩
      rw [← hen] at KE HOK
      clear hen
      go_wp2_with fail
      refine KE.out.mono ?_
      rintro e w13 ⟨rfl, hb13⟩
      have HK13 := Lib.hid (HK.out.below hb13)
      clear hb13 KE HK b0
      by_cases h0 : en = 0
      case neg =>
        have hne : (en == 0) = false := by simpa using h0
        have hne2 : (en != 0) = true := by simp [h0]
        have E := Lib.hid (show okV bs = false by rw [HOK.out, hne]; rfl)
        clear h0
        go_wp2_with fail
        go_ret2
        exact HNO.out E.out _ _ rfl HK13.out.bel
      case pos =>
      subst h0
      by_cases hk0 : k = 0
      · subst hk0
        have E := Lib.hid (show okV bs = false by rw [HOK.out]; rfl)
        have KN := Lib.hid (right_no (w := w13) (P := B + 1) (.inr ⟨B + 1, rfl, _, _, _, _, _, _, _, HK13.out.blk⟩) (HT.out _ HK13.out.bel))
        go_wp2_with fail
        refine KN.out.mono ?_
        rintro e w14 ⟨rfl, hb14⟩
        have HB14 := Lib.hid (below_next HK13.out.bel hb14)
        clear hb14 KN
        go_wp2_with fail
        go_ret2
        exact HNO.out E.out _ _ rfl HB14.out
      · have HFL := Lib.hid (show Fl w13 (B + 1) G (rdV bs) from by
          rw [HV.out]
          refine ⟨by have := HK13.out.fg; omega, ⟨by show 1 ≤ l.length; rw [HLN.out]; omega, by show l.length ≤ 64; rw [HLN.out]; exact HN64.out⟩, ?_, ?_⟩
          · have := HK13.out.blk
            unfold cfV at this
            unfold flC
            dsimp only
            rw [HLN.out]
            exact this
          · have := HK13.out.row
            unfold cgV at this
            rw [HLN.out, Nat.sub_self, List.replicate_zero, List.append_nil] at this
            exact this)
        have KN := Lib.hid (right_fl HFL.out (HT.out _ HK13.out.bel))
        have HFG := Lib.hid (show w.heap.size ≤ B + 1 ∧ w.heap.size ≤ G from by have := HK13.out.wb; have := HK13.out.fg; omega)
        have HOK2 := Lib.hid (show okV bs = rightG (rdV bs) by rw [HOK.out, decide_eq_true (by omega)]; rfl)
        generalize rightG (rdV bs) = rg at *
        go_wp2_with fail
        refine KN.out.mono ?_
        rintro e w14 ⟨rfl, hb14⟩
        have HB14 := Lib.hid (below_next HK13.out.bel hb14)
        have HF14 := Lib.hid (HFL.out.below hb14)
        clear hb14 KN
        cases rg with
        | false =>
          go_wp2_with fail
          go_ret2
          exact HNO.out HOK2.out _ _ rfl HB14.out
        | true =>
          go_wp2_with fail
          go_ret2
          exact HYES.out HOK2.out _ _ _ _ rfl HF14.out HFG.out.1 HFG.out.2 HB14.out
end Go.Proofs.YtnofgffkfapodaaDoor
namespace Go.Proofs.YtnofgffkfapodaaDoor
set_option linter.unusedVariables false
open Go.ChangeShapes Go.WideShapes Go.ChangeAt Go.RowKit
attribute [local go_sem ↓] Go.wp_at_zero Go.wp_at_succ comesTo_value_eq comesTo_skip_eq comesTo_enter_eq

theorem fput_sl {w : World} {F G : Nat} {f : FV} (h : Fl w F G f) (hb : FB f) : Calls Tryd.prog 19 #[.pointer (some ⟨F, 0, none⟩)] w fun e w' => ∃ ad n c, e = .returned (.slice ad n c) ∧ OwnTxt w' w.heap.size (.slice ad n c) (bytesF f) ∧ Below w.heap.size w w' := by
  refine (fput_fl h hb).mono fun e w' ⟨u, he, ho, hbl⟩ => ?_
  rcases ho.own.2 with ⟨e1, _⟩ | ⟨g, cap, cur, e1, _⟩
  · subst e1; exact ⟨_, _, _, he, ho, hbl⟩
  · subst e1; exact ⟨_, _, _, he, ho, hbl⟩
theorem bytesF_len {f : FV} (h : FB f) : (bytesF f).length ≤ 2000 := by
  unfold bytesF
  have h1 := putsF_len (l := numsF f ++ ndL f.ns) (fun x hx => by
    rcases List.mem_append.1 hx with h2 | h2
    · exact h.nums x h2
    · exact h.nds x h2)
  rw [List.length_append, ndL_len, show (numsF f).length = 6 from rfl] at h1
  have := h.len
  omega
theorem bequal_eq {w : World} {a1 a2 : Option Addr} {n1 n2 c1 c2 : Nat} {xs : List Int} (h1 : TxtAt w (.slice a1 n1 c1) xs) (h2 : TxtAt w (.slice a2 n2 c2) xs) :
    Calls Tryd.prog 56 #[.slice a1 n1 c1, .slice a2 n2 c2] w fun e w' => e = .returned (.bool true) ∧ w = w' := by
  have k1 := txt_conv h1 w (Below.refl _ _)
  have k2 := txt_conv h2 w (Below.refl _ _)
  generalize strOfNums xs = sz at *
  clear h1 h2
  go_enter Tryd.func56, Tryd.ntmps56
  go_wp2
  go_ret
  exact ⟨rfl, rfl⟩
set_option maxRecDepth 100000 in
theorem same_eq {w : World} {F G F' G' : Nat} {f : FV} (h : Fl w F G f) (h' : Fl w F' G' f) (hb : FB f) : Calls Tryd.prog 26 #[.pointer (some ⟨F, 0, none⟩), .pointer (some ⟨F', 0, none⟩)] w fun e w' => e = .returned (.bool true) ∧ Below w.heap.size w w' := by
  have K1 := Lib.hid (fput_sl h hb)
  have K2 := Lib.hid (fun X (hX : Below w.heap.size w X) => fput_sl (h'.below hX) hb)
  clear h h' hb
  go_enter Tryd.func26, Tryd.ntmps26
  go_wp2_with fail
  refine K1.out.mono ?_
  rintro e w1 ⟨a1, n1, c1, rfl, ho1, hb1⟩
  have H1 := Lib.hid hb1
  have HO1 := Lib.hid ho1
  clear hb1 ho1
  go_wp2_with fail
  refine (K2.out _ H1.out).mono ?_
  rintro e w2 ⟨a2, n2, c2, rfl, ho2, hb2⟩
  have H2 := Lib.hid (below_next H1.out hb2)
  have KE := Lib.hid (bequal_eq (HO1.out.below hb2).at ho2.at)
  clear hb2 ho2 K1 K2 HO1
  go_wp2_with fail
  refine KE.out.mono ?_
  rintro e w' ⟨rfl, rfl⟩
  go_wp2_with fail
  go_ret
  exact ⟨rfl, H2.out⟩
theorem fbyte_txt {w' : World} {b : Nat} {x : Int} (hx : 0 ≤ x ∧ x ≤ 255) (h : w'.heap[b]? = some (.cells #[.int .u8 x] 5 (0, 0))) : TxtAt w' (.slice (some ⟨b, 0, none⟩) 1 1) [x] := by
  refine .inl ⟨b, 0, 1, rfl, by simp, ⟨fun k hk => ?_, fun k hk => ?_, fun k hk => ?_, by simp⟩⟩
  · obtain rfl : k = 0 := by simpa using hk
    exact cell_of_block h rfl
  · obtain rfl : k = 0 := by simpa using hk
    exact hx.1
  · obtain rfl : k = 0 := by simpa using hk
    exact hx.2
end Go.Proofs.YtnofgffkfapodaaDoor
namespace Go.Proofs.YtnofgffkfapodaaDoor
set_option linter.unusedVariables false
open Go.ChangeShapes Go.WideShapes Go.ChangeAt Go.RowKit
attribute [local go_sem ↓] Go.wp_at_zero Go.wp_at_succ comesTo_value_eq comesTo_skip_eq comesTo_enter_eq Rl.comesToR_value_eq Rl.comesToR_skip_eq Rl.comesToR_enter_eq

set_option maxRecDepth 100000 in
set_option maxHeartbeats 8000000 in
theorem like9_any {w : World} {F G L oL cL P oP cP : Nat} {f : FV} (h : Fl w F G f) (h9 : RF9 w L oL P oP f) (hcL : f.ns.length ≤ cL) (hcP : f.ns.length ≤ cP) (hs : ∀ i, i < 64 → f.sp.getLsbD i = true → i < f.ns.length) (hb : FB f) (hT : TabZ w) :
    Calls Tryd.prog 14 #[.pointer (some ⟨F, 0, none⟩), .agg (rf9C f f.ns.length L oL cL P oP cP)] w fun e w' => e = .returned (.int .i64 1) ∧ Below w.heap.size w w' := by
  have hmx : Tryd.prog.follows .mixedOrders = true := by kernel_rfl
  obtain ⟨n, hn⟩ : ∃ n, n = f.ns.length := ⟨_, rfl⟩
  have hA := below_alloc (Below.refl _ w) (.cells (rf9C f f.ns.length L oL cL P oP cP) 34)
  have NB := World.alloc_heap_new w (.cells (rf9C f f.ns.length L oL cL P oP cP) 34)
  have hF := h.below hA
  have hR := h9.below hA
  have hTZ := hT.below hA
  generalize hW : w.alloc (.cells (rf9C f f.ns.length L oL cL P oP cP) 34) = W at *
  have KSP := fun X (hX : Below W.heap.size W X) => spares9_any (hR.below hX) hcL hcP hs
  have KPT := fun X (hX : Below W.heap.size W X) => put9_any (hR.below hX) hcL hcP hs hb
  have KIN := fun X (hX : Below W.heap.size W X) st => in9_any (hR.below hX) hcL hcP st
  have KLN := fun X (hX : Below W.heap.size W X) => flen_fl (hF.below hX)
  rw [← hn] at NB KSP KPT KIN KLN hW ⊢
  unfold rf9C at NB KSP KPT KIN hW ⊢
  have HSP := Lib.hid KSP
  have HPT := Lib.hid KPT
  have HIN := Lib.hid KIN
  have HLNC := Lib.hid KLN
  have HSF := Lib.hid (fun X (hX : Below W.heap.size W X) => fspares_fl (hF.below hX))
  have HSW := Lib.hid (fun X (hX : Below W.heap.size W X) => fswaps_fl (hF.below hX))
  have HPF := Lib.hid (fun X (hX : Below W.heap.size W X) => fput_sl (hF.below hX) hb)
  have HIF := Lib.hid (fun X (hX : Below W.heap.size W X) st => in_fl (hF.below hX) (hTZ.below hX) st)
  have HND := Lib.hid (fun X (hX : Below W.heap.size W X) k (hk : k < f.ns.length) => node_fl (hF.below hX) hk)
  have HRC := Lib.hid (fun X (hX : Below W.heap.size W X) k (hk : k < f.ns.length) => (hR.below hX).nd k hk)
  have HX := Lib.hid (fun X (hX : Below W.heap.size W X) => (hX.block _ (Array.getElem?_eq_some_iff.1 NB).1).trans NB)
  have HA := Lib.hid hA
  have HN := Lib.hid hn
  have HLN := Lib.hid (show n ≤ 64 by rw [hn]; exact h.len.2)
  have hcL' : n ≤ cL := by rw [hn]; exact hcL
  have HWW := Lib.hid hW
  obtain ⟨sz, hsz⟩ : ∃ sz, sz = strOfNums (bytesF f) := ⟨_, rfl⟩
  have HSZ := Lib.hid hsz
  rw [← hsz] at HPT
  clear h h9 hcL hcP hs hb hT hn hA NB hF hR hTZ hW KSP KPT KIN KLN hsz
  go_enter Tryd.func14, Tryd.ntmps14
  go_upto_region 1 with fail
  rw [HWW.out]
  clear HWW
  generalize nv f.sp = vs at *
  refine Rl.wp_region_rel (fun a b => Below a.heap.size a b) W (fun a b c h h' => below_next h h') (fun a => Below.refl _ _) hmx (by kernel_rfl) (Below.refl _ _).drew ?_
  iterate 1 (refine Rl.textR_run ?_ (fun ρ => ?_) (fun ρ W hS hd => ?_) ?_; rotate_left; (focus go_simp); (focus (obtain ⟨hc, hf⟩ := bcell hS; go_simp; first | exact ⟨rfl, Below.refl _ _⟩ | (refine ⟨?_, Below.refl _ _⟩; rfl))); (try go_simp))
  (refine Rl.textR_run ?_ (fun ρ => ?_) (fun ρ W hS hd => ?_) ?_; rotate_left; (focus go_simp); (focus (obtain ⟨hc, hf⟩ := bcell hS; go_simp; refine (HLNC.out W hS).mono ?_; rintro e w1 ⟨rfl, rfl⟩; refine ⟨_, rfl, ?_, Below.refl _ _⟩; rfl)); (try go_simp))
  iterate 1 (refine Rl.textR_run ?_ (fun ρ => ?_) (fun ρ W hS hd => ?_) ?_; rotate_left; (focus go_simp); (focus (obtain ⟨hc, hf⟩ := bcell hS; go_simp; first | exact ⟨rfl, Below.refl _ _⟩ | (refine ⟨?_, Below.refl _ _⟩; rfl))); (try go_simp))
  (refine Rl.textR_run ?_ (fun ρ => ?_) (fun ρ W hS hd => ?_) ?_; rotate_left; (focus go_simp); (focus (have hfact := cell_of_block (o := 0) (HX.out W hS) rfl; go_simp; first | exact ⟨rfl, Below.refl _ _⟩ | (refine ⟨?_, Below.refl _ _⟩; rfl))); (try go_simp))
  iterate 4 (refine Rl.textR_run ?_ (fun ρ => ?_) (fun ρ W hS hd => ?_) ?_; rotate_left; (focus go_simp); (focus (obtain ⟨hc, hf⟩ := bcell hS; go_simp; first | exact ⟨rfl, Below.refl _ _⟩ | (refine ⟨?_, Below.refl _ _⟩; rfl))); (try go_simp))
  (refine Rl.textR_run ?_ (fun ρ => ?_) (fun ρ W hS hd => ?_) ?_; rotate_left; (focus go_simp); (focus (obtain ⟨hc, hf⟩ := bcell hS; go_simp; refine (HSF.out W hS).mono ?_; rintro e w1 ⟨rfl, rfl⟩; refine ⟨_, rfl, ?_, Below.refl _ _⟩; rfl)); (try go_simp))
  (refine Rl.textR_run ?_ (fun ρ => ?_) (fun ρ W hS hd => ?_) ?_; rotate_left; (focus go_simp); (focus (have hfact0 := cell_of_block (o := 0) (HX.out W hS) rfl; have hfact1 := cell_of_block (o := 1) (HX.out W hS) rfl; have hfact2 := cell_of_block (o := 2) (HX.out W hS) rfl; have hfact3 := cell_of_block (o := 3) (HX.out W hS) rfl; have hfact4 := cell_of_block (o := 4) (HX.out W hS) rfl; have hfact5 := cell_of_block (o := 5) (HX.out W hS) rfl; go_simp; first | exact ⟨rfl, Below.refl _ _⟩ | (refine ⟨?_, Below.refl _ _⟩; rfl))); (try go_simp))
  (refine Rl.textR_run ?_ (fun ρ => ?_) (fun ρ W hS hd => ?_) ?_; rotate_left; (focus go_simp); (focus (obtain ⟨hc, hf⟩ := bcell hS; go_simp; refine (HSP.out W hS).mono ?_; rintro e w1 ⟨rfl, hb⟩; refine ⟨_, rfl, ?_, hb⟩; rfl)); (try go_simp))
  iterate 4 (refine Rl.textR_run ?_ (fun ρ => ?_) (fun ρ W hS hd => ?_) ?_; rotate_left; (focus go_simp); (focus (obtain ⟨hc, hf⟩ := bcell hS; go_simp; first | exact ⟨rfl, Below.refl _ _⟩ | (refine ⟨?_, Below.refl _ _⟩; rfl))); (try go_simp))
  (refine Rl.textR_run ?_ (fun ρ => ?_) (fun ρ W hS hd => ?_) ?_; rotate_left; (focus go_simp); (focus (obtain ⟨hc, hf⟩ := bcell hS; go_simp; refine (HSW.out W hS).mono ?_; rintro e w1 ⟨rfl, rfl⟩; refine ⟨_, rfl, ?_, Below.refl _ _⟩; rfl)); (try go_simp))
  iterate 1 (refine Rl.textR_run ?_ (fun ρ => ?_) (fun ρ W hS hd => ?_) ?_; rotate_left; (focus go_simp); (focus (obtain ⟨hc, hf⟩ := bcell hS; go_simp; first | exact ⟨rfl, Below.refl _ _⟩ | (refine ⟨?_, Below.refl _ _⟩; rfl))); (try go_simp))
  (refine Rl.textR_run ?_ (fun ρ => ?_) (fun ρ W hS hd => ?_) ?_; rotate_left; (focus go_simp); (focus (have hfact := cell_of_block (o := 5) (HX.out W hS) rfl; go_simp; first | exact ⟨rfl, Below.refl _ _⟩ | (refine ⟨?_, Below.refl _ _⟩; rfl))); (try go_simp))
  iterate 4 (refine Rl.textR_run ?_ (fun ρ => ?_) (fun ρ W hS hd => ?_) ?_; rotate_left; (focus go_simp); (focus (obtain ⟨hc, hf⟩ := bcell hS; go_simp; first | exact ⟨rfl, Below.refl _ _⟩ | (refine ⟨?_, Below.refl _ _⟩; rfl))); (try go_simp))
  refine Rl.textR_rel 31 (fun v w => TxtAt w v (bytesF f)) rfl (fun v w w' hg h => h.below hg) (fun ρ => ?_) (fun ρ W hS hd => ?_) ?_
  · go_simp
  · go_simp
    refine (HPF.out W hS).mono ?_
    rintro e w1 ⟨a, m, k, rfl, ho, hb⟩
    exact ⟨_, rfl, ho.at, hb⟩
  (try go_simp)
  refine Rl.textR_run (.string sz) (fun ρ => ?_) (fun ρ W hS hd => ?_) ?_
  · go_simp
  · have hcv := txt_conv (hd (31, fun v w => TxtAt w v (bytesF f)) (by first | exact List.mem_cons_self | (simp; done)) (show (31 : Nat) ∈ _ by decide)) W (Below.refl _ _)
    rw [← HSZ.out] at hcv
    simp only at hcv
    go_simp
    first | exact ⟨rfl, Below.refl _ _⟩ | exact Below.refl _ _
  (try go_simp)
  (refine Rl.textR_run ?_ (fun ρ => ?_) (fun ρ W hS hd => ?_) ?_; rotate_left; (focus go_simp); (focus (have hfact0 := cell_of_block (o := 0) (HX.out W hS) rfl; have hfact1 := cell_of_block (o := 1) (HX.out W hS) rfl; have hfact2 := cell_of_block (o := 2) (HX.out W hS) rfl; have hfact3 := cell_of_block (o := 3) (HX.out W hS) rfl; have hfact4 := cell_of_block (o := 4) (HX.out W hS) rfl; have hfact5 := cell_of_block (o := 5) (HX.out W hS) rfl; go_simp; first | exact ⟨rfl, Below.refl _ _⟩ | (refine ⟨?_, Below.refl _ _⟩; rfl))); (try go_simp))
  (refine Rl.textR_run ?_ (fun ρ => ?_) (fun ρ W hS hd => ?_) ?_; rotate_left; (focus go_simp); (focus (obtain ⟨hc, hf⟩ := bcell hS; go_simp; refine (HPT.out W hS).mono ?_; rintro e w1 ⟨rfl, hb⟩; refine ⟨_, rfl, ?_, hb⟩; rfl)); (try go_simp))
  iterate 2 (refine Rl.textR_run ?_ (fun ρ => ?_) (fun ρ W hS hd => ?_) ?_; rotate_left; (focus go_simp); (focus (obtain ⟨hc, hf⟩ := bcell hS; go_simp; first | exact ⟨rfl, Below.refl _ _⟩ | (refine ⟨?_, Below.refl _ _⟩; rfl))); (try go_simp))
  refine Rl.textR_nil ?_
  intro ρ wA hgA hkA
  dsimp only
  have HGA := Lib.hid hgA
  clear hgA hkA
  go_simp
  go_wp2_with fail
  go_loopw [5] (fun i wr => Below W.heap.size W wr ∧ ∃ s : Int, -1 ≤ s ∧ s ≤ 6 ∧ i = .int .i64 s) (fun i _ => (6 - intOf i).toNat)
  case atStart => exact ⟨HGA.out, -1, by decide, by decide, rfl⟩
  case round =>
    obtain ⟨hbw, s, hs1, hs2, rfl⟩ := hrel
    have G0 := Lib.hid hbw
    clear hbw HGA
    by_cases hlt : s < 6
    · have hd : decide (s < 6) = true := decide_eq_true hlt
      have hw1 : IntKind.i64.wrap (s + 1) = s + 1 := by rw [IntKind.wrap_i64]; omega
      have KI := Lib.hid (fun X (hX : Below W.heap.size W X) => HIF.out X hX s)
      have KI9 := Lib.hid (fun X (hX : Below W.heap.size W X) => HIN.out X hX s)
      generalize nv (inF f s) = vi at *
      go_upto_region 6 with fail
      refine Rl.wp_region_rel (fun a b => Below a.heap.size a b) wr (fun a b c h h' => below_next h h') (fun a => Below.refl _ _) hmx (by kernel_rfl) (Below.refl _ _).drew ?_
      iterate 2 (refine Rl.textR_run ?_ (fun ρ => ?_) (fun ρ W hS hd => ?_) ?_; rotate_left; (focus go_simp); (focus (obtain ⟨hc, hf⟩ := bcell hS; go_simp; first | exact ⟨rfl, Below.refl _ _⟩ | (refine ⟨?_, Below.refl _ _⟩; rfl))); (try go_simp))
      (refine Rl.textR_run ?_ (fun ρ => ?_) (fun ρ W hS hd => ?_) ?_; rotate_left; (focus go_simp); (focus (obtain ⟨hc, hf⟩ := bcell hS; go_simp; refine (KI.out W (below_next G0.out hS)).mono ?_; rintro e w1 ⟨rfl, hb⟩; refine ⟨_, rfl, ?_, hb⟩; rfl)); (try go_simp))
      (refine Rl.textR_run ?_ (fun ρ => ?_) (fun ρ W hS hd => ?_) ?_; rotate_left; (focus go_simp); (focus (have hfact0 := cell_of_block (o := 0) (HX.out W (below_next G0.out hS)) rfl; have hfact1 := cell_of_block (o := 1) (HX.out W (below_next G0.out hS)) rfl; have hfact2 := cell_of_block (o := 2) (HX.out W (below_next G0.out hS)) rfl; have hfact3 := cell_of_block (o := 3) (HX.out W (below_next G0.out hS)) rfl; have hfact4 := cell_of_block (o := 4) (HX.out W (below_next G0.out hS)) rfl; have hfact5 := cell_of_block (o := 5) (HX.out W (below_next G0.out hS)) rfl; go_simp; first | exact ⟨rfl, Below.refl _ _⟩ | (refine ⟨?_, Below.refl _ _⟩; rfl))); (try go_simp))
      iterate 1 (refine Rl.textR_run ?_ (fun ρ => ?_) (fun ρ W hS hd => ?_) ?_; rotate_left; (focus go_simp); (focus (obtain ⟨hc, hf⟩ := bcell hS; go_simp; first | exact ⟨rfl, Below.refl _ _⟩ | (refine ⟨?_, Below.refl _ _⟩; rfl))); (try go_simp))
      (refine Rl.textR_run ?_ (fun ρ => ?_) (fun ρ W hS hd => ?_) ?_; rotate_left; (focus go_simp); (focus (obtain ⟨hc, hf⟩ := bcell hS; go_simp; refine (KI9.out W (below_next G0.out hS)).mono ?_; rintro e w1 ⟨rfl, hb⟩; refine ⟨_, rfl, ?_, hb⟩; rfl)); (try go_simp))
      iterate 1 (refine Rl.textR_run ?_ (fun ρ => ?_) (fun ρ W hS hd => ?_) ?_; rotate_left; (focus go_simp); (focus (obtain ⟨hc, hf⟩ := bcell hS; go_simp; first | exact ⟨rfl, Below.refl _ _⟩ | (refine ⟨?_, Below.refl _ _⟩; rfl))); (try go_simp))
      refine Rl.textR_nil ?_
      intro ρ wB hgB hkB
      dsimp only
      have HGB := Lib.hid (below_next G0.out hgB)
      clear hgB hkB
      go_simp
      go_wp2_with fail
      go_roundw
      case rel => exact ⟨HGB.out, s + 1, by omega, by omega, by go_num⟩
      case measure => simp [intOf]; omega
    · obtain rfl : s = 6 := by omega
      go_wp2_with fail
      go_loopw [6] (fun i wr2 => Below W.heap.size W wr2 ∧ ∃ k : Nat, k ≤ n ∧ i = .int .i64 k) (fun i _ => n - (intOf i).toNat)
      case atStart => exact ⟨G0.out, 0, Nat.zero_le _, rfl⟩
      case round =>
        obtain ⟨hbw, k, hk, rfl⟩ := hrel
        have G1 := Lib.hid hbw
        clear hbw
        have b0 := cell_of_block (o := 0) (HX.out _ G1.out) rfl
        by_cases hlt : k < n
        · have hd : decide (k < n) = true := decide_eq_true hlt
          have hd2 : decide ((k : Int) < (n : Int)) = true := decide_eq_true (by omega)
          have hkI : (k : Int) < (n : Int) := by omega
          have hkn : k < f.ns.length := by rw [← HN.out]; exact hlt
          have hw1 : IntKind.i64.wrap ((k : Int) + 1) = (k : Int) + 1 := by have := HLN.out; rw [IntKind.wrap_i64]; omega
          have KN := Lib.hid (HND.out _ G1.out k hkn)
          have HC := Lib.hid (fun X hX => HRC.out X hX k hkn)
          clear hkn
          generalize f.ns.getD k (0, 0, 0) = nd at *
          obtain ⟨t, m, b⟩ := nd
          unfold nodeA at KN
          dsimp only at KN HC
          go_wp2_with fail
          refine KN.out.mono ?_
          rintro e wx ⟨rfl, hbx⟩
          have GX := Lib.hid (below_next G1.out hbx)
          clear hbx KN b0
          have q := World.alloc_heap_new wx (.cells #[.int .i64 t, .int .i64 m, .int .i64 b] 62)
          have hB2 := below_next GX.out (below_alloc (Below.refl _ wx) (.cells #[.int .i64 t, .int .i64 m, .int .i64 b] 62))
          have G2 := Lib.hid hB2
          have d0 := cell_of_block (o := 0) q rfl
          have d1 := cell_of_block (o := 1) q rfl
          have d2 := cell_of_block (o := 2) q rfl
          clear q hB2
          obtain ⟨n0, n1, n2⟩ := HC.out _ G2.out
          have b0 := cell_of_block (o := 0) (HX.out _ G2.out) rfl
          go_upto_region 12 with fail
          generalize wx.alloc (.cells #[.int .i64 t, .int .i64 m, .int .i64 b] 62) = wy at *
          generalize wx.heap.size = qb at *
          refine Rl.wp_region_rel (fun a b => Below a.heap.size a b) wy (fun a b c h h' => below_next h h') (fun a => Below.refl _ _) hmx (by kernel_rfl) (Below.refl _ _).drew ?_
          have D0 := Lib.hid d0
          have D1 := Lib.hid d1
          have D2 := Lib.hid d2
          clear d0 d1 d2 b0 n0 n1 n2
          iterate 3 (refine Rl.textR_run ?_ (fun ρ => ?_) (fun ρ W hS hd => ?_) ?_; rotate_left; (focus go_simp); (focus (obtain ⟨hc, hf⟩ := bcell hS; go_simp; first | exact ⟨rfl, Below.refl _ _⟩ | (refine ⟨?_, Below.refl _ _⟩; rfl))); (try go_simp))
          iterate 1 (refine Rl.textR_run ?_ (fun ρ => ?_) (fun ρ W hS hd => ?_) ?_; rotate_left; (focus go_simp); (focus (obtain ⟨hc, hf⟩ := bcell hS; go_simp; first | exact ⟨rfl, Below.refl _ _⟩ | (refine ⟨?_, Below.refl _ _⟩; rfl))); (try go_simp))
          (refine Rl.textR_run ?_ (fun ρ => ?_) (fun ρ W hS hd => ?_) ?_; rotate_left; (focus go_simp); (focus (have hfact := (hS.cell (p := ⟨qb, 0, none⟩) (World.block_lt_of_cell? wy _ D0.out)).trans D0.out; go_simp; first | exact ⟨rfl, Below.refl _ _⟩ | (refine ⟨?_, Below.refl _ _⟩; rfl))); (try go_simp))
          iterate 1 (refine Rl.textR_run ?_ (fun ρ => ?_) (fun ρ W hS hd => ?_) ?_; rotate_left; (focus go_simp); (focus (obtain ⟨hc, hf⟩ := bcell hS; go_simp; first | exact ⟨rfl, Below.refl _ _⟩ | (refine ⟨?_, Below.refl _ _⟩; rfl))); (try go_simp))
          (refine Rl.textR_run ?_ (fun ρ => ?_) (fun ρ W hS hd => ?_) ?_; rotate_left; (focus go_simp); (focus (have hfact := cell_of_block (o := 0) (HX.out W (below_next G2.out hS)) rfl; go_simp; first | exact ⟨rfl, Below.refl _ _⟩ | (refine ⟨?_, Below.refl _ _⟩; rfl))); (try go_simp))
          iterate 1 (refine Rl.textR_run ?_ (fun ρ => ?_) (fun ρ W hS hd => ?_) ?_; rotate_left; (focus go_simp); (focus (obtain ⟨hc, hf⟩ := bcell hS; go_simp; first | exact ⟨rfl, Below.refl _ _⟩ | (refine ⟨?_, Below.refl _ _⟩; rfl))); (try go_simp))
          (refine Rl.textR_run ?_ (fun ρ => ?_) (fun ρ W hS hd => ?_) ?_; rotate_left; (focus go_simp); (focus (obtain ⟨hc, hf⟩ := bcell hS; go_simp; first | exact ⟨rfl, Below.refl _ _⟩ | (refine ⟨?_, Below.refl _ _⟩; rfl))); (try go_simp))
          iterate 1 (refine Rl.textR_run ?_ (fun ρ => ?_) (fun ρ W hS hd => ?_) ?_; rotate_left; (focus go_simp); (focus (obtain ⟨hc, hf⟩ := bcell hS; go_simp; first | exact ⟨rfl, Below.refl _ _⟩ | (refine ⟨?_, Below.refl _ _⟩; rfl))); (try go_simp))
          (refine Rl.textR_run ?_ (fun ρ => ?_) (fun ρ W hS hd => ?_) ?_; rotate_left; (focus go_simp); (focus (have hfact := (HC.out W (below_next G2.out hS)).1; go_simp; first | exact ⟨rfl, Below.refl _ _⟩ | (refine ⟨?_, Below.refl _ _⟩; rfl))); (try go_simp))
          iterate 3 (refine Rl.textR_run ?_ (fun ρ => ?_) (fun ρ W hS hd => ?_) ?_; rotate_left; (focus go_simp); (focus (obtain ⟨hc, hf⟩ := bcell hS; go_simp; first | exact ⟨rfl, Below.refl _ _⟩ | (refine ⟨?_, Below.refl _ _⟩; rfl))); (try go_simp))
          iterate 1 (refine Rl.textR_run ?_ (fun ρ => ?_) (fun ρ W hS hd => ?_) ?_; rotate_left; (focus go_simp); (focus (obtain ⟨hc, hf⟩ := bcell hS; go_simp; first | exact ⟨rfl, Below.refl _ _⟩ | (refine ⟨?_, Below.refl _ _⟩; rfl))); (try go_simp))
          (refine Rl.textR_run ?_ (fun ρ => ?_) (fun ρ W hS hd => ?_) ?_; rotate_left; (focus go_simp); (focus (have hfact := (hS.cell (p := ⟨qb, 1, none⟩) (World.block_lt_of_cell? wy _ D1.out)).trans D1.out; go_simp; first | exact ⟨rfl, Below.refl _ _⟩ | (refine ⟨?_, Below.refl _ _⟩; rfl))); (try go_simp))
          iterate 1 (refine Rl.textR_run ?_ (fun ρ => ?_) (fun ρ W hS hd => ?_) ?_; rotate_left; (focus go_simp); (focus (obtain ⟨hc, hf⟩ := bcell hS; go_simp; first | exact ⟨rfl, Below.refl _ _⟩ | (refine ⟨?_, Below.refl _ _⟩; rfl))); (try go_simp))
          (refine Rl.textR_run ?_ (fun ρ => ?_) (fun ρ W hS hd => ?_) ?_; rotate_left; (focus go_simp); (focus (have hfact := cell_of_block (o := 0) (HX.out W (below_next G2.out hS)) rfl; go_simp; first | exact ⟨rfl, Below.refl _ _⟩ | (refine ⟨?_, Below.refl _ _⟩; rfl))); (try go_simp))
          iterate 1 (refine Rl.textR_run ?_ (fun ρ => ?_) (fun ρ W hS hd => ?_) ?_; rotate_left; (focus go_simp); (focus (obtain ⟨hc, hf⟩ := bcell hS; go_simp; first | exact ⟨rfl, Below.refl _ _⟩ | (refine ⟨?_, Below.refl _ _⟩; rfl))); (try go_simp))
          (refine Rl.textR_run ?_ (fun ρ => ?_) (fun ρ W hS hd => ?_) ?_; rotate_left; (focus go_simp); (focus (obtain ⟨hc, hf⟩ := bcell hS; go_simp; first | exact ⟨rfl, Below.refl _ _⟩ | (refine ⟨?_, Below.refl _ _⟩; rfl))); (try go_simp))
          iterate 1 (refine Rl.textR_run ?_ (fun ρ => ?_) (fun ρ W hS hd => ?_) ?_; rotate_left; (focus go_simp); (focus (obtain ⟨hc, hf⟩ := bcell hS; go_simp; first | exact ⟨rfl, Below.refl _ _⟩ | (refine ⟨?_, Below.refl _ _⟩; rfl))); (try go_simp))
          (refine Rl.textR_run ?_ (fun ρ => ?_) (fun ρ W hS hd => ?_) ?_; rotate_left; (focus go_simp); (focus (have hfact := (HC.out W (below_next G2.out hS)).2.1; go_simp; first | exact ⟨rfl, Below.refl _ _⟩ | (refine ⟨?_, Below.refl _ _⟩; rfl))); (try go_simp))
          iterate 3 (refine Rl.textR_run ?_ (fun ρ => ?_) (fun ρ W hS hd => ?_) ?_; rotate_left; (focus go_simp); (focus (obtain ⟨hc, hf⟩ := bcell hS; go_simp; first | exact ⟨rfl, Below.refl _ _⟩ | (refine ⟨?_, Below.refl _ _⟩; rfl))); (try go_simp))
          iterate 1 (refine Rl.textR_run ?_ (fun ρ => ?_) (fun ρ W hS hd => ?_) ?_; rotate_left; (focus go_simp); (focus (obtain ⟨hc, hf⟩ := bcell hS; go_simp; first | exact ⟨rfl, Below.refl _ _⟩ | (refine ⟨?_, Below.refl _ _⟩; rfl))); (try go_simp))
          (refine Rl.textR_run ?_ (fun ρ => ?_) (fun ρ W hS hd => ?_) ?_; rotate_left; (focus go_simp); (focus (have hfact := (hS.cell (p := ⟨qb, 2, none⟩) (World.block_lt_of_cell? wy _ D2.out)).trans D2.out; go_simp; first | exact ⟨rfl, Below.refl _ _⟩ | (refine ⟨?_, Below.refl _ _⟩; rfl))); (try go_simp))
          iterate 1 (refine Rl.textR_run ?_ (fun ρ => ?_) (fun ρ W hS hd => ?_) ?_; rotate_left; (focus go_simp); (focus (obtain ⟨hc, hf⟩ := bcell hS; go_simp; first | exact ⟨rfl, Below.refl _ _⟩ | (refine ⟨?_, Below.refl _ _⟩; rfl))); (try go_simp))
          (refine Rl.textR_run ?_ (fun ρ => ?_) (fun ρ W hS hd => ?_) ?_; rotate_left; (focus go_simp); (focus (have hfact := cell_of_block (o := 0) (HX.out W (below_next G2.out hS)) rfl; go_simp; first | exact ⟨rfl, Below.refl _ _⟩ | (refine ⟨?_, Below.refl _ _⟩; rfl))); (try go_simp))
          iterate 1 (refine Rl.textR_run ?_ (fun ρ => ?_) (fun ρ W hS hd => ?_) ?_; rotate_left; (focus go_simp); (focus (obtain ⟨hc, hf⟩ := bcell hS; go_simp; first | exact ⟨rfl, Below.refl _ _⟩ | (refine ⟨?_, Below.refl _ _⟩; rfl))); (try go_simp))
          (refine Rl.textR_run ?_ (fun ρ => ?_) (fun ρ W hS hd => ?_) ?_; rotate_left; (focus go_simp); (focus (obtain ⟨hc, hf⟩ := bcell hS; go_simp; first | exact ⟨rfl, Below.refl _ _⟩ | (refine ⟨?_, Below.refl _ _⟩; rfl))); (try go_simp))
          iterate 1 (refine Rl.textR_run ?_ (fun ρ => ?_) (fun ρ W hS hd => ?_) ?_; rotate_left; (focus go_simp); (focus (obtain ⟨hc, hf⟩ := bcell hS; go_simp; first | exact ⟨rfl, Below.refl _ _⟩ | (refine ⟨?_, Below.refl _ _⟩; rfl))); (try go_simp))
          (refine Rl.textR_run ?_ (fun ρ => ?_) (fun ρ W hS hd => ?_) ?_; rotate_left; (focus go_simp); (focus (have hfact := (HC.out W (below_next G2.out hS)).2.2; go_simp; first | exact ⟨rfl, Below.refl _ _⟩ | (refine ⟨?_, Below.refl _ _⟩; rfl))); (try go_simp))
          iterate 2 (refine Rl.textR_run ?_ (fun ρ => ?_) (fun ρ W hS hd => ?_) ?_; rotate_left; (focus go_simp); (focus (obtain ⟨hc, hf⟩ := bcell hS; go_simp; first | exact ⟨rfl, Below.refl _ _⟩ | (refine ⟨?_, Below.refl _ _⟩; rfl))); (try go_simp))
          refine Rl.textR_nil ?_
          intro ρ wB hgB hkB
          dsimp only
          have G3 := Lib.hid (below_next G2.out hgB)
          clear hgB hkB
          go_simp
          go_wp2_with fail
          go_roundw
          case rel => exact ⟨G3.out, k + 1, by omega, by go_num⟩
          case measure => simp [intOf]; omega
        · obtain rfl : k = n := by omega
          have hd : decide (k < k) = false := decide_eq_false (by omega)
          have hd2 : decide ((k : Int) < (k : Int)) = false := decide_eq_false (by omega)
          have HBE := Lib.hid (below_next HA.out G1.out)
          go_wp2_with fail
          go_ret
          exact ⟨rfl, HBE.out⟩
end Go.Proofs.YtnofgffkfapodaaDoor
