/- A job read from bytes (layer 15): Read walked at any bytes. No condition but the lengths' bound, and the door's type of errors. -/
import Derived.Test.YtgeldpfojmkdbaaDoorJh
import Derived.Test.YtgeldpfojmkdbaaDoorHeld
namespace Go.Proofs.YtgeldpfojmkdbaaDoor
set_option linter.unusedVariables false
open Go.ChangeShapes Go.WideShapes Go.ChangeAt Go.RowKit
attribute [local go_sem ↓] Go.wp_at_zero Go.wp_at_succ comesTo_value_eq comesTo_skip_eq comesTo_enter_eq Rl.comesToR_value_eq Rl.comesToR_skip_eq Rl.comesToR_enter_eq

/-- a number as a set -/
def setOf (x : Int) : NSet := BitVec.ofInt 64 x
theorem nv_setOf (x : Int) : nv (setOf x) = IntKind.u64.wrap x := by
  unfold nv setOf
  rw [BitVec.toNat_ofInt, IntKind.wrap_u64]
  omega
/-- what is read: what is left, and a job -/
def readJ (bs : List Int) : CS × JobV :=
  let a0 := intF ⟨bs, 0⟩
  let a1 := intF a0.1
  let a2 := intF a1.1
  let a3 := intF a2.1
  let a4 := intF a3.1
  let a5 := intF a4.1
  let a6 := intF a5.1
  let a7 := smallF a6.1 1
  let a8 := intF a7.1
  let a9 := intF a8.1
  let a10 := intF a9.1
  let a11 := intF a10.1
  let a12 := intF a11.1
  let a13 := intF a12.1
  let a14 := intF a13.1
  let a15 := intF a14.1
  let a16 := intF a15.1
  (a16.1, ⟨a0.2, a1.2, a2.2, a3.2, a4.2, a5.2, a6.2, a7.2 == 1, a8.2, a9.2, a10.2, a11.2, a12.2, setOf a13.2, setOf a14.2, a15.2, a16.2⟩)
def okJ (bs : List Int) : Bool := ((readJ bs).1.bad == 0) && rightB (readJ bs).2
def gotJ (bs : List Int) : JobV := if okJ bs then (readJ bs).2 else job0
def cntJ (bs : List Int) : Int := if okJ bs then (bs.length : Int) - ((readJ bs).1.xs.length : Int) else 0
def codeJ (bs : List Int) : Int := if okJ bs then 0 else 11
/-- a reading under way: the cursor, the result's box, the pointer's, the job's -/
structure RdS (w W : World) (C P Q : Nat) (st : CS) (l : List Value) : Prop where
  cur : Cur W C (fun b => w.heap.size + 1 ≤ b ∧ b < P) st
  res : W.heap[w.heap.size]? = some (.cells #[.int .i64 0, .int .i64 0, .int .i64 0, .int .i64 0, .int .i64 0, .int .i64 0, .int .i64 0, .bool false, .int .i64 0, .int .i64 0, .int .i64 0, .int .i64 0, .int .i64 0, .int .u64 0, .int .u64 0, .int .i64 0, .int .i64 0] 26 (0, 0))
  ptr : W.heap[P]? = some (.cells #[.pointer (some ⟨C, 0, none⟩)] 50 (0, 0))
  job : W.heap[Q]? = some (.cells l.toArray 26 (0, 0))
  bel : Below w.heap.size w W
  hi : P < Q
theorem RdS.fr {w W W' : World} {C P Q : Nat} {st st' : CS} {l : List Value} (h : RdS w W C P Q st l) (hf : Fr (fun j => j = C) W W') (hc : Cur W' C (fun b => w.heap.size + 1 ≤ b ∧ b < P) st') : RdS w W' C P Q st' l := by
  have hm := h.cur.mem
  have h1 := (Array.getElem?_eq_some_iff.1 h.res).1
  have h2 := (Array.getElem?_eq_some_iff.1 h.ptr).1
  have h3 := (Array.getElem?_eq_some_iff.1 h.job).1
  have h4 := h.hi
  exact ⟨hc, (hf.block _ h1 (by omega)).trans h.res, (hf.block _ h2 (by omega)).trans h.ptr, (hf.block _ h3 (by omega)).trans h.job, h.bel.trans (hf.below h.bel.size fun b hb => by subst hb; omega), h.hi⟩
theorem RdS.below {w W W' : World} {C P Q : Nat} {st : CS} {l : List Value} (h : RdS w W C P Q st l) (hb : Below W.heap.size W W') : RdS w W' C P Q st l :=
  ⟨h.cur.below hb, (hb.block _ (Array.getElem?_eq_some_iff.1 h.res).1).trans h.res, (hb.block _ (Array.getElem?_eq_some_iff.1 h.ptr).1).trans h.ptr, (hb.block _ (Array.getElem?_eq_some_iff.1 h.job).1).trans h.job, below_next h.bel hb, h.hi⟩
theorem RdS.set {w W : World} {C P Q : Nat} {st : CS} {l : List Value} (h : RdS w W C P Q st l) (k : Nat) (v : Value) : RdS w (W.setCell ⟨Q, k, none⟩ v) C P Q st (l.set k v) := by
  have hw := (wrote_refl h.job).set k v
  have hm := h.cur.mem
  have h4 := h.hi
  refine ⟨Fr.cur (G := fun b => b = Q) h.cur ((Fr.refl (fun b => b = Q) W).set (show (fun b => b = Q) Q from rfl) _ _) (fun b hb _ he => by have := hb.2; omega), (hw.rest _ (by omega)).trans h.res, (hw.rest _ (by omega)).trans h.ptr, ?_, hw.below h.bel (by omega), h.hi⟩
  have := hw.there
  rwa [List.setIfInBounds_toArray] at this
set_option maxRecDepth 100000 in
set_option maxHeartbeats 4000000 in
theorem num_rds {w W : World} {C P Q : Nat} {st st' : CS} {x : Int} {l : List Value} (h : RdS w W C P Q st l) (e : intF st = (st', x)) : Calls Tryd.prog 19 #[.pointer (some ⟨P, 0, none⟩)] W fun r w' => r = .returned (.int .i64 x) ∧ RdS w w' C P Q st' l := by
  have K := Lib.hid (int_cur h.cur)
  rw [e] at K
  have c0 := cell_of_block (o := 0) h.ptr rfl
  have HS := Lib.hid h
  clear h
  go_enter Tryd.func19, Tryd.ntmps19
  go_wp2_with (go_at_call 20; ((with_reducible refine K.out.mono ?_)); rintro r w' ⟨rfl, hc, hf⟩)
  go_ret
  exact ⟨rfl, HS.out.fr hf hc⟩
set_option maxRecDepth 100000 in
set_option maxHeartbeats 4000000 in
theorem mom_rds {w W : World} {C P Q : Nat} {st st' : CS} {x : Int} {l : List Value} (h : RdS w W C P Q st l) (e : intF st = (st', x)) : Calls Tryd.prog 21 #[.pointer (some ⟨P, 0, none⟩)] W fun r w' => r = .returned (.int .i64 x) ∧ RdS w w' C P Q st' l := by
  have K := Lib.hid (int_cur h.cur)
  rw [e] at K
  have c0 := cell_of_block (o := 0) h.ptr rfl
  have HS := Lib.hid h
  clear h
  go_enter Tryd.func21, Tryd.ntmps21
  go_wp2_with (go_at_call 20; ((with_reducible refine K.out.mono ?_)); rintro r w' ⟨rfl, hc, hf⟩)
  go_ret
  exact ⟨rfl, HS.out.fr hf hc⟩
theorem int_rds {w W : World} {C P Q : Nat} {st st' : CS} {x : Int} {l : List Value} (h : RdS w W C P Q st l) (e : intF st = (st', x)) : Calls Tryd.prog 20 #[.pointer (some ⟨C, 0, none⟩)] W fun r w' => r = .returned (.int .i64 x) ∧ RdS w w' C P Q st' l := by
  have K := int_cur h.cur
  rw [e] at K
  exact K.mono fun r w' ⟨h1, hc, hf⟩ => ⟨h1, h.fr hf hc⟩
theorem small_rds {w W : World} {C P Q : Nat} {st st' : CS} {x : Int} {l : List Value} (h : RdS w W C P Q st l) (e : smallF st 1 = (st', x)) : Calls Tryd.prog 22 #[.pointer (some ⟨C, 0, none⟩), .int .i64 1] W fun r w' => r = .returned (.int .i64 x) ∧ RdS w w' C P Q st' l := by
  have K := small_cur h.cur 1
  rw [e] at K
  exact K.mono fun r w' ⟨h1, hc, hf⟩ => ⟨h1, h.fr hf hc⟩
theorem comesTo_load_all {P : Program} {o : Oper} {a : Act} {W : World} {S : World → Prop} (ty : TypeId) (x : Operand) (ho : o.op = .load ty x) (b : Nat) {T : TypeId} (hx : a.eval x = .pointer (some ⟨b, 0, none⟩)) (l : List Value) (d : TypeDesc)
    (hb : W.heap[b]? = some (.cells l.toArray T (0, 0))) (hu : P.underlying ty = some d) (hd : d.isRow = true) (hi : (P.info? ty).map (·.size) = some l.length) (h : S W) : comesTo P S (.agg l.toArray) ((execOp a.eval o).run P W) := by
  unfold execOp
  simp only [ho, hx, Instr.loadAt, Instr.sureAddr, Sem.run_bind, Sem.run_pure, Result.andThen_ok, run_loadVar_mid W b 0 ty l d (range_of_block hb) hu hd hi]
  exact ⟨rfl, h⟩
theorem exec_store_all {P : Program} {op : Oper} {ρ : Operand → Value} {w : World} (ty : TypeId) (x y : Operand) (ho : op.op = .store ty x y) (b : Nat) {T : TypeId} {cs : Array Value} (l : List Value) (hx : ρ x = .pointer (some ⟨b, 0, none⟩)) (hy : ρ y = .agg l.toArray)
    (hb : w.heap[b]? = some (.cells cs T (0, 0))) (hl : l.length = cs.size) (hi : (P.info? ty).map (·.size) = some l.length) (h1 : l.all (·.oneCell') = true) : (execOp ρ op).run P w = .ok .skip (w.setCells b 0 l) := by
  unfold execOp
  simp only [ho, hx, hy, Instr.storeAt, Instr.sureAddr, Sem.run_bind, Sem.run_pure, Result.andThen_ok, run_storeVar_mid w b 0 ty l.toArray (there_of_block hb (by simp; omega)) (by simpa using hi) (by simpa using h1)]
theorem results_all3 {P : Program} {w : World} {fn : Func} {p q r : Tmp} {ty T : TypeId} {tmps : Array Value} {b : Nat} (l : List Value) (d : TypeDesc) (h : fn.results = #[.cell p ty, .tmp q, .tmp r]) (hp : tmps.getD p undef = .pointer (some ⟨b, 0, none⟩)) (hb : w.heap[b]? = some (.cells l.toArray T (0, 0)))
    (hu : P.underlying ty = some d) (hd : d.isRow = true) (hi : (P.info? ty).map (·.size) = some l.length) : (results fn tmps).run P w = .ok (.tuple #[.agg l.toArray, tmps.getD q undef, tmps.getD r undef]) w := by
  have hp' : tmps[p]?.getD undef = .pointer (some ⟨b, 0, none⟩) := by simpa using hp
  simp [results, h, hp', asAddr, run_loadVar_mid w b 0 ty l d (range_of_block hb) hu hd hi]
set_option maxRecDepth 100000 in
set_option maxHeartbeats 4000000 in
theorem jread_any {ad : Option Addr} {n c : Nat} {bs : List Int} {w : World} (ht : TxtAt w (.slice ad n c) bs) (hl : bs.length ≤ 1099511627775) (hE : ErrAt w) : Calls Tryd.prog 5 #[.slice ad n c] w fun e w' => e = .returned (.tuple #[.agg (jobC (gotJ bs)).toArray, .int .i64 (cntJ bs), .int .i64 (codeJ bs)]) ∧ Below w.heap.size w w' := by
  have hmx : Tryd.prog.follows .mixedOrders = true := by kernel_rfl
  have HN := Lib.hid ht.form.1
  have HLB := Lib.hid hl
  have hA0 := below_alloc (Below.refl _ w) (.cells #[.int .i64 0, .int .i64 0, .int .i64 0, .int .i64 0, .int .i64 0, .int .i64 0, .int .i64 0, .bool false, .int .i64 0, .int .i64 0, .int .i64 0, .int .i64 0, .int .i64 0, .int .u64 0, .int .u64 0, .int .i64 0, .int .i64 0] 26)
  obtain ⟨s1, x0, e0⟩ : ∃ s x, intF (⟨bs, 0⟩ : CS) = (s, x) := ⟨_, _, rfl⟩
  obtain ⟨s2, x1, e1⟩ : ∃ s x, intF s1 = (s, x) := ⟨_, _, rfl⟩
  obtain ⟨s3, x2, e2⟩ : ∃ s x, intF s2 = (s, x) := ⟨_, _, rfl⟩
  obtain ⟨s4, x3, e3⟩ : ∃ s x, intF s3 = (s, x) := ⟨_, _, rfl⟩
  obtain ⟨s5, x4, e4⟩ : ∃ s x, intF s4 = (s, x) := ⟨_, _, rfl⟩
  obtain ⟨s6, x5, e5⟩ : ∃ s x, intF s5 = (s, x) := ⟨_, _, rfl⟩
  obtain ⟨s7, x6, e6⟩ : ∃ s x, intF s6 = (s, x) := ⟨_, _, rfl⟩
  obtain ⟨s8, x7, e7⟩ : ∃ s x, smallF s7 1 = (s, x) := ⟨_, _, rfl⟩
  obtain ⟨s9, x8, e8⟩ : ∃ s x, intF s8 = (s, x) := ⟨_, _, rfl⟩
  obtain ⟨s10, x9, e9⟩ : ∃ s x, intF s9 = (s, x) := ⟨_, _, rfl⟩
  obtain ⟨s11, x10, e10⟩ : ∃ s x, intF s10 = (s, x) := ⟨_, _, rfl⟩
  obtain ⟨s12, x11, e11⟩ : ∃ s x, intF s11 = (s, x) := ⟨_, _, rfl⟩
  obtain ⟨s13, x12, e12⟩ : ∃ s x, intF s12 = (s, x) := ⟨_, _, rfl⟩
  obtain ⟨s14, x13, e13⟩ : ∃ s x, intF s13 = (s, x) := ⟨_, _, rfl⟩
  obtain ⟨s15, x14, e14⟩ : ∃ s x, intF s14 = (s, x) := ⟨_, _, rfl⟩
  obtain ⟨s16, x15, e15⟩ : ∃ s x, intF s15 = (s, x) := ⟨_, _, rfl⟩
  obtain ⟨s17, x16, e16⟩ : ∃ s x, intF s16 = (s, x) := ⟨_, _, rfl⟩
  have hrd : readJ bs = (s17, ⟨x0, x1, x2, x3, x4, x5, x6, x7 == 1, x8, x9, x10, x11, x12, setOf x13, setOf x14, x15, x16⟩) := by simp only [readJ, e0, e1, e2, e3, e4, e5, e6, e7, e8, e9, e10, e11, e12, e13, e14, e15, e16]
  have HRD := Lib.hid hrd
  clear hrd
  have E0 := Lib.hid e0
  have E1 := Lib.hid e1
  have E2 := Lib.hid e2
  have E3 := Lib.hid e3
  have E4 := Lib.hid e4
  have E5 := Lib.hid e5
  have E6 := Lib.hid e6
  have E7 := Lib.hid e7
  have E8 := Lib.hid e8
  have E9 := Lib.hid e9
  have E10 := Lib.hid e10
  have E11 := Lib.hid e11
  have E12 := Lib.hid e12
  have E13 := Lib.hid e13
  have E14 := Lib.hid e14
  have E15 := Lib.hid e15
  have E16 := Lib.hid e16
  clear e0 e1 e2 e3 e4 e5 e6 e7 e8 e9 e10 e11 e12 e13 e14 e15 e16
  go_enter Tryd.func5, Tryd.ntmps5
  go_upto_region 1 with fail
  have hR0 := World.alloc_heap_new w (.cells #[.int .i64 0, .int .i64 0, .int .i64 0, .int .i64 0, .int .i64 0, .int .i64 0, .int .i64 0, .bool false, .int .i64 0, .int .i64 0, .int .i64 0, .int .i64 0, .int .i64 0, .int .u64 0, .int .u64 0, .int .i64 0, .int .i64 0] 26)
  have hsU : (w.alloc (.cells #[.int .i64 0, .int .i64 0, .int .i64 0, .int .i64 0, .int .i64 0, .int .i64 0, .int .i64 0, .bool false, .int .i64 0, .int .i64 0, .int .i64 0, .int .i64 0, .int .i64 0, .int .u64 0, .int .u64 0, .int .i64 0, .int .i64 0] 26)).heap.size = w.heap.size + 1 := by simp
  generalize w.alloc (.cells #[.int .i64 0, .int .i64 0, .int .i64 0, .int .i64 0, .int .i64 0, .int .i64 0, .int .i64 0, .bool false, .int .i64 0, .int .i64 0, .int .i64 0, .int .i64 0, .int .i64 0, .int .u64 0, .int .u64 0, .int .i64 0, .int .i64 0] 26) = U at *
  have KR := Lib.hid (read_cur (ht.below hA0) hl)
  have HSU := Lib.hid hsU
  have HA0 := Lib.hid hA0
  have HR0 := Lib.hid hR0
  have HE := Lib.hid hE
  clear ht hl hA0 hsU hR0 hE
  refine wp_region_lit ?_
  refine wpList_yield (w' := U) (v := .slice ad n c) rfl (by go_simp) ?_
  refine wpList_enter rfl (by go_simp) KR.out ?_
  rintro e w1 ⟨C, rfl, hc, hb⟩
  refine ⟨_, rfl, ?_⟩
  have HB1 := Lib.hid (below_next HA0.out hb)
  have HR1 := Lib.hid ((hb.block w.heap.size (by have := HSU.out; omega)).trans HR0.out)
  have HS1 := Lib.hid (show w.heap.size + 1 ≤ w1.heap.size by have := hb.size; have := HSU.out; omega)
  have HC1 := Lib.hid hc.tight
  clear hb hc KR HA0 HR0
  go_upto_region 5 with fail
  have hV : RdS w ((w1.alloc (.cells #[.pointer (some ⟨C, 0, none⟩)] 50)).alloc (.cells #[.int .i64 0, .int .i64 0, .int .i64 0, .int .i64 0, .int .i64 0, .int .i64 0, .int .i64 0, .bool false, .int .i64 0, .int .i64 0, .int .i64 0, .int .i64 0, .int .i64 0, .int .u64 0, .int .u64 0, .int .i64 0, .int .i64 0] 26)) C w1.heap.size (w1.heap.size + 1) ⟨bs, 0⟩ [.int .i64 0, .int .i64 0, .int .i64 0, .int .i64 0, .int .i64 0, .int .i64 0, .int .i64 0, .bool false, .int .i64 0, .int .i64 0, .int .i64 0, .int .i64 0, .int .i64 0, .int .u64 0, .int .u64 0, .int .i64 0, .int .i64 0] := by
    have a1 := below_alloc (Below.refl _ w1) (.cells #[.pointer (some ⟨C, 0, none⟩)] 50)
    have a2 := below_alloc (Below.refl _ (w1.alloc (.cells #[.pointer (some ⟨C, 0, none⟩)] 50))) (.cells #[.int .i64 0, .int .i64 0, .int .i64 0, .int .i64 0, .int .i64 0, .int .i64 0, .int .i64 0, .bool false, .int .i64 0, .int .i64 0, .int .i64 0, .int .i64 0, .int .i64 0, .int .u64 0, .int .u64 0, .int .i64 0, .int .i64 0] 26)
    have a := below_next a1 a2
    refine ⟨(HC1.out.below a).more (fun b hb => by have := HSU.out; omega), (a.block _ (by have := HS1.out; omega)).trans HR1.out, (a2.block _ (by simp)).trans (World.alloc_heap_new w1 _), ?_, below_next HB1.out a, by omega⟩
    have := World.alloc_heap_new (w1.alloc (.cells #[.pointer (some ⟨C, 0, none⟩)] 50)) (.cells #[.int .i64 0, .int .i64 0, .int .i64 0, .int .i64 0, .int .i64 0, .int .i64 0, .int .i64 0, .bool false, .int .i64 0, .int .i64 0, .int .i64 0, .int .i64 0, .int .i64 0, .int .u64 0, .int .u64 0, .int .i64 0, .int .i64 0] 26)
    rwa [show (w1.alloc (.cells #[.pointer (some ⟨C, 0, none⟩)] 50)).heap.size = w1.heap.size + 1 by simp] at this
  have HSa := Lib.hid hV
  have HE1 := Lib.hid HE.out
  clear hV HC1 HB1 HR1 HSU HS1 HE1
  generalize (w1.alloc (.cells #[.pointer (some ⟨C, 0, none⟩)] 50)).alloc (.cells #[.int .i64 0, .int .i64 0, .int .i64 0, .int .i64 0, .int .i64 0, .int .i64 0, .int .i64 0, .bool false, .int .i64 0, .int .i64 0, .int .i64 0, .int .i64 0, .int .i64 0, .int .u64 0, .int .u64 0, .int .i64 0, .int .i64 0] 26) = Wa at *
  generalize w1.heap.size = P at *
  refine wp_region_lit ?_
  refine wpList_yield (w' := Wa) (v := .func (.func 19) #[] #[.pointer (some ⟨P, 0, none⟩)]) rfl (by go_simp) ?_
  refine wpList_enter rfl (by go_simp) (num_rds HSa.out E0.out) ?_
  rintro e W2 ⟨rfl, hs⟩
  refine ⟨_, rfl, ?_⟩
  have HS2 := Lib.hid hs
  clear hs HSa
  refine wpList_yield (w' := W2) (v := .func (.func 19) #[] #[.pointer (some ⟨P, 0, none⟩)]) rfl (by go_simp) ?_
  refine wpList_enter rfl (by go_simp) (num_rds HS2.out E1.out) ?_
  rintro e W3 ⟨rfl, hs⟩
  refine ⟨_, rfl, ?_⟩
  have HS3 := Lib.hid hs
  clear hs HS2
  refine wpList_yield (w' := W3) (v := .func (.func 19) #[] #[.pointer (some ⟨P, 0, none⟩)]) rfl (by go_simp) ?_
  refine wpList_enter rfl (by go_simp) (num_rds HS3.out E2.out) ?_
  rintro e W4 ⟨rfl, hs⟩
  refine ⟨_, rfl, ?_⟩
  have HS4 := Lib.hid hs
  clear hs HS3
  refine wpList_yield (w' := W4) (v := .func (.func 19) #[] #[.pointer (some ⟨P, 0, none⟩)]) rfl (by go_simp) ?_
  refine wpList_enter rfl (by go_simp) (num_rds HS4.out E3.out) ?_
  rintro e W5 ⟨rfl, hs⟩
  refine ⟨_, rfl, ?_⟩
  have HS5 := Lib.hid hs
  clear hs HS4
  have c0 := cell_of_block (o := 0) HS5.out.job rfl
  have f0 := free_of_block 0 HS5.out.job
  have c1 := cell_of_block (o := 1) HS5.out.job rfl
  have f1 := free_of_block 1 HS5.out.job
  have c2 := cell_of_block (o := 2) HS5.out.job rfl
  have f2 := free_of_block 2 HS5.out.job
  have c3 := cell_of_block (o := 3) HS5.out.job rfl
  have f3 := free_of_block 3 HS5.out.job
  go_upto_region 6 with fail
  have HS6 := Lib.hid (show RdS w (((((W5).setCell ⟨P + 1, 0, none⟩ (.int .i64 x0)).setCell ⟨P + 1, 1, none⟩ (.int .i64 x1)).setCell ⟨P + 1, 2, none⟩ (.int .i64 x2)).setCell ⟨P + 1, 3, none⟩ (.int .i64 x3)) C P (P + 1) s4 [.int .i64 x0, .int .i64 x1, .int .i64 x2, .int .i64 x3, .int .i64 0, .int .i64 0, .int .i64 0, .bool false, .int .i64 0, .int .i64 0, .int .i64 0, .int .i64 0, .int .i64 0, .int .u64 0, .int .u64 0, .int .i64 0, .int .i64 0] from ((((HS5.out).set 0 (.int .i64 x0)).set 1 (.int .i64 x1)).set 2 (.int .i64 x2)).set 3 (.int .i64 x3))
  clear HS5 c0 f0 c1 f1 c2 f2 c3 f3
  generalize ((((W5).setCell ⟨P + 1, 0, none⟩ (.int .i64 x0)).setCell ⟨P + 1, 1, none⟩ (.int .i64 x1)).setCell ⟨P + 1, 2, none⟩ (.int .i64 x2)).setCell ⟨P + 1, 3, none⟩ (.int .i64 x3) = W6 at *
  refine wp_region_lit ?_
  refine wpList_yield (w' := W6) (v := .func (.func 21) #[] #[.pointer (some ⟨P, 0, none⟩)]) rfl (by go_simp) ?_
  refine wpList_enter rfl (by go_simp) (mom_rds HS6.out E4.out) ?_
  rintro e W7 ⟨rfl, hs⟩
  refine ⟨_, rfl, ?_⟩
  have HS7 := Lib.hid hs
  clear hs HS6
  refine wpList_yield (w' := W7) (v := .func (.func 19) #[] #[.pointer (some ⟨P, 0, none⟩)]) rfl (by go_simp) ?_
  refine wpList_enter rfl (by go_simp) (num_rds HS7.out E5.out) ?_
  rintro e W8 ⟨rfl, hs⟩
  refine ⟨_, rfl, ?_⟩
  have HS8 := Lib.hid hs
  clear hs HS7
  refine wpList_yield (w' := W8) (v := .func (.func 19) #[] #[.pointer (some ⟨P, 0, none⟩)]) rfl (by go_simp) ?_
  refine wpList_enter rfl (by go_simp) (num_rds HS8.out E6.out) ?_
  rintro e W9 ⟨rfl, hs⟩
  refine ⟨_, rfl, ?_⟩
  have HS9 := Lib.hid hs
  clear hs HS8
  have c4 := cell_of_block (o := 4) HS9.out.job rfl
  have f4 := free_of_block 4 HS9.out.job
  have c5 := cell_of_block (o := 5) HS9.out.job rfl
  have f5 := free_of_block 5 HS9.out.job
  have c6 := cell_of_block (o := 6) HS9.out.job rfl
  have f6 := free_of_block 6 HS9.out.job
  go_upto_region 7 with fail
  have HS10 := Lib.hid (show RdS w ((((W9).setCell ⟨P + 1, 4, none⟩ (.int .i64 x4)).setCell ⟨P + 1, 5, none⟩ (.int .i64 x5)).setCell ⟨P + 1, 6, none⟩ (.int .i64 x6)) C P (P + 1) s7 [.int .i64 x0, .int .i64 x1, .int .i64 x2, .int .i64 x3, .int .i64 x4, .int .i64 x5, .int .i64 x6, .bool false, .int .i64 0, .int .i64 0, .int .i64 0, .int .i64 0, .int .i64 0, .int .u64 0, .int .u64 0, .int .i64 0, .int .i64 0] from (((HS9.out).set 4 (.int .i64 x4)).set 5 (.int .i64 x5)).set 6 (.int .i64 x6))
  clear HS9 c4 f4 c5 f5 c6 f6
  generalize (((W9).setCell ⟨P + 1, 4, none⟩ (.int .i64 x4)).setCell ⟨P + 1, 5, none⟩ (.int .i64 x5)).setCell ⟨P + 1, 6, none⟩ (.int .i64 x6) = W10 at *
  have cp := cell_of_block (o := 0) HS10.out.ptr rfl
  refine wp_region_lit ?_
  refine wpList_yield (w' := W10) (v := .pointer (some ⟨C, 0, none⟩)) rfl (by go_simp) ?_
  refine wpList_enter rfl (by go_simp) (small_rds HS10.out E7.out) ?_
  rintro e W11 ⟨rfl, hs⟩
  refine ⟨_, rfl, ?_⟩
  have HS11 := Lib.hid hs
  clear hs cp HS10
  have c7 := cell_of_block (o := 7) HS11.out.job rfl
  have f7 := free_of_block 7 HS11.out.job
  go_upto_region 8 with fail
  have HS12 := Lib.hid (show RdS w ((W11).setCell ⟨P + 1, 7, none⟩ (.bool (x7 == 1))) C P (P + 1) s8 [.int .i64 x0, .int .i64 x1, .int .i64 x2, .int .i64 x3, .int .i64 x4, .int .i64 x5, .int .i64 x6, .bool (x7 == 1), .int .i64 0, .int .i64 0, .int .i64 0, .int .i64 0, .int .i64 0, .int .u64 0, .int .u64 0, .int .i64 0, .int .i64 0] from (HS11.out).set 7 (.bool (x7 == 1)))
  clear HS11 c7 f7
  generalize (W11).setCell ⟨P + 1, 7, none⟩ (.bool (x7 == 1)) = W12 at *
  refine wp_region_lit ?_
  refine wpList_yield (w' := W12) (v := .func (.func 19) #[] #[.pointer (some ⟨P, 0, none⟩)]) rfl (by go_simp) ?_
  refine wpList_enter rfl (by go_simp) (num_rds HS12.out E8.out) ?_
  rintro e W13 ⟨rfl, hs⟩
  refine ⟨_, rfl, ?_⟩
  have HS13 := Lib.hid hs
  clear hs HS12
  have c8 := cell_of_block (o := 8) HS13.out.job rfl
  have f8 := free_of_block 8 HS13.out.job
  go_upto_region 9 with fail
  have HS14 := Lib.hid (show RdS w ((W13).setCell ⟨P + 1, 8, none⟩ (.int .i64 x8)) C P (P + 1) s9 [.int .i64 x0, .int .i64 x1, .int .i64 x2, .int .i64 x3, .int .i64 x4, .int .i64 x5, .int .i64 x6, .bool (x7 == 1), .int .i64 x8, .int .i64 0, .int .i64 0, .int .i64 0, .int .i64 0, .int .u64 0, .int .u64 0, .int .i64 0, .int .i64 0] from (HS13.out).set 8 (.int .i64 x8))
  clear HS13 c8 f8
  generalize (W13).setCell ⟨P + 1, 8, none⟩ (.int .i64 x8) = W14 at *
  refine wp_region_lit ?_
  refine wpList_yield (w' := W14) (v := .func (.func 21) #[] #[.pointer (some ⟨P, 0, none⟩)]) rfl (by go_simp) ?_
  refine wpList_enter rfl (by go_simp) (mom_rds HS14.out E9.out) ?_
  rintro e W15 ⟨rfl, hs⟩
  refine ⟨_, rfl, ?_⟩
  have HS15 := Lib.hid hs
  clear hs HS14
  refine wpList_yield (w' := W15) (v := .func (.func 21) #[] #[.pointer (some ⟨P, 0, none⟩)]) rfl (by go_simp) ?_
  refine wpList_enter rfl (by go_simp) (mom_rds HS15.out E10.out) ?_
  rintro e W16 ⟨rfl, hs⟩
  refine ⟨_, rfl, ?_⟩
  have HS16 := Lib.hid hs
  clear hs HS15
  refine wpList_yield (w' := W16) (v := .func (.func 21) #[] #[.pointer (some ⟨P, 0, none⟩)]) rfl (by go_simp) ?_
  refine wpList_enter rfl (by go_simp) (mom_rds HS16.out E11.out) ?_
  rintro e W17 ⟨rfl, hs⟩
  refine ⟨_, rfl, ?_⟩
  have HS17 := Lib.hid hs
  clear hs HS16
  have c9 := cell_of_block (o := 9) HS17.out.job rfl
  have f9 := free_of_block 9 HS17.out.job
  have c10 := cell_of_block (o := 10) HS17.out.job rfl
  have f10 := free_of_block 10 HS17.out.job
  have c11 := cell_of_block (o := 11) HS17.out.job rfl
  have f11 := free_of_block 11 HS17.out.job
  go_upto_region 10 with fail
  have HS18 := Lib.hid (show RdS w ((((W17).setCell ⟨P + 1, 9, none⟩ (.int .i64 x9)).setCell ⟨P + 1, 10, none⟩ (.int .i64 x10)).setCell ⟨P + 1, 11, none⟩ (.int .i64 x11)) C P (P + 1) s12 [.int .i64 x0, .int .i64 x1, .int .i64 x2, .int .i64 x3, .int .i64 x4, .int .i64 x5, .int .i64 x6, .bool (x7 == 1), .int .i64 x8, .int .i64 x9, .int .i64 x10, .int .i64 x11, .int .i64 0, .int .u64 0, .int .u64 0, .int .i64 0, .int .i64 0] from (((HS17.out).set 9 (.int .i64 x9)).set 10 (.int .i64 x10)).set 11 (.int .i64 x11))
  clear HS17 c9 f9 c10 f10 c11 f11
  generalize (((W17).setCell ⟨P + 1, 9, none⟩ (.int .i64 x9)).setCell ⟨P + 1, 10, none⟩ (.int .i64 x10)).setCell ⟨P + 1, 11, none⟩ (.int .i64 x11) = W18 at *
  refine wp_region_lit ?_
  refine wpList_yield (w' := W18) (v := .func (.func 19) #[] #[.pointer (some ⟨P, 0, none⟩)]) rfl (by go_simp) ?_
  refine wpList_enter rfl (by go_simp) (num_rds HS18.out E12.out) ?_
  rintro e W19 ⟨rfl, hs⟩
  refine ⟨_, rfl, ?_⟩
  have HS19 := Lib.hid hs
  clear hs HS18
  have c12 := cell_of_block (o := 12) HS19.out.job rfl
  have f12 := free_of_block 12 HS19.out.job
  go_upto_region 11 with fail
  have HS20 := Lib.hid (show RdS w ((W19).setCell ⟨P + 1, 12, none⟩ (.int .i64 x12)) C P (P + 1) s13 [.int .i64 x0, .int .i64 x1, .int .i64 x2, .int .i64 x3, .int .i64 x4, .int .i64 x5, .int .i64 x6, .bool (x7 == 1), .int .i64 x8, .int .i64 x9, .int .i64 x10, .int .i64 x11, .int .i64 x12, .int .u64 0, .int .u64 0, .int .i64 0, .int .i64 0] from (HS19.out).set 12 (.int .i64 x12))
  clear HS19 c12 f12
  generalize (W19).setCell ⟨P + 1, 12, none⟩ (.int .i64 x12) = W20 at *
  have HSd := Lib.hid (HS20.out.below (show Below (W20).heap.size W20 (W20).drew from (Below.refl _ _).drew))
  clear HS20
  refine wp_region_held (S := fun X => X.cell? ⟨P, 0, none⟩ = some (.pointer (some ⟨C, 0, none⟩))) hmx ?_
  have hcp := cell_of_block (o := 0) HSd.out.ptr rfl
  change wpAnyH _ _ _ _ _ 10 _ _ (W20).drew
  generalize (W20).drew = Wd at *
  refine wpAnyH_take (i := 0) (v := .pointer (some ⟨C, 0, none⟩)) rfl (by decide +kernel) (by decide +kernel) (by decide +kernel) (fun _ _ _ h => h) (.inl ⟨by first | rfl | (go_simp; done), fun X hX => by first | (go_simp; done) | (go_simp; rfl)⟩) hcp ?_
  refine wpAnyH_take (i := 3) (v := .pointer (some ⟨C, 0, none⟩)) rfl (by decide +kernel) (by decide +kernel) (by decide +kernel) (fun _ _ _ h => h) (.inl ⟨by first | rfl | (go_simp; done), fun X hX => by first | (go_simp; done) | (go_simp; rfl)⟩) hcp ?_
  refine anyH_call (i := 1) (by decide +kernel) rfl (by first | rfl | (go_simp; done)) (by go_simp) (int_rds HSd.out E13.out) ?_
  rintro e We ⟨rfl, hs⟩
  have HSe := Lib.hid hs
  clear hs hcp HSd
  have hcp := cell_of_block (o := 0) HSe.out.ptr rfl
  refine ⟨_, rfl, hcp, ?_⟩
  refine wpAnyH_take (i := 2) (v := .int .u64 (IntKind.u64.wrap x13)) rfl (by decide +kernel) (by decide +kernel) (by decide +kernel) (fun _ _ _ h => h) (.inl ⟨by first | rfl | (go_simp; done), fun X hX => by first | (go_simp; done) | (go_simp; rfl)⟩) hcp ?_
  refine wpAnyH_take (i := 6) (v := .pointer (some ⟨P + 1, 13, none⟩)) rfl (by decide +kernel) (by decide +kernel) (by decide +kernel) (fun _ _ _ h => h) (.inl ⟨by first | rfl | (go_simp; done), fun X hX => by first | (go_simp; done) | (go_simp; rfl)⟩) hcp ?_
  refine anyH_call (i := 4) (by decide +kernel) rfl (by first | rfl | (go_simp; done)) (by go_simp) (int_rds HSe.out E14.out) ?_
  rintro e Wf ⟨rfl, hs⟩
  have HSf := Lib.hid hs
  clear hs hcp HSe
  have hcp := cell_of_block (o := 0) HSf.out.ptr rfl
  refine ⟨_, rfl, hcp, ?_⟩
  refine wpAnyH_take (i := 5) (v := .int .u64 (IntKind.u64.wrap x14)) rfl (by decide +kernel) (by decide +kernel) (by decide +kernel) (fun _ _ _ h => h) (.inl ⟨by first | rfl | (go_simp; done), fun X hX => by first | (go_simp; done) | (go_simp; rfl)⟩) hcp ?_
  have c0 := cell_of_block (o := 13) HSf.out.job rfl
  have f0 := free_of_block 13 HSf.out.job
  have HSg := Lib.hid (show RdS w ((Wf).setCell ⟨P + 1, 13, none⟩ (.int .u64 (IntKind.u64.wrap x13))) C P (P + 1) s15 [.int .i64 x0, .int .i64 x1, .int .i64 x2, .int .i64 x3, .int .i64 x4, .int .i64 x5, .int .i64 x6, .bool (x7 == 1), .int .i64 x8, .int .i64 x9, .int .i64 x10, .int .i64 x11, .int .i64 x12, .int .u64 (IntKind.u64.wrap x13), .int .u64 0, .int .i64 0, .int .i64 0] from HSf.out.set 13 (.int .u64 (IntKind.u64.wrap x13)))
  refine anyH_store (i := 7) (w' := (Wf).setCell ⟨P + 1, 13, none⟩ (.int .u64 (IntKind.u64.wrap x13))) (by decide +kernel) rfl (by first | rfl | (go_simp; done)) (by go_simp) (cell_of_block (o := 0) HSg.out.ptr rfl) ?_
  clear c0 f0 HSf
  generalize (Wf).setCell ⟨P + 1, 13, none⟩ (.int .u64 (IntKind.u64.wrap x13)) = Wg at *
  clear hcp
  have hcp := cell_of_block (o := 0) HSg.out.ptr rfl
  refine wpAnyH_take (i := 8) (v := .pointer (some ⟨P + 1, 14, none⟩)) rfl (by decide +kernel) (by decide +kernel) (by decide +kernel) (fun _ _ _ h => h) (.inl ⟨by first | rfl | (go_simp; done), fun X hX => by first | (go_simp; done) | (go_simp; rfl)⟩) hcp ?_
  have c0 := cell_of_block (o := 14) HSg.out.job rfl
  have f0 := free_of_block 14 HSg.out.job
  have HSh := Lib.hid (show RdS w ((Wg).setCell ⟨P + 1, 14, none⟩ (.int .u64 (IntKind.u64.wrap x14))) C P (P + 1) s15 [.int .i64 x0, .int .i64 x1, .int .i64 x2, .int .i64 x3, .int .i64 x4, .int .i64 x5, .int .i64 x6, .bool (x7 == 1), .int .i64 x8, .int .i64 x9, .int .i64 x10, .int .i64 x11, .int .i64 x12, .int .u64 (IntKind.u64.wrap x13), .int .u64 (IntKind.u64.wrap x14), .int .i64 0, .int .i64 0] from HSg.out.set 14 (.int .u64 (IntKind.u64.wrap x14)))
  refine anyH_store (i := 9) (w' := (Wg).setCell ⟨P + 1, 14, none⟩ (.int .u64 (IntKind.u64.wrap x14))) (by decide +kernel) rfl (by first | rfl | (go_simp; done)) (by go_simp) (cell_of_block (o := 0) HSh.out.ptr rfl) ?_
  clear c0 f0 HSg
  generalize (Wg).setCell ⟨P + 1, 14, none⟩ (.int .u64 (IntKind.u64.wrap x14)) = Wh at *
  refine wpAnyH_done (by decide +kernel) ?_ _
  clear hcp
  go_upto_region 12 with fail
  refine wp_region_lit ?_
  refine wpList_yield (w' := Wh) (v := .func (.func 21) #[] #[.pointer (some ⟨P, 0, none⟩)]) rfl (by go_simp) ?_
  refine wpList_enter rfl (by go_simp) (mom_rds HSh.out E15.out) ?_
  rintro e W21 ⟨rfl, hs⟩
  refine ⟨_, rfl, ?_⟩
  have HS21 := Lib.hid hs
  clear hs HSh
  refine wpList_yield (w' := W21) (v := .func (.func 21) #[] #[.pointer (some ⟨P, 0, none⟩)]) rfl (by go_simp) ?_
  refine wpList_enter rfl (by go_simp) (mom_rds HS21.out E16.out) ?_
  rintro e W22 ⟨rfl, hs⟩
  refine ⟨_, rfl, ?_⟩
  have HS22 := Lib.hid hs
  clear hs HS21
  have c15 := cell_of_block (o := 15) HS22.out.job rfl
  have f15 := free_of_block 15 HS22.out.job
  have c16 := cell_of_block (o := 16) HS22.out.job rfl
  have f16 := free_of_block 16 HS22.out.job
  go_upto_region 13 with fail
  have HS23 := Lib.hid (show RdS w (((W22).setCell ⟨P + 1, 15, none⟩ (.int .i64 x15)).setCell ⟨P + 1, 16, none⟩ (.int .i64 x16)) C P (P + 1) s17 [.int .i64 x0, .int .i64 x1, .int .i64 x2, .int .i64 x3, .int .i64 x4, .int .i64 x5, .int .i64 x6, .bool (x7 == 1), .int .i64 x8, .int .i64 x9, .int .i64 x10, .int .i64 x11, .int .i64 x12, .int .u64 (IntKind.u64.wrap x13), .int .u64 (IntKind.u64.wrap x14), .int .i64 x15, .int .i64 x16] from ((HS22.out).set 15 (.int .i64 x15)).set 16 (.int .i64 x16))
  clear HS22 c15 f15 c16 f16
  generalize ((W22).setCell ⟨P + 1, 15, none⟩ (.int .i64 x15)).setCell ⟨P + 1, 16, none⟩ (.int .i64 x16) = W23 at *
  have hjv := HS23.out
  rw [← nv_setOf x13, ← nv_setOf x14] at hjv
  obtain ⟨jv, hjv1⟩ : ∃ jv : JobV, jv = ⟨x0, x1, x2, x3, x4, x5, x6, x7 == 1, x8, x9, x10, x11, x12, setOf x13, setOf x14, x15, x16⟩ := ⟨_, rfl⟩
  have HSj := Lib.hid (show RdS w W23 C P (P + 1) s17 (jobC jv) from hjv1 ▸ hjv)
  have HRJ := Lib.hid (show readJ bs = (s17, jv) from hjv1 ▸ HRD.out)
  clear hjv hjv1 HRD HS23
  have cp := cell_of_block (o := 0) HSj.out.ptr rfl
  have HEW := Lib.hid (HE.out.below HSj.out.bel)
  have KB := Lib.hid (bad_cur HSj.out.cur HEW.out)
  have HOK := Lib.hid (show ∀ b, ((s17.bad == 0) && rightB jv) = b → okJ bs = b from fun b hb => by unfold okJ; rw [HRJ.out]; exact hb)
  have HNO := Lib.hid (show okJ bs = false → gotJ bs = job0 ∧ cntJ bs = 0 ∧ codeJ bs = 11 from fun h => by unfold gotJ cntJ codeJ; rw [h]; exact ⟨rfl, rfl, rfl⟩)
  have HYES := Lib.hid (show okJ bs = true → gotJ bs = jv ∧ cntJ bs = (n : Int) - (s17.xs.length : Int) ∧ codeJ bs = 0 from fun h => by unfold gotJ cntJ codeJ; rw [h, HRJ.out, HN.out]; exact ⟨rfl, rfl, rfl⟩)
  have HLJ := Lib.hid (jobC_len jv)
  have HJ1 := Lib.hid (jobC_one jv)
  have hrj : rightB jv = true ∨ rightB jv = false := by cases rightB jv; exact .inr rfl; exact .inl rfl
  have KRj := Lib.hid (fun b (h : rightB jv = b) X => right_is h X)
  have hft := HSj.out.cur.fits
  have hln : n ≤ 1099511627775 := by rw [HN.out]; exact HLB.out
  clear HEW
  generalize hcj : jobC jv = lj at *
  have HCJ := Lib.hid hcj
  clear hcj
  refine wp_region_lit ?_
  refine wpList_yield (w' := W23) (v := .pointer (some ⟨C, 0, none⟩)) rfl (by go_simp) ?_
  refine wpList_enter rfl (by go_simp) KB.out ?_
  rintro e Wk ⟨rfl, hbk⟩
  refine ⟨_, rfl, ?_⟩
  have HSk := Lib.hid (HSj.out.below hbk)
  clear cp hbk HSj KB
  generalize hbd : s17.bad = bd at *
  cases hb : (bd == 0) with
  | false =>
    have hb' : (bd != 0) = true := by unfold bne; rw [hb]; rfl
    have E := HNO.out (HOK.out false (by rw [hb]; rfl))
    have E := Lib.hid E
    go_upto_region 14 with fail
    refine wp_region_lit ?_
    refine wpList_yield (w' := Wk) (v := .agg (jobC job0).toArray) rfl (by go_simp; rfl) ?_
    refine wpList_store_all rfl 26 _ _ rfl w.heap.size (T := 26) (jobC job0) (by go_simp) (by go_simp) HSk.out.res rfl (by kernel_rfl) rfl ?_
    intro w9 hw9
    have HW9 := Lib.hid hw9.there
    have HB9 := Lib.hid (hw9.below HSk.out.bel (Nat.le_refl _))
    clear hw9
    go_wp2_with fail
    exact bodyPost_ret (results_all3 (jobC job0) _ Tryd.results5 (by go_simp) HW9.out Tryd.underlying26 rfl (by kernel_rfl)) rfl ⟨by rw [E.out.1, E.out.2.1, E.out.2.2]; first | done | rfl, HB9.out⟩
  | true =>
    have hb' : (bd != 0) = false := by unfold bne; rw [hb]; rfl
    refine wpList_yield (w' := Wk) (v := .bool false) rfl (by first | (go_simp; done) | (go_simp; rfl)) ?_
    refine wpList_yield (w' := Wk) (v := .bool false) rfl (by first | (go_simp; done) | (go_simp; rfl)) ?_
    refine wpList_load_all_w (by first | (go_simp; done) | (go_simp; rfl)) 26 _ rfl (P + 1) lj _ (by go_simp) HSk.out.job Tryd.underlying26 rfl (by rw [HLJ.out]; kernel_rfl) ?_
    rcases hrj with hr | hr
    · refine wpList_enter_w (by first | (go_simp; done) | (go_simp; rfl)) (by go_simp) (KRj.out true hr Wk) ?_
      rintro e Wl ⟨rfl, hbl⟩
      refine ⟨_, rfl, ?_⟩
      have HSl := Lib.hid (HSk.out.below hbl)
      clear hbl HSk
      have E := Lib.hid (HYES.out (HOK.out true (by rw [hb, hr]; rfl)))
      go_upto_region 15 with fail
      have HSm := Lib.hid (HSl.out.below (show Below Wl.heap.size Wl Wl.drew from (Below.refl _ _).drew))
      have hsub : IntKind.i64.wrap ((n : Int) - (s17.xs.length : Int)) = (n : Int) - (s17.xs.length : Int) := by rw [IntKind.wrap_i64]; omega
      have cp := cell_of_block (o := 0) HSm.out.ptr rfl
      refine wp_region_held (S := fun X => X.heap[P + 1]? = some (.cells lj.toArray 26 (0, 0)) ∧ X.cell? ⟨P, 0, none⟩ = some (.pointer (some ⟨C, 0, none⟩))) hmx ?_
      change wpAnyH _ _ _ _ _ 9 _ _ Wl.drew
      generalize Wl.drew = Wn at *
      have hSS : Wn.heap[P + 1]? = some (.cells lj.toArray 26 (0, 0)) ∧ Wn.cell? ⟨P, 0, none⟩ = some (.pointer (some ⟨C, 0, none⟩)) := ⟨HSm.out.job, cp⟩
      clear cp
      refine wpAnyH_take (i := 0) (v := .agg lj.toArray) rfl (by decide +kernel) (by decide +kernel) (by decide +kernel) (fun _ _ _ h => h) (yieldsIf_load_mid (by first | rfl | (go_simp; done)) 26 _ rfl (P + 1) 0 (by go_simp) lj _ (fun X hX => range_of_block hX.1) Tryd.underlying26 rfl (by rw [HLJ.out]; kernel_rfl)) hSS ?_
      refine wpAnyH_take (i := 1) (v := .slice ad n c) rfl (by decide +kernel) (by decide +kernel) (by decide +kernel) (fun _ _ _ h => h) (.inl ⟨by first | rfl | (go_simp; done), fun X hX => by have hx2 := hX.2; clear hX; first | (go_simp; done) | (go_simp; rfl)⟩) hSS ?_
      refine wpAnyH_take (i := 2) (v := .int .i64 (n : Int)) rfl (by decide +kernel) (by decide +kernel) (by decide +kernel) (fun _ _ _ h => h) (.inl ⟨by first | rfl | (go_simp; done), fun X hX => by have hx2 := hX.2; clear hX; first | (go_simp; done) | (go_simp; rfl)⟩) hSS ?_
      refine wpAnyH_take (i := 3) (v := .pointer (some ⟨C, 0, none⟩)) rfl (by decide +kernel) (by decide +kernel) (by decide +kernel) (fun _ _ _ h => h) (.inl ⟨by first | rfl | (go_simp; done), fun X hX => by have hx2 := hX.2; clear hX; first | (go_simp; done) | (go_simp; rfl)⟩) hSS ?_
      refine anyH_call (i := 4) (by decide +kernel) rfl (by first | rfl | (go_simp; done)) (by go_simp) (rest_cur HSm.out.cur) ?_
      rintro e Wo ⟨rfl, rfl⟩
      refine ⟨_, rfl, hSS, ?_⟩
      refine wpAnyH_take (i := 5) (v := .int .i64 ((n : Int) - (s17.xs.length : Int))) rfl (by decide +kernel) (by decide +kernel) (by decide +kernel) (fun _ _ _ h => h) (.inl ⟨by first | rfl | (go_simp; done), fun X hX => by have hx2 := hX.2; clear hX; first | (go_simp; done) | (go_simp; rfl)⟩) hSS ?_
      have hPP : w.heap.size < P := by have := HSm.out.cur.mem; omega
      have hw9 := wrote_all HSm.out.res (l := lj) (by rw [HLJ.out]; rfl)
      have hS9 : (Wn.setCells w.heap.size 0 lj).heap[P + 1]? = some (.cells lj.toArray 26 (0, 0)) ∧ (Wn.setCells w.heap.size 0 lj).cell? ⟨P, 0, none⟩ = some (.pointer (some ⟨C, 0, none⟩)) := ⟨(hw9.rest _ (by omega)).trans hSS.1, cell_of_block (o := 0) ((hw9.rest _ (by omega)).trans HSm.out.ptr) rfl⟩
      refine anyH_store (i := 6) (by decide +kernel) rfl (by first | rfl | (go_simp; done)) (exec_store_all 26 _ _ rfl w.heap.size lj (by go_simp) (by go_simp) HSm.out.res (by rw [HLJ.out]; rfl) (by rw [HLJ.out]; kernel_rfl) HJ1.out) hS9 ?_
      have HW9 := Lib.hid hw9.there
      have HB9 := Lib.hid (hw9.below HSm.out.bel (Nat.le_refl _))
      clear hw9 hSS hPP
      generalize Wn.setCells w.heap.size 0 lj = w9 at *
      refine wpAnyH_take (i := 7) (v := .int .i64 ((n : Int) - (s17.xs.length : Int))) rfl (by decide +kernel) (by decide +kernel) (by decide +kernel) (fun _ _ _ h => h) (.inl ⟨by first | rfl | (go_simp; done), fun X hX => by have hx2 := hX.2; clear hX; first | (go_simp; done) | (go_simp; rfl)⟩) hS9 ?_
      refine wpAnyH_take (i := 8) (v := .int .i64 0) rfl (by decide +kernel) (by decide +kernel) (by decide +kernel) (fun _ _ _ h => h) (.inl ⟨by first | rfl | (go_simp; done), fun X hX => by have hx2 := hX.2; clear hX; first | (go_simp; done) | (go_simp; rfl)⟩) hS9 ?_
      refine wpAnyH_done (by decide +kernel) ?_ _
      clear hS9
      go_wp2_with fail
      exact bodyPost_ret (results_all3 lj _ Tryd.results5 (by go_simp) HW9.out Tryd.underlying26 rfl (by rw [HLJ.out]; kernel_rfl)) rfl ⟨by rw [E.out.1, E.out.2.1, E.out.2.2, HCJ.out]; first | done | (go_simp; done) | kernel_rfl, HB9.out⟩
    · refine wpList_enter_w (by first | (go_simp; done) | (go_simp; rfl)) (by go_simp) (KRj.out false hr Wk) ?_
      rintro e Wl ⟨rfl, hbl⟩
      refine ⟨_, rfl, ?_⟩
      have HSl := Lib.hid (HSk.out.below hbl)
      clear hbl HSk
      have E := Lib.hid (HNO.out (HOK.out false (by rw [hb, hr]; rfl)))
      go_upto_region 14 with fail
      refine wp_region_lit ?_
      refine wpList_yield (w' := Wl) (v := .agg (jobC job0).toArray) rfl (by go_simp; rfl) ?_
      refine wpList_store_all rfl 26 _ _ rfl w.heap.size (T := 26) (jobC job0) (by go_simp) (by go_simp) HSl.out.res rfl (by kernel_rfl) rfl ?_
      intro w9 hw9
      have HW9 := Lib.hid hw9.there
      have HB9 := Lib.hid (hw9.below HSl.out.bel (Nat.le_refl _))
      clear hw9
      go_wp2_with fail
      exact bodyPost_ret (results_all3 (jobC job0) _ Tryd.results5 (by go_simp) HW9.out Tryd.underlying26 rfl (by kernel_rfl)) rfl ⟨by rw [E.out.1, E.out.2.1, E.out.2.2]; first | done | rfl, HB9.out⟩
end Go.Proofs.YtgeldpfojmkdbaaDoor
