/- Laws that the claim uses, 7 of 9: Ji, CodRef, CodRefC, Jv. No condition of its own but what each theorem says. -/
import Derived.Test.YtgeldpfojmkdbaaDoorMf
import Derived.Test.YtgeldpfojmkdbaaDoorMc
namespace Go.Proofs.YtgeldpfojmkdbaaDoor
set_option linter.unusedVariables false
open Go.ChangeShapes Go.WideShapes Go.ChangeAt Go.RowKit
attribute [local go_sem ↓] Go.wp_at_zero Go.wp_at_succ comesTo_value_eq comesTo_skip_eq comesTo_enter_eq Rl.comesToR_value_eq Rl.comesToR_skip_eq Rl.comesToR_enter_eq

/-- a number as a set -/
def setOf (x : Int) : NSet := BitVec.ofInt 64 x
theorem nv_setOf (x : Int) : nv (setOf x) = IntKind.u64.wrap x := by
  unfold nv setOf
  rw [BitVec.toNat_ofInt, IntKind.wrap_u64]
  omega
/-- what is read: what is left, and a job -/
def readJ (bs : List Int) : CS × JobV :=
  let a0 := intF ⟨bs, 0⟩
  let a1 := intF a0.1
  let a2 := intF a1.1
  let a3 := intF a2.1
  let a4 := intF a3.1
  let a5 := intF a4.1
  let a6 := intF a5.1
  let a7 := smallF a6.1 1
  let a8 := intF a7.1
  let a9 := intF a8.1
  let a10 := intF a9.1
  let a11 := intF a10.1
  let a12 := intF a11.1
  let a13 := intF a12.1
  let a14 := intF a13.1
  let a15 := intF a14.1
  let a16 := intF a15.1
  (a16.1, ⟨a0.2, a1.2, a2.2, a3.2, a4.2, a5.2, a6.2, a7.2 == 1, a8.2, a9.2, a10.2, a11.2, a12.2, setOf a13.2, setOf a14.2, a15.2, a16.2⟩)
def okJ (bs : List Int) : Bool := ((readJ bs).1.bad == 0) && rightB (readJ bs).2
def gotJ (bs : List Int) : JobV := if okJ bs then (readJ bs).2 else job0
def cntJ (bs : List Int) : Int := if okJ bs then (bs.length : Int) - ((readJ bs).1.xs.length : Int) else 0
def codeJ (bs : List Int) : Int := if okJ bs then 0 else 11
/-- a reading under way: the cursor, the result's box, the pointer's, the job's -/
structure RdS (w W : World) (C P Q : Nat) (st : CS) (l : List Value) : Prop where
  cur : Cur W C (fun b => w.heap.size + 1 ≤ b ∧ b < P) st
  res : W.heap[w.heap.size]? = some (.cells #[.int .i64 0, .int .i64 0, .int .i64 0, .int .i64 0, .int .i64 0, .int .i64 0, .int .i64 0, .bool false, .int .i64 0, .int .i64 0, .int .i64 0, .int .i64 0, .int .i64 0, .int .u64 0, .int .u64 0, .int .i64 0, .int .i64 0] 26 (0, 0))
  ptr : W.heap[P]? = some (.cells #[.pointer (some ⟨C, 0, none⟩)] 50 (0, 0))
  job : W.heap[Q]? = some (.cells l.toArray 26 (0, 0))
  bel : Below w.heap.size w W
  hi : P < Q
theorem RdS.fr {w W W' : World} {C P Q : Nat} {st st' : CS} {l : List Value} (h : RdS w W C P Q st l) (hf : Fr (fun j => j = C) W W') (hc : Cur W' C (fun b => w.heap.size + 1 ≤ b ∧ b < P) st') : RdS w W' C P Q st' l := by
  have hm := h.cur.mem
  have h1 := (Array.getElem?_eq_some_iff.1 h.res).1
  have h2 := (Array.getElem?_eq_some_iff.1 h.ptr).1
  have h3 := (Array.getElem?_eq_some_iff.1 h.job).1
  have h4 := h.hi
  exact ⟨hc, (hf.block _ h1 (by omega)).trans h.res, (hf.block _ h2 (by omega)).trans h.ptr, (hf.block _ h3 (by omega)).trans h.job, h.bel.trans (hf.below h.bel.size fun b hb => by subst hb; omega), h.hi⟩
theorem RdS.below {w W W' : World} {C P Q : Nat} {st : CS} {l : List Value} (h : RdS w W C P Q st l) (hb : Below W.heap.size W W') : RdS w W' C P Q st l :=
  ⟨h.cur.below hb, (hb.block _ (Array.getElem?_eq_some_iff.1 h.res).1).trans h.res, (hb.block _ (Array.getElem?_eq_some_iff.1 h.ptr).1).trans h.ptr, (hb.block _ (Array.getElem?_eq_some_iff.1 h.job).1).trans h.job, below_next h.bel hb, h.hi⟩
theorem RdS.set {w W : World} {C P Q : Nat} {st : CS} {l : List Value} (h : RdS w W C P Q st l) (k : Nat) (v : Value) : RdS w (W.setCell ⟨Q, k, none⟩ v) C P Q st (l.set k v) := by
  have hw := (wrote_refl h.job).set k v
  have hm := h.cur.mem
  have h4 := h.hi
  refine ⟨Fr.cur (G := fun b => b = Q) h.cur ((Fr.refl (fun b => b = Q) W).set (show (fun b => b = Q) Q from rfl) _ _) (fun b hb _ he => by have := hb.2; omega), (hw.rest _ (by omega)).trans h.res, (hw.rest _ (by omega)).trans h.ptr, ?_, hw.below h.bel (by omega), h.hi⟩
  have := hw.there
  rwa [List.setIfInBounds_toArray] at this
set_option maxRecDepth 100000 in
set_option maxHeartbeats 4000000 in
theorem num_rds {w W : World} {C P Q : Nat} {st st' : CS} {x : Int} {l : List Value} (h : RdS w W C P Q st l) (e : intF st = (st', x)) : Calls Tryd.prog 19 #[.pointer (some ⟨P, 0, none⟩)] W fun r w' => r = .returned (.int .i64 x) ∧ RdS w w' C P Q st' l := by
  have K := Lib.hid (int_cur h.cur)
  rw [e] at K
  have c0 := cell_of_block (o := 0) h.ptr rfl
  have HS := Lib.hid h
  clear h
  go_enter Tryd.func19, Tryd.ntmps19
  go_wp2_with (go_at_call 20; ((with_reducible refine K.out.mono ?_)); rintro r w' ⟨rfl, hc, hf⟩)
  go_ret
  exact ⟨rfl, HS.out.fr hf hc⟩
set_option maxRecDepth 100000 in
set_option maxHeartbeats 4000000 in
theorem mom_rds {w W : World} {C P Q : Nat} {st st' : CS} {x : Int} {l : List Value} (h : RdS w W C P Q st l) (e : intF st = (st', x)) : Calls Tryd.prog 21 #[.pointer (some ⟨P, 0, none⟩)] W fun r w' => r = .returned (.int .i64 x) ∧ RdS w w' C P Q st' l := by
  have K := Lib.hid (int_cur h.cur)
  rw [e] at K
  have c0 := cell_of_block (o := 0) h.ptr rfl
  have HS := Lib.hid h
  clear h
  go_enter Tryd.func21, Tryd.ntmps21
  go_wp2_with (go_at_call 20; ((with_reducible refine K.out.mono ?_)); rintro r w' ⟨rfl, hc, hf⟩)
  go_ret
  exact ⟨rfl, HS.out.fr hf hc⟩
theorem int_rds {w W : World} {C P Q : Nat} {st st' : CS} {x : Int} {l : List Value} (h : RdS w W C P Q st l) (e : intF st = (st', x)) : Calls Tryd.prog 20 #[.pointer (some ⟨C, 0, none⟩)] W fun r w' => r = .returned (.int .i64 x) ∧ RdS w w' C P Q st' l := by
  have K := int_cur h.cur
  rw [e] at K
  exact K.mono fun r w' ⟨h1, hc, hf⟩ => ⟨h1, h.fr hf hc⟩
theorem small_rds {w W : World} {C P Q : Nat} {st st' : CS} {x : Int} {l : List Value} (h : RdS w W C P Q st l) (e : smallF st 1 = (st', x)) : Calls Tryd.prog 22 #[.pointer (some ⟨C, 0, none⟩), .int .i64 1] W fun r w' => r = .returned (.int .i64 x) ∧ RdS w w' C P Q st' l := by
  have K := small_cur h.cur 1
  rw [e] at K
  exact K.mono fun r w' ⟨h1, hc, hf⟩ => ⟨h1, h.fr hf hc⟩
theorem comesTo_load_all {P : Program} {o : Oper} {a : Act} {W : World} {S : World → Prop} (ty : TypeId) (x : Operand) (ho : o.op = .load ty x) (b : Nat) {T : TypeId} (hx : a.eval x = .pointer (some ⟨b, 0, none⟩)) (l : List Value) (d : TypeDesc)
    (hb : W.heap[b]? = some (.cells l.toArray T (0, 0))) (hu : P.underlying ty = some d) (hd : d.isRow = true) (hi : (P.info? ty).map (·.size) = some l.length) (h : S W) : comesTo P S (.agg l.toArray) ((execOp a.eval o).run P W) := by
  unfold execOp
  simp only [ho, hx, Instr.loadAt, Instr.sureAddr, Sem.run_bind, Sem.run_pure, Result.andThen_ok, run_loadVar_mid W b 0 ty l d (range_of_block hb) hu hd hi]
  exact ⟨rfl, h⟩
theorem exec_store_all {P : Program} {op : Oper} {ρ : Operand → Value} {w : World} (ty : TypeId) (x y : Operand) (ho : op.op = .store ty x y) (b : Nat) {T : TypeId} {cs : Array Value} (l : List Value) (hx : ρ x = .pointer (some ⟨b, 0, none⟩)) (hy : ρ y = .agg l.toArray)
    (hb : w.heap[b]? = some (.cells cs T (0, 0))) (hl : l.length = cs.size) (hi : (P.info? ty).map (·.size) = some l.length) (h1 : l.all (·.oneCell') = true) : (execOp ρ op).run P w = .ok .skip (w.setCells b 0 l) := by
  unfold execOp
  simp only [ho, hx, hy, Instr.storeAt, Instr.sureAddr, Sem.run_bind, Sem.run_pure, Result.andThen_ok, run_storeVar_mid w b 0 ty l.toArray (there_of_block hb (by simp; omega)) (by simpa using hi) (by simpa using h1)]
theorem results_all3 {P : Program} {w : World} {fn : Func} {p q r : Tmp} {ty T : TypeId} {tmps : Array Value} {b : Nat} (l : List Value) (d : TypeDesc) (h : fn.results = #[.cell p ty, .tmp q, .tmp r]) (hp : tmps.getD p undef = .pointer (some ⟨b, 0, none⟩)) (hb : w.heap[b]? = some (.cells l.toArray T (0, 0)))
    (hu : P.underlying ty = some d) (hd : d.isRow = true) (hi : (P.info? ty).map (·.size) = some l.length) : (results fn tmps).run P w = .ok (.tuple #[.agg l.toArray, tmps.getD q undef, tmps.getD r undef]) w := by
  have hp' : tmps[p]?.getD undef = .pointer (some ⟨b, 0, none⟩) := by simpa using hp
  simp [results, h, hp', asAddr, run_loadVar_mid w b 0 ty l d (range_of_block hb) hu hd hi]
set_option maxRecDepth 100000 in
set_option maxHeartbeats 4000000 in
theorem jread_any {ad : Option Addr} {n c : Nat} {bs : List Int} {w : World} (ht : TxtAt w (.slice ad n c) bs) (hl : bs.length ≤ 1099511627775) (hE : ErrAt w) : Calls Tryd.prog 5 #[.slice ad n c] w fun e w' => e = .returned (.tuple #[.agg (jobC (gotJ bs)).toArray, .int .i64 (cntJ bs), .int .i64 (codeJ bs)]) ∧ Below w.heap.size w w' := by
  have hmx : Tryd.prog.follows .mixedOrders = true := by kernel_rfl
  have HN := Lib.hid ht.form.1
  have HLB := Lib.hid hl
  have hA0 := below_alloc (Below.refl _ w) (.cells #[.int .i64 0, .int .i64 0, .int .i64 0, .int .i64 0, .int .i64 0, .int .i64 0, .int .i64 0, .bool false, .int .i64 0, .int .i64 0, .int .i64 0, .int .i64 0, .int .i64 0, .int .u64 0, .int .u64 0, .int .i64 0, .int .i64 0] 26)
  obtain ⟨s1, x0, e0⟩ : ∃ s x, intF (⟨bs, 0⟩ : CS) = (s, x) := ⟨_, _, rfl⟩
  obtain ⟨s2, x1, e1⟩ : ∃ s x, intF s1 = (s, x) := ⟨_, _, rfl⟩
  obtain ⟨s3, x2, e2⟩ : ∃ s x, intF s2 = (s, x) := ⟨_, _, rfl⟩
  obtain ⟨s4, x3, e3⟩ : ∃ s x, intF s3 = (s, x) := ⟨_, _, rfl⟩
  obtain ⟨s5, x4, e4⟩ : ∃ s x, intF s4 = (s, x) := ⟨_, _, rfl⟩
  obtain ⟨s6, x5, e5⟩ : ∃ s x, intF s5 = (s, x) := ⟨_, _, rfl⟩
  obtain ⟨s7, x6, e6⟩ : ∃ s x, intF s6 = (s, x) := ⟨_, _, rfl⟩
  obtain ⟨s8, x7, e7⟩ : ∃ s x, smallF s7 1 = (s, x) := ⟨_, _, rfl⟩
  obtain ⟨s9, x8, e8⟩ : ∃ s x, intF s8 = (s, x) := ⟨_, _, rfl⟩
  obtain ⟨s10, x9, e9⟩ : ∃ s x, intF s9 = (s, x) := ⟨_, _, rfl⟩
  obtain ⟨s11, x10, e10⟩ : ∃ s x, intF s10 = (s, x) := ⟨_, _, rfl⟩
  obtain ⟨s12, x11, e11⟩ : ∃ s x, intF s11 = (s, x) := ⟨_, _, rfl⟩
  obtain ⟨s13, x12, e12⟩ : ∃ s x, intF s12 = (s, x) := ⟨_, _, rfl⟩
  obtain ⟨s14, x13, e13⟩ : ∃ s x, intF s13 = (s, x) := ⟨_, _, rfl⟩
  obtain ⟨s15, x14, e14⟩ : ∃ s x, intF s14 = (s, x) := ⟨_, _, rfl⟩
  obtain ⟨s16, x15, e15⟩ : ∃ s x, intF s15 = (s, x) := ⟨_, _, rfl⟩
  obtain ⟨s17, x16, e16⟩ : ∃ s x, intF s16 = (s, x) := ⟨_, _, rfl⟩
  have hrd : readJ bs = (s17, ⟨x0, x1, x2, x3, x4, x5, x6, x7 == 1, x8, x9, x10, x11, x12, setOf x13, setOf x14, x15, x16⟩) := by simp only [readJ, e0, e1, e2, e3, e4, e5, e6, e7, e8, e9, e10, e11, e12, e13, e14, e15, e16]
  have HRD := Lib.hid hrd
  clear hrd
  have E0 := Lib.hid e0
  have E1 := Lib.hid e1
  have E2 := Lib.hid e2
  have E3 := Lib.hid e3
  have E4 := Lib.hid e4
  have E5 := Lib.hid e5
  have E6 := Lib.hid e6
  have E7 := Lib.hid e7
  have E8 := Lib.hid e8
  have E9 := Lib.hid e9
  have E10 := Lib.hid e10
  have E11 := Lib.hid e11
  have E12 := Lib.hid e12
  have E13 := Lib.hid e13
  have E14 := Lib.hid e14
  have E15 := Lib.hid e15
  have E16 := Lib.hid e16
  clear e0 e1 e2 e3 e4 e5 e6 e7 e8 e9 e10 e11 e12 e13 e14 e15 e16
  go_enter Tryd.func5, Tryd.ntmps5
  go_upto_region 1 with fail
  have hR0 := World.alloc_heap_new w (.cells #[.int .i64 0, .int .i64 0, .int .i64 0, .int .i64 0, .int .i64 0, .int .i64 0, .int .i64 0, .bool false, .int .i64 0, .int .i64 0, .int .i64 0, .int .i64 0, .int .i64 0, .int .u64 0, .int .u64 0, .int .i64 0, .int .i64 0] 26)
  have hsU : (w.alloc (.cells #[.int .i64 0, .int .i64 0, .int .i64 0, .int .i64 0, .int .i64 0, .int .i64 0, .int .i64 0, .bool false, .int .i64 0, .int .i64 0, .int .i64 0, .int .i64 0, .int .i64 0, .int .u64 0, .int .u64 0, .int .i64 0, .int .i64 0] 26)).heap.size = w.heap.size + 1 := by simp
  generalize w.alloc (.cells #[.int .i64 0, .int .i64 0, .int .i64 0, .int .i64 0, .int .i64 0, .int .i64 0, .int .i64 0, .bool false, .int .i64 0, .int .i64 0, .int .i64 0, .int .i64 0, .int .i64 0, .int .u64 0, .int .u64 0, .int .i64 0, .int .i64 0] 26) = U at *
  have KR := Lib.hid (read_cur (ht.below hA0) hl)
  have HSU := Lib.hid hsU
  have HA0 := Lib.hid hA0
  have HR0 := Lib.hid hR0
  have HE := Lib.hid hE
  clear ht hl hA0 hsU hR0 hE
  refine wp_region_lit ?_
  refine wpList_yield (w' := U) (v := .slice ad n c) rfl (by go_simp) ?_
  refine wpList_enter rfl (by go_simp) KR.out ?_
  rintro e w1 ⟨C, rfl, hc, hb⟩
  refine ⟨_, rfl, ?_⟩
  have HB1 := Lib.hid (below_next HA0.out hb)
  have HR1 := Lib.hid ((hb.block w.heap.size (by have := HSU.out; omega)).trans HR0.out)
  have HS1 := Lib.hid (show w.heap.size + 1 ≤ w1.heap.size by have := hb.size; have := HSU.out; omega)
  have HC1 := Lib.hid hc.tight
  clear hb hc KR HA0 HR0
  go_upto_region 5 with fail
  have hV : RdS w ((w1.alloc (.cells #[.pointer (some ⟨C, 0, none⟩)] 50)).alloc (.cells #[.int .i64 0, .int .i64 0, .int .i64 0, .int .i64 0, .int .i64 0, .int .i64 0, .int .i64 0, .bool false, .int .i64 0, .int .i64 0, .int .i64 0, .int .i64 0, .int .i64 0, .int .u64 0, .int .u64 0, .int .i64 0, .int .i64 0] 26)) C w1.heap.size (w1.heap.size + 1) ⟨bs, 0⟩ [.int .i64 0, .int .i64 0, .int .i64 0, .int .i64 0, .int .i64 0, .int .i64 0, .int .i64 0, .bool false, .int .i64 0, .int .i64 0, .int .i64 0, .int .i64 0, .int .i64 0, .int .u64 0, .int .u64 0, .int .i64 0, .int .i64 0] := by
    have a1 := below_alloc (Below.refl _ w1) (.cells #[.pointer (some ⟨C, 0, none⟩)] 50)
    have a2 := below_alloc (Below.refl _ (w1.alloc (.cells #[.pointer (some ⟨C, 0, none⟩)] 50))) (.cells #[.int .i64 0, .int .i64 0, .int .i64 0, .int .i64 0, .int .i64 0, .int .i64 0, .int .i64 0, .bool false, .int .i64 0, .int .i64 0, .int .i64 0, .int .i64 0, .int .i64 0, .int .u64 0, .int .u64 0, .int .i64 0, .int .i64 0] 26)
    have a := below_next a1 a2
    refine ⟨(HC1.out.below a).more (fun b hb => by have := HSU.out; omega), (a.block _ (by have := HS1.out; omega)).trans HR1.out, (a2.block _ (by simp)).trans (World.alloc_heap_new w1 _), ?_, below_next HB1.out a, by omega⟩
    have := World.alloc_heap_new (w1.alloc (.cells #[.pointer (some ⟨C, 0, none⟩)] 50)) (.cells #[.int .i64 0, .int .i64 0, .int .i64 0, .int .i64 0, .int .i64 0, .int .i64 0, .int .i64 0, .bool false, .int .i64 0, .int .i64 0, .int .i64 0, .int .i64 0, .int .i64 0, .int .u64 0, .int .u64 0, .int .i64 0, .int .i64 0] 26)
    rwa [show (w1.alloc (.cells #[.pointer (some ⟨C, 0, none⟩)] 50)).heap.size = w1.heap.size + 1 by simp] at this
  have HSa := Lib.hid hV
  have HE1 := Lib.hid HE.out
  clear hV HC1 HB1 HR1 HSU HS1 HE1
  generalize (w1.alloc (.cells #[.pointer (some ⟨C, 0, none⟩)] 50)).alloc (.cells #[.int .i64 0, .int .i64 0, .int .i64 0, .int .i64 0, .int .i64 0, .int .i64 0, .int .i64 0, .bool false, .int .i64 0, .int .i64 0, .int .i64 0, .int .i64 0, .int .i64 0, .int .u64 0, .int .u64 0, .int .i64 0, .int .i64 0] 26) = Wa at *
  generalize w1.heap.size = P at *
  refine wp_region_lit ?_
  refine wpList_yield (w' := Wa) (v := .func (.func 19) #[] #[.pointer (some ⟨P, 0, none⟩)]) rfl (by go_simp) ?_
  refine wpList_enter rfl (by go_simp) (num_rds HSa.out E0.out) ?_
  rintro e W2 ⟨rfl, hs⟩
  refine ⟨_, rfl, ?_⟩
  have HS2 := Lib.hid hs
  clear hs HSa
  refine wpList_yield (w' := W2) (v := .func (.func 19) #[] #[.pointer (some ⟨P, 0, none⟩)]) rfl (by go_simp) ?_
  refine wpList_enter rfl (by go_simp) (num_rds HS2.out E1.out) ?_
  rintro e W3 ⟨rfl, hs⟩
  refine ⟨_, rfl, ?_⟩
  have HS3 := Lib.hid hs
  clear hs HS2
  refine wpList_yield (w' := W3) (v := .func (.func 19) #[] #[.pointer (some ⟨P, 0, none⟩)]) rfl (by go_simp) ?_
  refine wpList_enter rfl (by go_simp) (num_rds HS3.out E2.out) ?_
  rintro e W4 ⟨rfl, hs⟩
  refine ⟨_, rfl, ?_⟩
  have HS4 := Lib.hid hs
  clear hs HS3
  refine wpList_yield (w' := W4) (v := .func (.func 19) #[] #[.pointer (some ⟨P, 0, none⟩)]) rfl (by go_simp) ?_
  refine wpList_enter rfl (by go_simp) (num_rds HS4.out E3.out) ?_
  rintro e W5 ⟨rfl, hs⟩
  refine ⟨_, rfl, ?_⟩
  have HS5 := Lib.hid hs
  clear hs HS4
  have c0 := cell_of_block (o := 0) HS5.out.job rfl
  have f0 := free_of_block 0 HS5.out.job
  have c1 := cell_of_block (o := 1) HS5.out.job rfl
  have f1 := free_of_block 1 HS5.out.job
  have c2 := cell_of_block (o := 2) HS5.out.job rfl
  have f2 := free_of_block 2 HS5.out.job
  have c3 := cell_of_block (o := 3) HS5.out.job rfl
  have f3 := free_of_block 3 HS5.out.job
  go_upto_region 6 with fail
  have HS6 := Lib.hid (show RdS w (((((W5).setCell ⟨P + 1, 0, none⟩ (.int .i64 x0)).setCell ⟨P + 1, 1, none⟩ (.int .i64 x1)).setCell ⟨P + 1, 2, none⟩ (.int .i64 x2)).setCell ⟨P + 1, 3, none⟩ (.int .i64 x3)) C P (P + 1) s4 [.int .i64 x0, .int .i64 x1, .int .i64 x2, .int .i64 x3, .int .i64 0, .int .i64 0, .int .i64 0, .bool false, .int .i64 0, .int .i64 0, .int .i64 0, .int .i64 0, .int .i64 0, .int .u64 0, .int .u64 0, .int .i64 0, .int .i64 0] from ((((HS5.out).set 0 (.int .i64 x0)).set 1 (.int .i64 x1)).set 2 (.int .i64 x2)).set 3 (.int .i64 x3))
  clear HS5 c0 f0 c1 f1 c2 f2 c3 f3
  generalize ((((W5).setCell ⟨P + 1, 0, none⟩ (.int .i64 x0)).setCell ⟨P + 1, 1, none⟩ (.int .i64 x1)).setCell ⟨P + 1, 2, none⟩ (.int .i64 x2)).setCell ⟨P + 1, 3, none⟩ (.int .i64 x3) = W6 at *
  refine wp_region_lit ?_
  refine wpList_yield (w' := W6) (v := .func (.func 21) #[] #[.pointer (some ⟨P, 0, none⟩)]) rfl (by go_simp) ?_
  refine wpList_enter rfl (by go_simp) (mom_rds HS6.out E4.out) ?_
  rintro e W7 ⟨rfl, hs⟩
  refine ⟨_, rfl, ?_⟩
  have HS7 := Lib.hid hs
  clear hs HS6
  refine wpList_yield (w' := W7) (v := .func (.func 19) #[] #[.pointer (some ⟨P, 0, none⟩)]) rfl (by go_simp) ?_
  refine wpList_enter rfl (by go_simp) (num_rds HS7.out E5.out) ?_
  rintro e W8 ⟨rfl, hs⟩
  refine ⟨_, rfl, ?_⟩
  have HS8 := Lib.hid hs
  clear hs HS7
  refine wpList_yield (w' := W8) (v := .func (.func 19) #[] #[.pointer (some ⟨P, 0, none⟩)]) rfl (by go_simp) ?_
  refine wpList_enter rfl (by go_simp) (num_rds HS8.out E6.out) ?_
  rintro e W9 ⟨rfl, hs⟩
  refine ⟨_, rfl, ?_⟩
  have HS9 := Lib.hid hs
  clear hs HS8
  have c4 := cell_of_block (o := 4) HS9.out.job rfl
  have f4 := free_of_block 4 HS9.out.job
  have c5 := cell_of_block (o := 5) HS9.out.job rfl
  have f5 := free_of_block 5 HS9.out.job
  have c6 := cell_of_block (o := 6) HS9.out.job rfl
  have f6 := free_of_block 6 HS9.out.job
  go_upto_region 7 with fail
  have HS10 := Lib.hid (show RdS w ((((W9).setCell ⟨P + 1, 4, none⟩ (.int .i64 x4)).setCell ⟨P + 1, 5, none⟩ (.int .i64 x5)).setCell ⟨P + 1, 6, none⟩ (.int .i64 x6)) C P (P + 1) s7 [.int .i64 x0, .int .i64 x1, .int .i64 x2, .int .i64 x3, .int .i64 x4, .int .i64 x5, .int .i64 x6, .bool false, .int .i64 0, .int .i64 0, .int .i64 0, .int .i64 0, .int .i64 0, .int .u64 0, .int .u64 0, .int .i64 0, .int .i64 0] from (((HS9.out).set 4 (.int .i64 x4)).set 5 (.int .i64 x5)).set 6 (.int .i64 x6))
  clear HS9 c4 f4 c5 f5 c6 f6
  generalize (((W9).setCell ⟨P + 1, 4, none⟩ (.int .i64 x4)).setCell ⟨P + 1, 5, none⟩ (.int .i64 x5)).setCell ⟨P + 1, 6, none⟩ (.int .i64 x6) = W10 at *
  have cp := cell_of_block (o := 0) HS10.out.ptr rfl
  refine wp_region_lit ?_
  refine wpList_yield (w' := W10) (v := .pointer (some ⟨C, 0, none⟩)) rfl (by go_simp) ?_
  refine wpList_enter rfl (by go_simp) (small_rds HS10.out E7.out) ?_
  rintro e W11 ⟨rfl, hs⟩
  refine ⟨_, rfl, ?_⟩
  have HS11 := Lib.hid hs
  clear hs cp HS10
  have c7 := cell_of_block (o := 7) HS11.out.job rfl
  have f7 := free_of_block 7 HS11.out.job
  go_upto_region 8 with fail
  have HS12 := Lib.hid (show RdS w ((W11).setCell ⟨P + 1, 7, none⟩ (.bool (x7 == 1))) C P (P + 1) s8 [.int .i64 x0, .int .i64 x1, .int .i64 x2, .int .i64 x3, .int .i64 x4, .int .i64 x5, .int .i64 x6, .bool (x7 == 1), .int .i64 0, .int .i64 0, .int .i64 0, .int .i64 0, .int .i64 0, .int .u64 0, .int .u64 0, .int .i64 0, .int .i64 0] from (HS11.out).set 7 (.bool (x7 == 1)))
  clear HS11 c7 f7
  generalize (W11).setCell ⟨P + 1, 7, none⟩ (.bool (x7 == 1)) = W12 at *
  refine wp_region_lit ?_
  refine wpList_yield (w' := W12) (v := .func (.func 19) #[] #[.pointer (some ⟨P, 0, none⟩)]) rfl (by go_simp) ?_
  refine wpList_enter rfl (by go_simp) (num_rds HS12.out E8.out) ?_
  rintro e W13 ⟨rfl, hs⟩
  refine ⟨_, rfl, ?_⟩
  have HS13 := Lib.hid hs
  clear hs HS12
  have c8 := cell_of_block (o := 8) HS13.out.job rfl
  have f8 := free_of_block 8 HS13.out.job
  go_upto_region 9 with fail
  have HS14 := Lib.hid (show RdS w ((W13).setCell ⟨P + 1, 8, none⟩ (.int .i64 x8)) C P (P + 1) s9 [.int .i64 x0, .int .i64 x1, .int .i64 x2, .int .i64 x3, .int .i64 x4, .int .i64 x5, .int .i64 x6, .bool (x7 == 1), .int .i64 x8, .int .i64 0, .int .i64 0, .int .i64 0, .int .i64 0, .int .u64 0, .int .u64 0, .int .i64 0, .int .i64 0] from (HS13.out).set 8 (.int .i64 x8))
  clear HS13 c8 f8
  generalize (W13).setCell ⟨P + 1, 8, none⟩ (.int .i64 x8) = W14 at *
  refine wp_region_lit ?_
  refine wpList_yield (w' := W14) (v := .func (.func 21) #[] #[.pointer (some ⟨P, 0, none⟩)]) rfl (by go_simp) ?_
  refine wpList_enter rfl (by go_simp) (mom_rds HS14.out E9.out) ?_
  rintro e W15 ⟨rfl, hs⟩
  refine ⟨_, rfl, ?_⟩
  have HS15 := Lib.hid hs
  clear hs HS14
  refine wpList_yield (w' := W15) (v := .func (.func 21) #[] #[.pointer (some ⟨P, 0, none⟩)]) rfl (by go_simp) ?_
  refine wpList_enter rfl (by go_simp) (mom_rds HS15.out E10.out) ?_
  rintro e W16 ⟨rfl, hs⟩
  refine ⟨_, rfl, ?_⟩
  have HS16 := Lib.hid hs
  clear hs HS15
  refine wpList_yield (w' := W16) (v := .func (.func 21) #[] #[.pointer (some ⟨P, 0, none⟩)]) rfl (by go_simp) ?_
  refine wpList_enter rfl (by go_simp) (mom_rds HS16.out E11.out) ?_
  rintro e W17 ⟨rfl, hs⟩
  refine ⟨_, rfl, ?_⟩
  have HS17 := Lib.hid hs
  clear hs HS16
  have c9 := cell_of_block (o := 9) HS17.out.job rfl
  have f9 := free_of_block 9 HS17.out.job
  have c10 := cell_of_block (o := 10) HS17.out.job rfl
  have f10 := free_of_block 10 HS17.out.job
  have c11 := cell_of_block (o := 11) HS17.out.job rfl
  have f11 := free_of_block 11 HS17.out.job
  go_upto_region 10 with fail
  have HS18 := Lib.hid (show RdS w ((((W17).setCell ⟨P + 1, 9, none⟩ (.int .i64 x9)).setCell ⟨P + 1, 10, none⟩ (.int .i64 x10)).setCell ⟨P + 1, 11, none⟩ (.int .i64 x11)) C P (P + 1) s12 [.int .i64 x0, .int .i64 x1, .int .i64 x2, .int .i64 x3, .int .i64 x4, .int .i64 x5, .int .i64 x6, .bool (x7 == 1), .int .i64 x8, .int .i64 x9, .int .i64 x10, .int .i64 x11, .int .i64 0, .int .u64 0, .int .u64 0, .int .i64 0, .int .i64 0] from (((HS17.out).set 9 (.int .i64 x9)).set 10 (.int .i64 x10)).set 11 (.int .i64 x11))
  clear HS17 c9 f9 c10 f10 c11 f11
  generalize (((W17).setCell ⟨P + 1, 9, none⟩ (.int .i64 x9)).setCell ⟨P + 1, 10, none⟩ (.int .i64 x10)).setCell ⟨P + 1, 11, none⟩ (.int .i64 x11) = W18 at *
  refine wp_region_lit ?_
  refine wpList_yield (w' := W18) (v := .func (.func 19) #[] #[.pointer (some ⟨P, 0, none⟩)]) rfl (by go_simp) ?_
  refine wpList_enter rfl (by go_simp) (num_rds HS18.out E12.out) ?_
  rintro e W19 ⟨rfl, hs⟩
  refine ⟨_, rfl, ?_⟩
  have HS19 := Lib.hid hs
  clear hs HS18
  have c12 := cell_of_block (o := 12) HS19.out.job rfl
  have f12 := free_of_block 12 HS19.out.job
  go_upto_region 11 with fail
  have HS20 := Lib.hid (show RdS w ((W19).setCell ⟨P + 1, 12, none⟩ (.int .i64 x12)) C P (P + 1) s13 [.int .i64 x0, .int .i64 x1, .int .i64 x2, .int .i64 x3, .int .i64 x4, .int .i64 x5, .int .i64 x6, .bool (x7 == 1), .int .i64 x8, .int .i64 x9, .int .i64 x10, .int .i64 x11, .int .i64 x12, .int .u64 0, .int .u64 0, .int .i64 0, .int .i64 0] from (HS19.out).set 12 (.int .i64 x12))
  clear HS19 c12 f12
  generalize (W19).setCell ⟨P + 1, 12, none⟩ (.int .i64 x12) = W20 at *
  have HSd := Lib.hid (HS20.out.below (show Below (W20).heap.size W20 (W20).drew from (Below.refl _ _).drew))
  clear HS20
  refine wp_region_held (S := fun X => X.cell? ⟨P, 0, none⟩ = some (.pointer (some ⟨C, 0, none⟩))) hmx ?_
  have hcp := cell_of_block (o := 0) HSd.out.ptr rfl
  change wpAnyH _ _ _ _ _ 10 _ _ (W20).drew
  generalize (W20).drew = Wd at *
  refine wpAnyH_take (i := 0) (v := .pointer (some ⟨C, 0, none⟩)) rfl (by decide +kernel) (by decide +kernel) (by decide +kernel) (fun _ _ _ h => h) (.inl ⟨by first | rfl | (go_simp; done), fun X hX => by first | (go_simp; done) | (go_simp; rfl)⟩) hcp ?_
  refine wpAnyH_take (i := 3) (v := .pointer (some ⟨C, 0, none⟩)) rfl (by decide +kernel) (by decide +kernel) (by decide +kernel) (fun _ _ _ h => h) (.inl ⟨by first | rfl | (go_simp; done), fun X hX => by first | (go_simp; done) | (go_simp; rfl)⟩) hcp ?_
  refine anyH_call (i := 1) (by decide +kernel) rfl (by first | rfl | (go_simp; done)) (by go_simp) (int_rds HSd.out E13.out) ?_
  rintro e We ⟨rfl, hs⟩
  have HSe := Lib.hid hs
  clear hs hcp HSd
  have hcp := cell_of_block (o := 0) HSe.out.ptr rfl
  refine ⟨_, rfl, hcp, ?_⟩
  refine wpAnyH_take (i := 2) (v := .int .u64 (IntKind.u64.wrap x13)) rfl (by decide +kernel) (by decide +kernel) (by decide +kernel) (fun _ _ _ h => h) (.inl ⟨by first | rfl | (go_simp; done), fun X hX => by first | (go_simp; done) | (go_simp; rfl)⟩) hcp ?_
  refine wpAnyH_take (i := 6) (v := .pointer (some ⟨P + 1, 13, none⟩)) rfl (by decide +kernel) (by decide +kernel) (by decide +kernel) (fun _ _ _ h => h) (.inl ⟨by first | rfl | (go_simp; done), fun X hX => by first | (go_simp; done) | (go_simp; rfl)⟩) hcp ?_
  refine anyH_call (i := 4) (by decide +kernel) rfl (by first | rfl | (go_simp; done)) (by go_simp) (int_rds HSe.out E14.out) ?_
  rintro e Wf ⟨rfl, hs⟩
  have HSf := Lib.hid hs
  clear hs hcp HSe
  have hcp := cell_of_block (o := 0) HSf.out.ptr rfl
  refine ⟨_, rfl, hcp, ?_⟩
  refine wpAnyH_take (i := 5) (v := .int .u64 (IntKind.u64.wrap x14)) rfl (by decide +kernel) (by decide +kernel) (by decide +kernel) (fun _ _ _ h => h) (.inl ⟨by first | rfl | (go_simp; done), fun X hX => by first | (go_simp; done) | (go_simp; rfl)⟩) hcp ?_
  have c0 := cell_of_block (o := 13) HSf.out.job rfl
  have f0 := free_of_block 13 HSf.out.job
  have HSg := Lib.hid (show RdS w ((Wf).setCell ⟨P + 1, 13, none⟩ (.int .u64 (IntKind.u64.wrap x13))) C P (P + 1) s15 [.int .i64 x0, .int .i64 x1, .int .i64 x2, .int .i64 x3, .int .i64 x4, .int .i64 x5, .int .i64 x6, .bool (x7 == 1), .int .i64 x8, .int .i64 x9, .int .i64 x10, .int .i64 x11, .int .i64 x12, .int .u64 (IntKind.u64.wrap x13), .int .u64 0, .int .i64 0, .int .i64 0] from HSf.out.set 13 (.int .u64 (IntKind.u64.wrap x13)))
  refine anyH_store (i := 7) (w' := (Wf).setCell ⟨P + 1, 13, none⟩ (.int .u64 (IntKind.u64.wrap x13))) (by decide +kernel) rfl (by first | rfl | (go_simp; done)) (by go_simp) (cell_of_block (o := 0) HSg.out.ptr rfl) ?_
  clear c0 f0 HSf
  generalize (Wf).setCell ⟨P + 1, 13, none⟩ (.int .u64 (IntKind.u64.wrap x13)) = Wg at *
  clear hcp
  have hcp := cell_of_block (o := 0) HSg.out.ptr rfl
  refine wpAnyH_take (i := 8) (v := .pointer (some ⟨P + 1, 14, none⟩)) rfl (by decide +kernel) (by decide +kernel) (by decide +kernel) (fun _ _ _ h => h) (.inl ⟨by first | rfl | (go_simp; done), fun X hX => by first | (go_simp; done) | (go_simp; rfl)⟩) hcp ?_
  have c0 := cell_of_block (o := 14) HSg.out.job rfl
  have f0 := free_of_block 14 HSg.out.job
  have HSh := Lib.hid (show RdS w ((Wg).setCell ⟨P + 1, 14, none⟩ (.int .u64 (IntKind.u64.wrap x14))) C P (P + 1) s15 [.int .i64 x0, .int .i64 x1, .int .i64 x2, .int .i64 x3, .int .i64 x4, .int .i64 x5, .int .i64 x6, .bool (x7 == 1), .int .i64 x8, .int .i64 x9, .int .i64 x10, .int .i64 x11, .int .i64 x12, .int .u64 (IntKind.u64.wrap x13), .int .u64 (IntKind.u64.wrap x14), .int .i64 0, .int .i64 0] from HSg.out.set 14 (.int .u64 (IntKind.u64.wrap x14)))
  refine anyH_store (i := 9) (w' := (Wg).setCell ⟨P + 1, 14, none⟩ (.int .u64 (IntKind.u64.wrap x14))) (by decide +kernel) rfl (by first | rfl | (go_simp; done)) (by go_simp) (cell_of_block (o := 0) HSh.out.ptr rfl) ?_
  clear c0 f0 HSg
  generalize (Wg).setCell ⟨P + 1, 14, none⟩ (.int .u64 (IntKind.u64.wrap x14)) = Wh at *
  refine wpAnyH_done (by decide +kernel) ?_ _
  clear hcp
  go_upto_region 12 with fail
  refine wp_region_lit ?_
  refine wpList_yield (w' := Wh) (v := .func (.func 21) #[] #[.pointer (some ⟨P, 0, none⟩)]) rfl (by go_simp) ?_
  refine wpList_enter rfl (by go_simp) (mom_rds HSh.out E15.out) ?_
  rintro e W21 ⟨rfl, hs⟩
  refine ⟨_, rfl, ?_⟩
  have HS21 := Lib.hid hs
  clear hs HSh
  refine wpList_yield (w' := W21) (v := .func (.func 21) #[] #[.pointer (some ⟨P, 0, none⟩)]) rfl (by go_simp) ?_
  refine wpList_enter rfl (by go_simp) (mom_rds HS21.out E16.out) ?_
  rintro e W22 ⟨rfl, hs⟩
  refine ⟨_, rfl, ?_⟩
  have HS22 := Lib.hid hs
  clear hs HS21
  have c15 := cell_of_block (o := 15) HS22.out.job rfl
  have f15 := free_of_block 15 HS22.out.job
  have c16 := cell_of_block (o := 16) HS22.out.job rfl
  have f16 := free_of_block 16 HS22.out.job
  go_upto_region 13 with fail
  have HS23 := Lib.hid (show RdS w (((W22).setCell ⟨P + 1, 15, none⟩ (.int .i64 x15)).setCell ⟨P + 1, 16, none⟩ (.int .i64 x16)) C P (P + 1) s17 [.int .i64 x0, .int .i64 x1, .int .i64 x2, .int .i64 x3, .int .i64 x4, .int .i64 x5, .int .i64 x6, .bool (x7 == 1), .int .i64 x8, .int .i64 x9, .int .i64 x10, .int .i64 x11, .int .i64 x12, .int .u64 (IntKind.u64.wrap x13), .int .u64 (IntKind.u64.wrap x14), .int .i64 x15, .int .i64 x16] from ((HS22.out).set 15 (.int .i64 x15)).set 16 (.int .i64 x16))
  clear HS22 c15 f15 c16 f16
  generalize ((W22).setCell ⟨P + 1, 15, none⟩ (.int .i64 x15)).setCell ⟨P + 1, 16, none⟩ (.int .i64 x16) = W23 at *
  have hjv := HS23.out
  rw [← nv_setOf x13, ← nv_setOf x14] at hjv
  obtain ⟨jv, hjv1⟩ : ∃ jv : JobV, jv = ⟨x0, x1, x2, x3, x4, x5, x6, x7 == 1, x8, x9, x10, x11, x12, setOf x13, setOf x14, x15, x16⟩ := ⟨_, rfl⟩
  have HSj := Lib.hid (show RdS w W23 C P (P + 1) s17 (jobC jv) from hjv1 ▸ hjv)
  have HRJ := Lib.hid (show readJ bs = (s17, jv) from hjv1 ▸ HRD.out)
  clear hjv hjv1 HRD HS23
  have cp := cell_of_block (o := 0) HSj.out.ptr rfl
  have HEW := Lib.hid (HE.out.below HSj.out.bel)
  have KB := Lib.hid (bad_cur HSj.out.cur HEW.out)
  have HOK := Lib.hid (show ∀ b, ((s17.bad == 0) && rightB jv) = b → okJ bs = b from fun b hb => by unfold okJ; rw [HRJ.out]; exact hb)
  have HNO := Lib.hid (show okJ bs = false → gotJ bs = job0 ∧ cntJ bs = 0 ∧ codeJ bs = 11 from fun h => by unfold gotJ cntJ codeJ; rw [h]; exact ⟨rfl, rfl, rfl⟩)
  have HYES := Lib.hid (show okJ bs = true → gotJ bs = jv ∧ cntJ bs = (n : Int) - (s17.xs.length : Int) ∧ codeJ bs = 0 from fun h => by unfold gotJ cntJ codeJ; rw [h, HRJ.out, HN.out]; exact ⟨rfl, rfl, rfl⟩)
  have HLJ := Lib.hid (jobC_len jv)
  have HJ1 := Lib.hid (jobC_one jv)
  have hrj : rightB jv = true ∨ rightB jv = false := by cases rightB jv; exact .inr rfl; exact .inl rfl
  have KRj := Lib.hid (fun b (h : rightB jv = b) X => right_is h X)
  have hft := HSj.out.cur.fits
  have hln : n ≤ 1099511627775 := by rw [HN.out]; exact HLB.out
  clear HEW
  generalize hcj : jobC jv = lj at *
  have HCJ := Lib.hid hcj
  clear hcj
  refine wp_region_lit ?_
  refine wpList_yield (w' := W23) (v := .pointer (some ⟨C, 0, none⟩)) rfl (by go_simp) ?_
  refine wpList_enter rfl (by go_simp) KB.out ?_
  rintro e Wk ⟨rfl, hbk⟩
  refine ⟨_, rfl, ?_⟩
  have HSk := Lib.hid (HSj.out.below hbk)
  clear cp hbk HSj KB
  generalize hbd : s17.bad = bd at *
  cases hb : (bd == 0) with
  | false =>
    have hb' : (bd != 0) = true := by unfold bne; rw [hb]; rfl
    have E := HNO.out (HOK.out false (by rw [hb]; rfl))
    have E := Lib.hid E
    go_upto_region 14 with fail
    refine wp_region_lit ?_
    refine wpList_yield (w' := Wk) (v := .agg (jobC job0).toArray) rfl (by go_simp; rfl) ?_
    refine wpList_store_all rfl 26 _ _ rfl w.heap.size (T := 26) (jobC job0) (by go_simp) (by go_simp) HSk.out.res rfl (by kernel_rfl) rfl ?_
    intro w9 hw9
    have HW9 := Lib.hid hw9.there
    have HB9 := Lib.hid (hw9.below HSk.out.bel (Nat.le_refl _))
    clear hw9
    go_wp2_with fail
    exact bodyPost_ret (results_all3 (jobC job0) _ Tryd.results5 (by go_simp) HW9.out Tryd.underlying26 rfl (by kernel_rfl)) rfl ⟨by rw [E.out.1, E.out.2.1, E.out.2.2]; first | done | rfl, HB9.out⟩
  | true =>
    have hb' : (bd != 0) = false := by unfold bne; rw [hb]; rfl
    refine wpList_yield (w' := Wk) (v := .bool false) rfl (by first | (go_simp; done) | (go_simp; rfl)) ?_
    refine wpList_yield (w' := Wk) (v := .bool false) rfl (by first | (go_simp; done) | (go_simp; rfl)) ?_
    refine wpList_load_all_w (by first | (go_simp; done) | (go_simp; rfl)) 26 _ rfl (P + 1) lj _ (by go_simp) HSk.out.job Tryd.underlying26 rfl (by rw [HLJ.out]; kernel_rfl) ?_
    rcases hrj with hr | hr
    · refine wpList_enter_w (by first | (go_simp; done) | (go_simp; rfl)) (by go_simp) (KRj.out true hr Wk) ?_
      rintro e Wl ⟨rfl, hbl⟩
      refine ⟨_, rfl, ?_⟩
      have HSl := Lib.hid (HSk.out.below hbl)
      clear hbl HSk
      have E := Lib.hid (HYES.out (HOK.out true (by rw [hb, hr]; rfl)))
      go_upto_region 15 with fail
      have HSm := Lib.hid (HSl.out.below (show Below Wl.heap.size Wl Wl.drew from (Below.refl _ _).drew))
      have hsub : IntKind.i64.wrap ((n : Int) - (s17.xs.length : Int)) = (n : Int) - (s17.xs.length : Int) := by rw [IntKind.wrap_i64]; omega
      have cp := cell_of_block (o := 0) HSm.out.ptr rfl
      refine wp_region_held (S := fun X => X.heap[P + 1]? = some (.cells lj.toArray 26 (0, 0)) ∧ X.cell? ⟨P, 0, none⟩ = some (.pointer (some ⟨C, 0, none⟩))) hmx ?_
      change wpAnyH _ _ _ _ _ 9 _ _ Wl.drew
      generalize Wl.drew = Wn at *
      have hSS : Wn.heap[P + 1]? = some (.cells lj.toArray 26 (0, 0)) ∧ Wn.cell? ⟨P, 0, none⟩ = some (.pointer (some ⟨C, 0, none⟩)) := ⟨HSm.out.job, cp⟩
      clear cp
      refine wpAnyH_take (i := 0) (v := .agg lj.toArray) rfl (by decide +kernel) (by decide +kernel) (by decide +kernel) (fun _ _ _ h => h) (yieldsIf_load_mid (by first | rfl | (go_simp; done)) 26 _ rfl (P + 1) 0 (by go_simp) lj _ (fun X hX => range_of_block hX.1) Tryd.underlying26 rfl (by rw [HLJ.out]; kernel_rfl)) hSS ?_
      refine wpAnyH_take (i := 1) (v := .slice ad n c) rfl (by decide +kernel) (by decide +kernel) (by decide +kernel) (fun _ _ _ h => h) (.inl ⟨by first | rfl | (go_simp; done), fun X hX => by have hx2 := hX.2; clear hX; first | (go_simp; done) | (go_simp; rfl)⟩) hSS ?_
      refine wpAnyH_take (i := 2) (v := .int .i64 (n : Int)) rfl (by decide +kernel) (by decide +kernel) (by decide +kernel) (fun _ _ _ h => h) (.inl ⟨by first | rfl | (go_simp; done), fun X hX => by have hx2 := hX.2; clear hX; first | (go_simp; done) | (go_simp; rfl)⟩) hSS ?_
      refine wpAnyH_take (i := 3) (v := .pointer (some ⟨C, 0, none⟩)) rfl (by decide +kernel) (by decide +kernel) (by decide +kernel) (fun _ _ _ h => h) (.inl ⟨by first | rfl | (go_simp; done), fun X hX => by have hx2 := hX.2; clear hX; first | (go_simp; done) | (go_simp; rfl)⟩) hSS ?_
      refine anyH_call (i := 4) (by decide +kernel) rfl (by first | rfl | (go_simp; done)) (by go_simp) (rest_cur HSm.out.cur) ?_
      rintro e Wo ⟨rfl, rfl⟩
      refine ⟨_, rfl, hSS, ?_⟩
      refine wpAnyH_take (i := 5) (v := .int .i64 ((n : Int) - (s17.xs.length : Int))) rfl (by decide +kernel) (by decide +kernel) (by decide +kernel) (fun _ _ _ h => h) (.inl ⟨by first | rfl | (go_simp; done), fun X hX => by have hx2 := hX.2; clear hX; first | (go_simp; done) | (go_simp; rfl)⟩) hSS ?_
      have hPP : w.heap.size < P := by have := HSm.out.cur.mem; omega
      have hw9 := wrote_all HSm.out.res (l := lj) (by rw [HLJ.out]; rfl)
      have hS9 : (Wn.setCells w.heap.size 0 lj).heap[P + 1]? = some (.cells lj.toArray 26 (0, 0)) ∧ (Wn.setCells w.heap.size 0 lj).cell? ⟨P, 0, none⟩ = some (.pointer (some ⟨C, 0, none⟩)) := ⟨(hw9.rest _ (by omega)).trans hSS.1, cell_of_block (o := 0) ((hw9.rest _ (by omega)).trans HSm.out.ptr) rfl⟩
      refine anyH_store (i := 6) (by decide +kernel) rfl (by first | rfl | (go_simp; done)) (exec_store_all 26 _ _ rfl w.heap.size lj (by go_simp) (by go_simp) HSm.out.res (by rw [HLJ.out]; rfl) (by rw [HLJ.out]; kernel_rfl) HJ1.out) hS9 ?_
      have HW9 := Lib.hid hw9.there
      have HB9 := Lib.hid (hw9.below HSm.out.bel (Nat.le_refl _))
      clear hw9 hSS hPP
      generalize Wn.setCells w.heap.size 0 lj = w9 at *
      refine wpAnyH_take (i := 7) (v := .int .i64 ((n : Int) - (s17.xs.length : Int))) rfl (by decide +kernel) (by decide +kernel) (by decide +kernel) (fun _ _ _ h => h) (.inl ⟨by first | rfl | (go_simp; done), fun X hX => by have hx2 := hX.2; clear hX; first | (go_simp; done) | (go_simp; rfl)⟩) hS9 ?_
      refine wpAnyH_take (i := 8) (v := .int .i64 0) rfl (by decide +kernel) (by decide +kernel) (by decide +kernel) (fun _ _ _ h => h) (.inl ⟨by first | rfl | (go_simp; done), fun X hX => by have hx2 := hX.2; clear hX; first | (go_simp; done) | (go_simp; rfl)⟩) hS9 ?_
      refine wpAnyH_done (by decide +kernel) ?_ _
      clear hS9
      go_wp2_with fail
      exact bodyPost_ret (results_all3 lj _ Tryd.results5 (by go_simp) HW9.out Tryd.underlying26 rfl (by rw [HLJ.out]; kernel_rfl)) rfl ⟨by rw [E.out.1, E.out.2.1, E.out.2.2, HCJ.out]; first | done | (go_simp; done) | kernel_rfl, HB9.out⟩
    · refine wpList_enter_w (by first | (go_simp; done) | (go_simp; rfl)) (by go_simp) (KRj.out false hr Wk) ?_
      rintro e Wl ⟨rfl, hbl⟩
      refine ⟨_, rfl, ?_⟩
      have HSl := Lib.hid (HSk.out.below hbl)
      clear hbl HSk
      have E := Lib.hid (HNO.out (HOK.out false (by rw [hb, hr]; rfl)))
      go_upto_region 14 with fail
      refine wp_region_lit ?_
      refine wpList_yield (w' := Wl) (v := .agg (jobC job0).toArray) rfl (by go_simp; rfl) ?_
      refine wpList_store_all rfl 26 _ _ rfl w.heap.size (T := 26) (jobC job0) (by go_simp) (by go_simp) HSl.out.res rfl (by kernel_rfl) rfl ?_
      intro w9 hw9
      have HW9 := Lib.hid hw9.there
      have HB9 := Lib.hid (hw9.below HSl.out.bel (Nat.le_refl _))
      clear hw9
      go_wp2_with fail
      exact bodyPost_ret (results_all3 (jobC job0) _ Tryd.results5 (by go_simp) HW9.out Tryd.underlying26 rfl (by kernel_rfl)) rfl ⟨by rw [E.out.1, E.out.2.1, E.out.2.2]; first | done | rfl, HB9.out⟩
end Go.Proofs.YtgeldpfojmkdbaaDoor
namespace Go.Proofs.YtgeldpfojmkdbaaDoor
set_option linter.unusedVariables false
open Go.ChangeShapes Go.WideShapes Go.ChangeAt Go.RowKit Go.Lib
attribute [local go_sem ↓] Go.wp_at_zero Go.wp_at_succ comesTo_value_eq comesTo_skip_eq comesTo_enter_eq

theorem str_append (xs ys : List Int) : strOfNums xs ++ strOfNums ys = strOfNums (xs ++ ys) := by
  apply ByteArray.ext
  simp [strOfNums, ByteArray.data_append]
theorem rfold_any {v : Int} (h : -9223372036854775808 ≤ v ∧ v ≤ 9223372036854775807) (w : World) : Calls Tryd.prog 51 #[.int .i64 v] w fun e w' => e = .returned (.int .u64 (foldF v : Int)) ∧ w = w' := by
  by_cases hv : v < 0
  · have hd : decide (v < 0) = true := decide_eq_true hv
    go_enter Tryd.func51, Tryd.ntmps51
    go_wp2
    go_ret
    refine ⟨?_, rfl⟩
    have e : (foldF v : Int) = 2 * -(v + 1) + 1 := by unfold foldF; rw [if_pos hv]; omega
    rw [e]
    rfl
  · have hd : decide (v < 0) = false := decide_eq_false hv
    go_enter Tryd.func51, Tryd.ntmps51
    go_wp2
    go_ret
    refine ⟨?_, rfl⟩
    have e : (foldF v : Int) = 2 * v := by unfold foldF; rw [if_neg (by omega)]; omega
    rw [e]
    rfl
set_option maxRecDepth 100000 in
theorem rputint_any (xs : List Int) (hxl : xs.length ≤ 1099511627776) {n : Int} (hn : -9223372036854775808 ≤ n ∧ n ≤ 9223372036854775807) (w : World) :
    Calls Tryd.prog 29 #[.string (strOfNums xs), .int .i64 n] w fun e w' => e = .returned (.string (strOfNums (xs ++ putI n))) ∧ Below w.heap.size w w' := by
  have K := Lib.hid (rfold_any hn w)
  have h64 := fold_lt hn
  have hlen := putI_len hn
  unfold putI at *
  generalize foldF n = u0 at *
  have HL := Lib.hid hlen
  clear hlen
  go_enter Tryd.func29, Tryd.ntmps29
  go_wp2_with fail
  refine K.out.mono ?_
  rintro e w' ⟨rfl, rfl⟩
  go_wp2_with fail
  go_loopw [0, 5] (fun b r wr => ∃ (acc : List Int) (u : Nat), b = .string (strOfNums (xs ++ acc)) ∧ r = .int .u64 (u : Int) ∧ u < 18446744073709551616 ∧ acc ++ putU u = putU u0 ∧ Below w.heap.size w wr) (fun _ r _ => (intOf r).toNat)
  case atStart => exact ⟨[], u0, by rw [List.append_nil], rfl, h64, rfl, Below.refl _ _⟩
  case round =>
    obtain ⟨acc, u, rfl, rfl, hu, hacc, hb⟩ := hrel
    have HA := Lib.hid hacc
    have HB := Lib.hid hb
    clear hacc hb
    by_cases h128 : u < 128
    · have hq : decide ((u : Int) ≥ 128) = false := decide_eq_false (by omega)
      have hw : IntKind.u8.wrap (u : Int) = (u : Int) := by rw [IntKind.wrap_u8']; omega
      have hA1 := below_alloc (Below.refl _ wr) (.cells #[.int .u8 (u : Int)] 5)
      have hcv := txt_conv (byte_txt (World.alloc_heap_new wr (.cells #[.int .u8 (u : Int)] 5)) (by omega)) _ (Below.refl _ _)
      have hap := str_append (xs ++ acc) [(u : Int)]
      have hsz : ¬ 9223372036854775807 < (strOfNums (xs ++ acc)).size + (strOfNums [(u : Int)]).size := by
        rw [size_str, size_str]
        have h1 := putU_len u
        have h2 : acc.length + (putU u).length ≤ 10 := by rw [← List.length_append, HA.out]; exact HL.out
        simp only [List.length_append, List.length_cons, List.length_nil]
        omega
      have HF := Lib.hid (below_next HB.out hA1)
      clear hA1
      go_wp2
      go_ret
      refine ⟨?_, HF.out⟩
      rw [← HA.out, putU_lt h128]
      rfl
    · have hq : decide ((u : Int) ≥ 128) = true := decide_eq_true (by omega)
      have HM := Lib.hid (show u / 128 < u ∧ u / 128 < 18446744073709551616 by omega)
      have hA1 := below_alloc (Below.refl _ wr) (.cells #[.int .u8 ((u : Int) % 128 + 128)] 5)
      have hcv := txt_conv (byte_txt (World.alloc_heap_new wr (.cells #[.int .u8 ((u : Int) % 128 + 128)] 5)) (by omega)) _ (Below.refl _ _)
      have hap := str_append (xs ++ acc) [(u : Int) % 128 + 128]
      have hsz : ¬ 9223372036854775807 < (strOfNums (xs ++ acc)).size + (strOfNums [(u : Int) % 128 + 128]).size := by
        rw [size_str, size_str]
        have h2 : acc.length + (putU u).length ≤ 10 := by rw [← List.length_append, HA.out]; exact HL.out
        simp only [List.length_append, List.length_cons, List.length_nil]
        omega
      have HF := Lib.hid (below_next HB.out hA1)
      have HA2 := Lib.hid (show (acc ++ [(u : Int) % 128 + 128]) ++ putU (u / 128) = putU u0 by
        rw [← HA.out, putU_ge h128, List.append_assoc, show ((u % 128 + 128 : Nat) : Int) = (u : Int) % 128 + 128 by omega]; rfl)
      clear hA1
      go_wp2
      go_roundw
      case rel => exact ⟨acc ++ [(u : Int) % 128 + 128], u / 128, rfl, by rw [Int.natCast_ediv]; rfl, HM.out.2, HA2.out, HF.out⟩
      case measure => have := HM.out.1; simp [intOf]; omega
end Go.Proofs.YtgeldpfojmkdbaaDoor
namespace Go.Proofs.YtgeldpfojmkdbaaDoor
set_option linter.unusedVariables false
open Go.ChangeShapes Go.WideShapes Go.ChangeAt Go.RowKit Go.Lib
attribute [local go_sem ↓] Go.wp_at_zero Go.wp_at_succ comesTo_value_eq comesTo_skip_eq comesTo_enter_eq

theorem res_cell_tmp {P : Program} {fn : Func} {p t : Tmp} {ty : TypeId} {tmps : Array Value} {w : World} {ad : Addr} {x y : Value} (h : fn.results = #[.cell p ty, .tmp t]) (hp : tmps.getD p undef = .pointer (some ad)) (ht : tmps.getD t undef = y)
    (hl : (loadVar ty ad).run P w = .ok x w) : (results fn tmps).run P w = .ok (.tuple #[x, y]) w := by
  have hp' : tmps[p]?.getD undef = .pointer (some ad) := by simpa using hp
  have ht' : tmps[t]?.getD undef = y := by simpa using ht
  simp [results, h, hp', ht', asAddr, hl]
theorem res_cell {P : Program} {fn : Func} {p : Tmp} {ty : TypeId} {tmps : Array Value} {w : World} {ad : Addr} {x : Value} (h : fn.results = #[.cell p ty]) (hp : tmps.getD p undef = .pointer (some ad))
    (hl : (loadVar ty ad).run P w = .ok x w) : (results fn tmps).run P w = .ok x w := by
  have hp' : tmps[p]?.getD undef = .pointer (some ad) := by simpa using hp
  simp [results, h, hp', asAddr, hl]
theorem str_extract (xs : List Int) (a b : Nat) : (strOfNums xs).extract a b = strOfNums ((xs.drop a).take (b - a)) := by
  apply ByteArray.ext
  simp [strOfNums, ByteArray.data_extract, List.map_drop, List.map_take, List.extract_eq_take_drop]
theorem str_get (xs : List Int) (k : Nat) (hk : k < (strOfNums xs).size) (h : ∀ x ∈ xs, 0 ≤ x ∧ x ≤ 255) : (((strOfNums xs)[k]'hk).toNat : Int) = xs.getD k 0 := by
  have hk' : k < xs.length := by rw [size_str] at hk; exact hk
  have hb := getD_in h k hk'
  have e : (strOfNums xs)[k]'hk = UInt8.ofNat (xs.getD k 0).toNat := by
    show (strOfNums xs).data[k] = _
    simp [strOfNums, List.getD, List.getElem?_eq_getElem hk']
  rw [e]
  generalize xs.getD k 0 = y at *
  rw [UInt8.toNat_ofNat']
  omega
theorem runfold_any {u : Nat} (hu : u < 18446744073709551616) (w : World) : Calls Tryd.prog 46 #[.int .u64 (u : Int)] w fun e w' => e = .returned (.int .i64 (unfoldF u)) ∧ w = w' := by
  by_cases h : u % 2 = 1
  · have hd : ((u : Int) % 2 == 1) = true := by rw [beq_iff_eq]; omega
    go_enter Tryd.func46, Tryd.ntmps46
    go_wp2
    go_ret
    refine ⟨?_, rfl⟩
    have e : unfoldF u = -((u : Int) / 2) - 1 := by unfold unfoldF; rw [if_pos h]; omega
    rw [e]
    rfl
  · have hd : ((u : Int) % 2 == 1) = false := by rw [beq_eq_false_iff_ne]; omega
    go_enter Tryd.func46, Tryd.ntmps46
    go_wp2
    go_ret
    refine ⟨?_, rfl⟩
    have e : unfoldF u = (u : Int) / 2 := by unfold unfoldF; rw [if_neg h]; omega
    rw [e]
    rfl
theorem radd_step {u m k : Nat} (hu : u < 2 ^ (7 * k)) (hk : k ≤ 9) (hm : m ≤ 255) (hA : ¬ (k = 9 ∧ 1 < m)) :
    IntKind.u64.wrap ((u : Int) + IntKind.u64.wrap ((m : Int) % 128 * 2 ^ (7 * k))) = ((u + m % 128 * 2 ^ (7 * k) : Nat) : Int) := by
  have hlt := or_lt hu hk hm hA
  have e : ((m : Int) % 128) * 2 ^ (7 * k) = ((m % 128 * 2 ^ (7 * k) : Nat) : Int) := by
    rw [show (m : Int) % 128 = ((m % 128 : Nat) : Int) by omega]
    simp [Int.natCast_mul, Int.natCast_pow]
  rw [e, IntKind.wrap_u64 ((m % 128 * 2 ^ (7 * k) : Nat) : Int), show ((m % 128 * 2 ^ (7 * k) : Nat) : Int) % 18446744073709551616 = ((m % 128 * 2 ^ (7 * k) : Nat) : Int) by omega, IntKind.wrap_u64]
  omega
theorem rc_load {W : World} {b : Nat} {x y : Value} (h : W.heap[b]? = some (.cells #[x, y] 57 (0, 0))) : (loadVar 57 ⟨b, 0, none⟩).run Tryd.prog W = .ok (.agg #[x, y]) W := by
  have c0 := cell_of_block (o := 0) h rfl
  have c1 := cell_of_block (o := 1) h rfl
  go_simp
/-- a cursor's value -/
def RC (st : CS) : Value := .agg #[.string (strOfNums st.xs), .int .i64 st.bad]
theorem rwrong_any (S : ByteArray) (b e : Int) (w : World) : Calls Tryd.prog 45 #[.agg #[.string S, .int .i64 b], .int .i64 e] w fun r w' => r = .returned (.agg #[.string ⟨#[]⟩, .int .i64 e]) ∧ Below w.heap.size w w' := by
  have hA := below_alloc (below_alloc (Below.refl _ w) (.cells #[.string S, .int .i64 b] 57)) (.cells #[.string .empty, .int .i64 0] 57)
  go_enter Tryd.func45, Tryd.ntmps45
  go_wp2
  exact bodyPost_ret (v := .agg #[.string ⟨#[]⟩, .int .i64 e]) (by simp [results, Tryd.results45, go_sem]) rfl ⟨rfl, (by repeat (first | exact Below.refl _ _ | assumption | refine below_drewN ?_ _ | refine Below.drew ?_ | refine below_alloc ?_ _ | refine Below.alloc ?_ (by first | omega | (simp; done) | (simp; omega)) _ | refine Below.setCell ?_ (Below.size (by assumption)) _ | refine Below.setCell ?_ (by first | omega | (simp; done) | (simp; omega)) _ | (refine Below.trans ?_ (Below.mono (by assumption) (by first | omega | (simp; done) | (simp; omega)))) | refine below_next ?_ (by assumption)))⟩
set_option maxRecDepth 100000 in
set_option maxHeartbeats 4000000 in
theorem rint_any (st : CS) (hx : ∀ x ∈ st.xs, 0 ≤ x ∧ x ≤ 255) (hl : st.xs.length ≤ 1099511627776) (w : World) :
    Calls Tryd.prog 25 #[RC st] w fun e w' => e = .returned (.tuple #[RC (intF st).1, .int .i64 (intF st).2]) ∧ Below w.heap.size w w' := by
  have hmx : Tryd.prog.follows .mixedOrders = true := by kernel_rfl
  obtain ⟨xs, bd⟩ := st
  simp only at hx hl
  have hA := below_alloc (below_alloc (Below.refl _ w) (.cells #[.string (strOfNums xs), .int .i64 bd] 57)) (.cells #[.string ⟨#[]⟩, .int .i64 0] 57)
  have hN2 := World.alloc_heap_new (w.alloc (.cells #[.string (strOfNums xs), .int .i64 bd] 57)) (.cells #[.string ⟨#[]⟩, .int .i64 0] 57)
  have hN1 : ((w.alloc (.cells #[.string (strOfNums xs), .int .i64 bd] 57)).alloc (.cells #[.string ⟨#[]⟩, .int .i64 0] 57)).heap[w.heap.size]? = some (.cells #[.string (strOfNums xs), .int .i64 bd] 57 (0, 0)) :=
    ((below_alloc (Below.refl _ _) _).block _ (by simp)).trans (World.alloc_heap_new w _)
  rw [show (w.alloc (.cells #[.string (strOfNums xs), .int .i64 bd] 57)).heap.size = w.heap.size + 1 by simp] at hN2
  unfold RC
  by_cases h0 : bd = 0
  · subst h0
    unfold intF
    rw [if_pos rfl]
    simp only
    have c0 := cell_of_block (o := 0) hN1 rfl
    have c1 := cell_of_block (o := 1) hN1 rfl
    have r0 := cell_of_block (o := 0) hN2 rfl
    have r1 := cell_of_block (o := 1) hN2 rfl
    have f0 := free_of_block 0 hN2
    have f1 := free_of_block 1 hN2
    have KW := Lib.hid (fun (e : Int) (W : World) => rwrong_any (strOfNums xs) 0 e W)
    have hsz := size_str xs
    have HG := Lib.hid (fun (k : Nat) (hk : k < (strOfNums xs).size) => str_get xs k hk hx)
    have HX := Lib.hid (fun (k : Nat) (hk : k < xs.length) => getD_in hx k hk)
    have HXT := Lib.hid (fun (k : Nat) => show (strOfNums xs).extract k xs.length = strOfNums (xs.drop k) by rw [str_extract, List.take_of_length_le (by simp)])
    have HA := Lib.hid hA
    have HN1 := Lib.hid hN1
    have HN2 := Lib.hid hN2
    generalize hS : strOfNums xs = S at *
    obtain ⟨n, hn⟩ : ∃ n, xs.length = n := ⟨_, rfl⟩
    rw [hn] at hsz HX HXT hl
    have HNn := Lib.hid hn
    clear hA hN1 hN2 hx hS hn
    go_enter Tryd.func25, Tryd.ntmps25
    go_wp2_with fail
    generalize (w.alloc (.cells #[.string S, .int .i64 0] 57)).alloc (.cells #[.string ⟨#[]⟩, .int .i64 0] 57) = W1 at *
    go_loop [4, 5, 6] (fun v i _ => ∃ k u : Nat, k ≤ n ∧ k ≤ 9 ∧ u < 2 ^ (7 * k) ∧ i = .int .i64 k ∧ v = .int .u64 (u : Int) ∧ scan k u (xs.drop k) = scan 0 0 xs) (fun _ i _ => 10 - (intOf i).toNat)
    case atStart => exact ⟨0, 0, Nat.zero_le _, Nat.zero_le _, by decide, rfl, rfl, rfl⟩
    case round =>
      obtain ⟨k, u, hk, hk9, hu, rfl, rfl, hsc⟩ := hrel
      have HS := Lib.hid hsc
      have HU := Lib.hid hu
      have h10 : decide ((k : Int) < 10) = true := decide_eq_true (by omega)
      clear hsc hu
      by_cases hlt : k < n
      · have hd1 : decide ((k : Int) ≥ (n : Int)) = false := decide_eq_false (by omega)
        have hkS : k < S.size := by rw [hsz]; exact hlt
        have hb := HG.out k hkS
        have hxb := HX.out k hlt
        have hdr : xs.drop k = xs.getD k 0 :: xs.drop (k + 1) := by
          have hl : k < xs.length := by have := HNn.out; omega
          rw [List.drop_eq_getElem_cons hl]; simp [List.getD, List.getElem?_eq_getElem hl]
        have HS2 := Lib.hid (hdr ▸ HS.out)
        clear hdr HS
        generalize xs.getD k 0 = x at *
        obtain ⟨m, rfl⟩ : ∃ m : Nat, x = (m : Int) := ⟨x.toNat, by omega⟩
        have hm : m ≤ 255 := by omega
        have hgm : (S[k]'hkS).toNat = m := by omega
        clear hb hxb
        by_cases hA : k = 9 ∧ 1 < m
        · have q1 : ((k : Int) == 9) = true := by rw [beq_iff_eq]; omega
          have q2 : decide ((m : Int) > 1) = true := decide_eq_true (by omega)
          have q3 : 1 < m := hA.2
          have HSC := Lib.hid (show scan 0 0 xs = ([], 11, 0) by rw [← HS2.out]; unfold scan; rw [if_pos ⟨hA.1, by omega⟩])
          clear hA
          go_wp2_with fail
          refine (KW.out 11 W1).mono ?_
          rintro e w2 ⟨rfl, hb⟩
          have HB := Lib.hid (below_next HA.out hb)
          have g2 := (hb.block _ (Array.getElem?_eq_some_iff.1 HN2.out).1).trans HN2.out
          have s0 := cell_of_block (o := 0) g2 rfl
          have s1 := cell_of_block (o := 1) g2 rfl
          have t0 := free_of_block 0 g2
          have t1 := free_of_block 1 g2
          have G2 := Lib.hid g2
          clear hb g2
          go_wp2
          refine bodyPost_ret (v := .tuple #[.agg #[.string ⟨#[]⟩, .int .i64 11], .int .i64 0]) (res_cell_tmp Tryd.results25 rfl rfl (rc_load (((wrote_refl G2.out).set 0 (.string ⟨#[]⟩)).set 1 (.int .i64 11)).there)) rfl ?_; rw [HSC.out]; exact ⟨rfl, (by repeat (first | exact Below.refl _ _ | assumption | refine below_drewN ?_ _ | refine Below.drew ?_ | refine below_alloc ?_ _ | refine Below.alloc ?_ (by first | omega | (simp; done) | (simp; omega)) _ | refine Below.setCell ?_ (Below.size (by assumption)) _ | refine Below.setCell ?_ (by first | omega | (simp; done) | (simp; omega)) _ | (refine Below.trans ?_ (Below.mono (by assumption) (by first | omega | (simp; done) | (simp; omega)))) | refine below_next ?_ (by assumption)))⟩
        · obtain ⟨u2, hu2⟩ : ∃ u2, u2 = u + m % 128 * 2 ^ (7 * k) := ⟨_, rfl⟩
          have hor := radd_step HU.out hk9 hm hA
          rw [← hu2] at hor
          have HOR := Lib.hid hor
          have h64 := or_lt HU.out hk9 hm hA
          rw [← hu2] at h64
          have hcase : (((k : Int) == 9) = true ∧ decide ((m : Int) > 1) = false ∧ ¬ 1 < m) ∨ ((k : Int) == 9) = false := by
            by_cases h9 : k = 9
            · exact .inl ⟨by rw [beq_iff_eq]; omega, decide_eq_false (by omega), by omega⟩
            · exact .inr (by rw [beq_eq_false_iff_ne]; omega)
          have hna : ¬ (k = 9 ∧ 1 < (m : Int)) := by omega
          clear hor
          by_cases h128 : 128 ≤ m
          · have hs : scan (k + 1) u2 (xs.drop (k + 1)) = scan 0 0 xs := by
              rw [← HS2.out]
              conv => rhs; unfold scan
              rw [if_neg hna, if_pos (by omega), show ((m : Int) - 128).toNat = m % 128 by omega, ← hu2]
            have hk8 : k ≤ 8 := by omega
            have hu3 : u2 < 2 ^ (7 * (k + 1)) := by
              have := HU.out
              rw [hu2, show 7 * (k + 1) = 7 + 7 * k by omega, Nat.pow_add]
              have : m % 128 * 2 ^ (7 * k) ≤ 127 * 2 ^ (7 * k) := Nat.mul_le_mul_right _ (by omega)
              omega
            have HS3 := Lib.hid hs
            have HU3 := Lib.hid hu3
            have hl128 : decide ((m : Int) < 128) = false := decide_eq_false (by omega)
            have hnl : ¬ m < 128 := by omega
            clear hs hu3 HS2 HU hu2 hna hA h64
            rcases hcase with ⟨q1, q2⟩ | q1
            · rw [beq_iff_eq] at q1; omega
            · go_wp2_with fail
              go_round
              case rel => exact ⟨k + 1, u2, by omega, by omega, HU3.out, by go_num, by rw [HOR.out], HS3.out⟩
              case measure => simp [intOf]; omega
          · have hl128 : decide ((m : Int) < 128) = true := decide_eq_true (by omega)
            have hnl : m < 128 := by omega
            by_cases hz : 0 < k ∧ m = 0
            · have hkz : decide ((k : Int) > 0) = true := decide_eq_true (by omega)
              have hmz : ((m : Int) == 0) = true := by rw [beq_iff_eq]; omega
              have hk0 : 0 < k := hz.1
              have HSC := Lib.hid (show scan 0 0 xs = ([], 11, 0) by rw [← HS2.out]; unfold scan; rw [if_neg hna, if_neg (by omega), if_pos (by omega)])
              clear HS2 HU hu2 hna hA h128 h64 hz
              rcases hcase with ⟨q1, q2, q3⟩ | q1
              · go_wp2_with fail
                refine (KW.out 11 W1).mono ?_
                rintro e w2 ⟨rfl, hb⟩
                have HB := Lib.hid (below_next HA.out hb)
                have g2 := (hb.block _ (Array.getElem?_eq_some_iff.1 HN2.out).1).trans HN2.out
                have s0 := cell_of_block (o := 0) g2 rfl
                have s1 := cell_of_block (o := 1) g2 rfl
                have t0 := free_of_block 0 g2
                have t1 := free_of_block 1 g2
                have G2 := Lib.hid g2
                clear hb g2
                go_wp2
                refine bodyPost_ret (v := .tuple #[.agg #[.string ⟨#[]⟩, .int .i64 11], .int .i64 0]) (res_cell_tmp Tryd.results25 rfl rfl (rc_load (((wrote_refl G2.out).set 0 (.string ⟨#[]⟩)).set 1 (.int .i64 11)).there)) rfl ?_; rw [HSC.out]; exact ⟨rfl, (by repeat (first | exact Below.refl _ _ | assumption | refine below_drewN ?_ _ | refine Below.drew ?_ | refine below_alloc ?_ _ | refine Below.alloc ?_ (by first | omega | (simp; done) | (simp; omega)) _ | refine Below.setCell ?_ (Below.size (by assumption)) _ | refine Below.setCell ?_ (by first | omega | (simp; done) | (simp; omega)) _ | (refine Below.trans ?_ (Below.mono (by assumption) (by first | omega | (simp; done) | (simp; omega)))) | refine below_next ?_ (by assumption)))⟩
              · go_wp2_with fail
                refine (KW.out 11 W1).mono ?_
                rintro e w2 ⟨rfl, hb⟩
                have HB := Lib.hid (below_next HA.out hb)
                have g2 := (hb.block _ (Array.getElem?_eq_some_iff.1 HN2.out).1).trans HN2.out
                have s0 := cell_of_block (o := 0) g2 rfl
                have s1 := cell_of_block (o := 1) g2 rfl
                have t0 := free_of_block 0 g2
                have t1 := free_of_block 1 g2
                have G2 := Lib.hid g2
                clear hb g2
                go_wp2
                refine bodyPost_ret (v := .tuple #[.agg #[.string ⟨#[]⟩, .int .i64 11], .int .i64 0]) (res_cell_tmp Tryd.results25 rfl rfl (rc_load (((wrote_refl G2.out).set 0 (.string ⟨#[]⟩)).set 1 (.int .i64 11)).there)) rfl ?_; rw [HSC.out]; exact ⟨rfl, (by repeat (first | exact Below.refl _ _ | assumption | refine below_drewN ?_ _ | refine Below.drew ?_ | refine below_alloc ?_ _ | refine Below.alloc ?_ (by first | omega | (simp; done) | (simp; omega)) _ | refine Below.setCell ?_ (Below.size (by assumption)) _ | refine Below.setCell ?_ (by first | omega | (simp; done) | (simp; omega)) _ | (refine Below.trans ?_ (Below.mono (by assumption) (by first | omega | (simp; done) | (simp; omega)))) | refine below_next ?_ (by assumption)))⟩
            · have HSC := Lib.hid (show scan 0 0 xs = (xs.drop (k + 1), 0, unfoldF u2) by
                rw [← HS2.out]; unfold scan; rw [if_neg hna, if_neg (by omega), if_neg (by omega), show ((m : Int)).toNat = m % 128 by omega, ← hu2])
              have hz2 : ((m : Int) == 0) = false ∨ ((m : Int) == 0) = true ∧ decide ((k : Int) > 0) = false ∧ ¬ 0 < k := by
                by_cases h : m = 0
                · exact .inr ⟨by rw [beq_iff_eq]; omega, decide_eq_false (by omega), by omega⟩
                · exact .inl (by rw [beq_eq_false_iff_ne]; omega)
              have KU := Lib.hid (fun W => runfold_any h64 W)
              have hxt := HXT.out (k + 1)
              have hk1 : IntKind.i64.wrap ((k : Int) + 1) = ((k + 1 : Nat) : Int) := by rw [IntWalk.i64_in _ (by omega)]; simp
              have hor := HOR.out
              have hp1 : (0 : Int) ≤ (k : Int) + 1 := by omega
              have hp2 : (k : Int) + 1 ≤ (n : Int) := by omega
              have hc0 : (W1.drew).cell? ⟨w.heap.size, 0, none⟩ = some (.string S) := c0
              clear HS2 HU hu2 hna hA h128
              have g2 : W1.drew.heap[w.heap.size + 1]? = some (.cells #[.string ⟨#[]⟩, .int .i64 0] 57 (0, 0)) := HN2.out
              have s0 := cell_of_block (o := 0) g2 rfl
              have s1 := cell_of_block (o := 1) g2 rfl
              have t0 := free_of_block 0 g2
              have t1 := free_of_block 1 g2
              have G2 := Lib.hid g2
              have HB := Lib.hid HA.out.drew
              clear g2
              rcases hcase with ⟨q1, q2, q3⟩ | q1 <;> rcases hz2 with z1 | ⟨z1, z2, z3⟩ <;> (
              go_wp2_with fail
              refine wp_region_grow_tail 8 (fun w' => w' = W1.drew) hmx (by kernel_rfl) rfl ?_
              iterate 7 (refine textS_run ?_ ?_ (fun W hS => ?_) ?_; rotate_left; (focus go_simp); (focus (subst hS; go_simp; all_goals (first | exact ⟨rfl, rfl⟩ | rfl | (refine ⟨?_, rfl⟩; rfl)))); (try go_simp))
              (refine textS_run ?_ ?_ (fun W hS => ?_) ?_; rotate_left; (focus go_simp); (focus (subst hS; go_simp; refine (KU.out W1.drew).mono ?_; rintro e w1 ⟨rfl, rfl⟩; refine ⟨?_, ?_⟩; (focus rfl); (focus rfl))); (try go_simp))
              refine textS_nil ?_
              go_wp2
              refine bodyPost_ret (v := .tuple #[.agg #[.string (strOfNums (xs.drop (k + 1))), .int .i64 0], .int .i64 (unfoldF u2)]) (res_cell_tmp Tryd.results25 rfl rfl (rc_load (((wrote_refl G2.out).set 0 (.string (strOfNums (xs.drop (k + 1))))).set 1 (.int .i64 0)).there)) rfl ?_
              rw [HSC.out]
              exact ⟨rfl, (by repeat (first | exact Below.refl _ _ | assumption | refine below_drewN ?_ _ | refine Below.drew ?_ | refine below_alloc ?_ _ | refine Below.alloc ?_ (by first | omega | (simp; done) | (simp; omega)) _ | refine Below.setCell ?_ (Below.size (by assumption)) _ | refine Below.setCell ?_ (by first | omega | (simp; done) | (simp; omega)) _ | (refine Below.trans ?_ (Below.mono (by assumption) (by first | omega | (simp; done) | (simp; omega)))) | refine below_next ?_ (by assumption)))⟩)
      · obtain rfl : k = n := by omega
        have hd1 : decide ((k : Int) ≥ (k : Int)) = true := decide_eq_true (by omega)
        have HSC := Lib.hid (show scan 0 0 xs = ([], 10, 0) by
          rw [← HS.out, List.drop_eq_nil_of_le (by have := HNn.out; omega)]
          cases k <;> rfl)
        clear hlt
        go_wp2_with fail
        refine (KW.out 10 W1).mono ?_
        rintro e w2 ⟨rfl, hb⟩
        have HB := Lib.hid (below_next HA.out hb)
        have g2 := (hb.block _ (Array.getElem?_eq_some_iff.1 HN2.out).1).trans HN2.out
        have s0 := cell_of_block (o := 0) g2 rfl
        have s1 := cell_of_block (o := 1) g2 rfl
        have t0 := free_of_block 0 g2
        have t1 := free_of_block 1 g2
        have G2 := Lib.hid g2
        clear hb g2
        go_wp2
        refine bodyPost_ret (v := .tuple #[.agg #[.string ⟨#[]⟩, .int .i64 10], .int .i64 0]) (res_cell_tmp Tryd.results25 rfl rfl (rc_load (((wrote_refl G2.out).set 0 (.string ⟨#[]⟩)).set 1 (.int .i64 10)).there)) rfl ?_; rw [HSC.out]; exact ⟨rfl, (by repeat (first | exact Below.refl _ _ | assumption | refine below_drewN ?_ _ | refine Below.drew ?_ | refine below_alloc ?_ _ | refine Below.alloc ?_ (by first | omega | (simp; done) | (simp; omega)) _ | refine Below.setCell ?_ (Below.size (by assumption)) _ | refine Below.setCell ?_ (by first | omega | (simp; done) | (simp; omega)) _ | (refine Below.trans ?_ (Below.mono (by assumption) (by first | omega | (simp; done) | (simp; omega)))) | refine below_next ?_ (by assumption)))⟩
  · have hq : (bd != 0) = true := by simp [h0]
    unfold intF
    rw [if_neg h0]
    simp only
    have HA := Lib.hid hA
    clear hA hN1 hN2
    go_enter Tryd.func25, Tryd.ntmps25
    go_wp2
    exact bodyPost_ret (v := .tuple #[.agg #[.string (strOfNums xs), .int .i64 bd], .int .i64 0]) (by simp [results, Tryd.results25, go_sem]) rfl ⟨rfl, (by repeat (first | exact Below.refl _ _ | assumption | refine below_drewN ?_ _ | refine Below.drew ?_ | refine below_alloc ?_ _ | refine Below.alloc ?_ (by first | omega | (simp; done) | (simp; omega)) _ | refine Below.setCell ?_ (Below.size (by assumption)) _ | refine Below.setCell ?_ (by first | omega | (simp; done) | (simp; omega)) _ | (refine Below.trans ?_ (Below.mono (by assumption) (by first | omega | (simp; done) | (simp; omega)))) | refine below_next ?_ (by assumption)))⟩
end Go.Proofs.YtgeldpfojmkdbaaDoor
namespace Go.Proofs.YtgeldpfojmkdbaaDoor
set_option linter.unusedVariables false
open Go.ChangeShapes Go.WideShapes Go.ChangeAt Go.RowKit
attribute [local go_sem ↓] Go.wp_at_zero Go.wp_at_succ comesTo_value_eq comesTo_skip_eq comesTo_enter_eq Rl.comesToR_value_eq Rl.comesToR_skip_eq Rl.comesToR_enter_eq

/-- numbers, one behind the other, whatever is wrong -/
def rds (st : CS) : Nat → CS × List Int
  | 0 => (st, [])
  | k + 1 => ((intF (rds st k).1).1, (rds st k).2 ++ [(intF (rds st k).1).2])
theorem rds_len (st : CS) : ∀ k, (rds st k).2.length = k
  | 0 => rfl
  | k + 1 => by simp [rds, rds_len st k]
theorem intF_suff (st : CS) : (intF st).1.xs <:+ st.xs := by
  unfold intF
  split
  · exact scan_suffix _ _ _
  · exact List.suffix_refl _
theorem rds_suff (st : CS) : ∀ k, (rds st k).1.xs <:+ st.xs
  | 0 => List.suffix_refl _
  | k + 1 => (intF_suff _).trans (rds_suff st k)
theorem intF_stays {st : CS} (h : st.bad ≠ 0) : (intF st).1.bad ≠ 0 := by
  unfold intF
  rw [if_neg h]
  exact h
def jobOf (l : List Int) : JobV := ⟨l.getD 0 0, l.getD 1 0, l.getD 2 0, l.getD 3 0, l.getD 4 0, l.getD 5 0, l.getD 6 0, l.getD 7 0 == 1, l.getD 8 0, l.getD 9 0, l.getD 10 0, l.getD 11 0, l.getD 12 0, setOf (l.getD 13 0), setOf (l.getD 14 0), l.getD 15 0, l.getD 16 0⟩
def okR (bs : List Int) : Bool := ((rds ⟨bs, 0⟩ 17).1.bad == 0) && decide (0 ≤ (rds ⟨bs, 0⟩ 17).2.getD 7 0) && decide ((rds ⟨bs, 0⟩ 17).2.getD 7 0 ≤ 1) && rightB (jobOf (rds ⟨bs, 0⟩ 17).2)
theorem rds_succ {st s s' : CS} {k : Nat} {l : List Int} {x : Int} (h : rds st k = (s, l)) (e : intF s = (s', x)) : rds st (k + 1) = (s', l ++ [x]) := by
  simp only [rds, h, e]
theorem okR_read (bs : List Int) : okR bs = okJ bs ∧ (okR bs = true → readJ bs = ((rds ⟨bs, 0⟩ 17).1, jobOf (rds ⟨bs, 0⟩ 17).2)) := by
  obtain ⟨s1, x0, e0⟩ : ∃ s x, intF (⟨bs, 0⟩ : CS) = (s, x) := ⟨_, _, rfl⟩
  obtain ⟨s2, x1, e1⟩ : ∃ s x, intF s1 = (s, x) := ⟨_, _, rfl⟩
  obtain ⟨s3, x2, e2⟩ : ∃ s x, intF s2 = (s, x) := ⟨_, _, rfl⟩
  obtain ⟨s4, x3, e3⟩ : ∃ s x, intF s3 = (s, x) := ⟨_, _, rfl⟩
  obtain ⟨s5, x4, e4⟩ : ∃ s x, intF s4 = (s, x) := ⟨_, _, rfl⟩
  obtain ⟨s6, x5, e5⟩ : ∃ s x, intF s5 = (s, x) := ⟨_, _, rfl⟩
  obtain ⟨s7, x6, e6⟩ : ∃ s x, intF s6 = (s, x) := ⟨_, _, rfl⟩
  obtain ⟨s8, x7, e7⟩ : ∃ s x, intF s7 = (s, x) := ⟨_, _, rfl⟩
  obtain ⟨s9, x8, e8⟩ : ∃ s x, intF s8 = (s, x) := ⟨_, _, rfl⟩
  obtain ⟨s10, x9, e9⟩ : ∃ s x, intF s9 = (s, x) := ⟨_, _, rfl⟩
  obtain ⟨s11, x10, e10⟩ : ∃ s x, intF s10 = (s, x) := ⟨_, _, rfl⟩
  obtain ⟨s12, x11, e11⟩ : ∃ s x, intF s11 = (s, x) := ⟨_, _, rfl⟩
  obtain ⟨s13, x12, e12⟩ : ∃ s x, intF s12 = (s, x) := ⟨_, _, rfl⟩
  obtain ⟨s14, x13, e13⟩ : ∃ s x, intF s13 = (s, x) := ⟨_, _, rfl⟩
  obtain ⟨s15, x14, e14⟩ : ∃ s x, intF s14 = (s, x) := ⟨_, _, rfl⟩
  obtain ⟨s16, x15, e15⟩ : ∃ s x, intF s15 = (s, x) := ⟨_, _, rfl⟩
  obtain ⟨s17, x16, e16⟩ : ∃ s x, intF s16 = (s, x) := ⟨_, _, rfl⟩
  have r0 : rds (⟨bs, 0⟩ : CS) 0 = (⟨bs, 0⟩, []) := rfl
  have r1 : rds (⟨bs, 0⟩ : CS) 1 = (s1, [x0]) := rds_succ r0 e0
  have r2 : rds (⟨bs, 0⟩ : CS) 2 = (s2, [x0, x1]) := rds_succ r1 e1
  have r3 : rds (⟨bs, 0⟩ : CS) 3 = (s3, [x0, x1, x2]) := rds_succ r2 e2
  have r4 : rds (⟨bs, 0⟩ : CS) 4 = (s4, [x0, x1, x2, x3]) := rds_succ r3 e3
  have r5 : rds (⟨bs, 0⟩ : CS) 5 = (s5, [x0, x1, x2, x3, x4]) := rds_succ r4 e4
  have r6 : rds (⟨bs, 0⟩ : CS) 6 = (s6, [x0, x1, x2, x3, x4, x5]) := rds_succ r5 e5
  have r7 : rds (⟨bs, 0⟩ : CS) 7 = (s7, [x0, x1, x2, x3, x4, x5, x6]) := rds_succ r6 e6
  have r8 : rds (⟨bs, 0⟩ : CS) 8 = (s8, [x0, x1, x2, x3, x4, x5, x6, x7]) := rds_succ r7 e7
  have r9 : rds (⟨bs, 0⟩ : CS) 9 = (s9, [x0, x1, x2, x3, x4, x5, x6, x7, x8]) := rds_succ r8 e8
  have r10 : rds (⟨bs, 0⟩ : CS) 10 = (s10, [x0, x1, x2, x3, x4, x5, x6, x7, x8, x9]) := rds_succ r9 e9
  have r11 : rds (⟨bs, 0⟩ : CS) 11 = (s11, [x0, x1, x2, x3, x4, x5, x6, x7, x8, x9, x10]) := rds_succ r10 e10
  have r12 : rds (⟨bs, 0⟩ : CS) 12 = (s12, [x0, x1, x2, x3, x4, x5, x6, x7, x8, x9, x10, x11]) := rds_succ r11 e11
  have r13 : rds (⟨bs, 0⟩ : CS) 13 = (s13, [x0, x1, x2, x3, x4, x5, x6, x7, x8, x9, x10, x11, x12]) := rds_succ r12 e12
  have r14 : rds (⟨bs, 0⟩ : CS) 14 = (s14, [x0, x1, x2, x3, x4, x5, x6, x7, x8, x9, x10, x11, x12, x13]) := rds_succ r13 e13
  have r15 : rds (⟨bs, 0⟩ : CS) 15 = (s15, [x0, x1, x2, x3, x4, x5, x6, x7, x8, x9, x10, x11, x12, x13, x14]) := rds_succ r14 e14
  have r16 : rds (⟨bs, 0⟩ : CS) 16 = (s16, [x0, x1, x2, x3, x4, x5, x6, x7, x8, x9, x10, x11, x12, x13, x14, x15]) := rds_succ r15 e15
  have r17 : rds (⟨bs, 0⟩ : CS) 17 = (s17, [x0, x1, x2, x3, x4, x5, x6, x7, x8, x9, x10, x11, x12, x13, x14, x15, x16]) := rds_succ r16 e16
  unfold okR okJ readJ
  rw [r17]
  simp only [e0, e1, e2, e3, e4, e5, e6]
  by_cases h : x7 < 0 ∨ 1 < x7
  · have hs : smallF s7 1 = (failF s8 2, 0) := by unfold smallF; rw [e7]; exact if_pos h
    have hf : (failF s8 2).bad ≠ 0 := by unfold failF; split; decide; assumption
    have hb := intF_stays (intF_stays (intF_stays (intF_stays (intF_stays (intF_stays (intF_stays (intF_stays (intF_stays hf))))))))
    have hno : (decide (0 ≤ x7) && decide (x7 ≤ 1)) = false := by rw [Bool.eq_false_iff]; intro hh; simp only [Bool.and_eq_true, decide_eq_true_eq] at hh; omega
    simp only [e7, e8, e9, e10, e11, e12, e13, e14, e15, e16, hs]
    have hb' : ((intF (intF (intF (intF (intF (intF (intF (intF (intF (failF s8 2)).1).1).1).1).1).1).1).1).1.bad == 0) = false := beq_eq_false_iff_ne.2 hb
    rw [hb']
    simp only [List.getD_cons_succ, List.getD_cons_zero, Bool.false_and]
    rw [Bool.and_assoc ((s17 : CS).bad == 0), hno]
    simp
  · have hs : smallF s7 1 = (s8, x7) := by unfold smallF; rw [e7]; exact if_neg h
    have h0 : decide (0 ≤ x7) = true := decide_eq_true (by omega)
    have h1 : decide (x7 ≤ 1) = true := decide_eq_true (by omega)
    simp only [e7, e8, e9, e10, e11, e12, e13, e14, e15, e16, hs]
    simp only [jobOf, List.getD_cons_succ, List.getD_cons_zero, h0, h1, Bool.and_true]
    exact ⟨trivial, fun _ => trivial⟩
/-- a reading under way: the result's block, the cursor's, the numbers' -/
structure RdR (w W : World) (st : CS) (l : List Value) : Prop where
  res : W.heap[w.heap.size]? = some (.cells #[.int .i64 0, .int .i64 0, .int .i64 0, .int .i64 0, .int .i64 0, .int .i64 0, .int .i64 0, .bool false, .int .i64 0, .int .i64 0, .int .i64 0, .int .i64 0, .int .i64 0, .int .u64 0, .int .u64 0, .int .i64 0, .int .i64 0] 32 (0, 0))
  cur : W.heap[w.heap.size + 1]? = some (.cells #[.string (strOfNums st.xs), .int .i64 st.bad] 57 (0, 0))
  arr : W.heap[w.heap.size + 1 + 1]? = some (.cells l.toArray 58 (0, 0))
  bel : Below w.heap.size w W
theorem RdR.below {w W W' : World} {st : CS} {l : List Value} (h : RdR w W st l) (hb : Below W.heap.size W W') : RdR w W' st l :=
  ⟨(hb.block _ (Array.getElem?_eq_some_iff.1 h.res).1).trans h.res, (hb.block _ (Array.getElem?_eq_some_iff.1 h.cur).1).trans h.cur, (hb.block _ (Array.getElem?_eq_some_iff.1 h.arr).1).trans h.arr, below_next h.bel hb⟩
theorem RdR.step {w W : World} {st : CS} {l : List Value} (h : RdR w W st l) (st' : CS) (k : Nat) (v : Value) :
    RdR w (((W.setCell ⟨w.heap.size + 1, 0, none⟩ (.string (strOfNums st'.xs))).setCell ⟨w.heap.size + 1, 1, none⟩ (.int .i64 st'.bad)).setCell ⟨w.heap.size + 1 + 1, k, none⟩ v) st' (l.set k v) := by
  have h1 := ((wrote_refl h.cur).set 0 (.string (strOfNums st'.xs))).set 1 (.int .i64 st'.bad)
  have hA := (h1.rest (w.heap.size + 1 + 1) (by omega)).trans h.arr
  have h2 := (wrote_refl hA).set k v
  refine ⟨(h2.rest _ (by omega)).trans ((h1.rest _ (by omega)).trans h.res), (h2.rest _ (by omega)).trans h1.there, ?_, h2.below (h1.below h.bel (by omega)) (by omega)⟩
  have := h2.there
  rwa [List.setIfInBounds_toArray] at this
/-- the numbers' block when k have been read -/
def arrC (ls : List Int) : List Value := ls.map (Value.int .i64) ++ List.replicate (17 - ls.length) (.int .i64 0)
theorem arrC_set (ls : List Int) (hk : ls.length < 17) (x : Int) : (arrC ls).set ls.length (.int .i64 x) = arrC (ls ++ [x]) := by
  unfold arrC
  rw [List.set_append]
  simp only [List.length_map, Nat.lt_irrefl, if_false, Nat.sub_self, List.map_append, List.map_cons, List.map_nil, List.length_append, List.length_cons, List.length_nil, List.append_assoc]
  obtain ⟨m, hm⟩ : ∃ m, 17 - ls.length = m + 1 := ⟨16 - ls.length, by omega⟩
  rw [hm, show 17 - (ls.length + (0 + 1)) = m by omega, List.replicate_succ]
  rfl
theorem arrC_len (ls : List Int) (h : ls.length ≤ 17) : (arrC ls).length = 17 := by unfold arrC; simp; omega
set_option maxRecDepth 100000 in
set_option maxHeartbeats 4000000 in
theorem rread_any (bs : List Int) (hx : ∀ x ∈ bs, 0 ≤ x ∧ x ≤ 255) (hl : bs.length ≤ 1099511627775) (w : World) : Calls Tryd.prog 6 #[.string (strOfNums bs)] w fun e w' => e = .returned (.tuple #[.agg (jobC (gotJ bs)).toArray, .int .i64 (cntJ bs), .int .i64 (codeJ bs)]) ∧ Below w.heap.size w w' := by
  have hmx : Tryd.prog.follows .mixedOrders = true := by kernel_rfl
  have HX := Lib.hid hx
  have HL := Lib.hid hl
  have HOR := Lib.hid (okR_read bs)
  have HRL := Lib.hid (fun k => rds_len ⟨bs, 0⟩ k)
  have HRS := Lib.hid (fun k => rds_suff ⟨bs, 0⟩ k)
  have HSB := Lib.hid (size_str bs)
  obtain ⟨ss, hss⟩ : ∃ ss, ss = strOfNums bs := ⟨_, rfl⟩
  rw [← hss] at HSB ⊢
  have HSS := Lib.hid hss
  clear hx hl hss
  go_enter Tryd.func6, Tryd.ntmps6
  go_wp2_with fail
  rw [HSS.out]
  have hA := below_alloc (below_alloc (below_alloc (Below.refl _ w) (.cells #[.int .i64 0, .int .i64 0, .int .i64 0, .int .i64 0, .int .i64 0, .int .i64 0, .int .i64 0, .bool false, .int .i64 0, .int .i64 0, .int .i64 0, .int .i64 0, .int .i64 0, .int .u64 0, .int .u64 0, .int .i64 0, .int .i64 0] 32)) (.cells #[.string (strOfNums bs), .int .i64 0] 57)) (.cells #[.int .i64 0, .int .i64 0, .int .i64 0, .int .i64 0, .int .i64 0, .int .i64 0, .int .i64 0, .int .i64 0, .int .i64 0, .int .i64 0, .int .i64 0, .int .i64 0, .int .i64 0, .int .i64 0, .int .i64 0, .int .i64 0, .int .i64 0] 58)
  have hR : RdR w (((w.alloc (.cells #[.int .i64 0, .int .i64 0, .int .i64 0, .int .i64 0, .int .i64 0, .int .i64 0, .int .i64 0, .bool false, .int .i64 0, .int .i64 0, .int .i64 0, .int .i64 0, .int .i64 0, .int .u64 0, .int .u64 0, .int .i64 0, .int .i64 0] 32)).alloc (.cells #[.string (strOfNums bs), .int .i64 0] 57)).alloc (.cells #[.int .i64 0, .int .i64 0, .int .i64 0, .int .i64 0, .int .i64 0, .int .i64 0, .int .i64 0, .int .i64 0, .int .i64 0, .int .i64 0, .int .i64 0, .int .i64 0, .int .i64 0, .int .i64 0, .int .i64 0, .int .i64 0, .int .i64 0] 58)) (rds ⟨bs, 0⟩ 0).1 (arrC (rds ⟨bs, 0⟩ 0).2) := by
    have s1 : (w.alloc (.cells #[.int .i64 0, .int .i64 0, .int .i64 0, .int .i64 0, .int .i64 0, .int .i64 0, .int .i64 0, .bool false, .int .i64 0, .int .i64 0, .int .i64 0, .int .i64 0, .int .i64 0, .int .u64 0, .int .u64 0, .int .i64 0, .int .i64 0] 32)).heap.size = w.heap.size + 1 := by simp
    have s2 : ((w.alloc (.cells #[.int .i64 0, .int .i64 0, .int .i64 0, .int .i64 0, .int .i64 0, .int .i64 0, .int .i64 0, .bool false, .int .i64 0, .int .i64 0, .int .i64 0, .int .i64 0, .int .i64 0, .int .u64 0, .int .u64 0, .int .i64 0, .int .i64 0] 32)).alloc (.cells #[.string (strOfNums bs), .int .i64 0] 57)).heap.size = w.heap.size + 1 + 1 := by simp
    have b1 := below_alloc (Below.refl _ (w.alloc (.cells #[.int .i64 0, .int .i64 0, .int .i64 0, .int .i64 0, .int .i64 0, .int .i64 0, .int .i64 0, .bool false, .int .i64 0, .int .i64 0, .int .i64 0, .int .i64 0, .int .i64 0, .int .u64 0, .int .u64 0, .int .i64 0, .int .i64 0] 32))) (.cells #[.string (strOfNums bs), .int .i64 0] 57)
    have b2 := below_alloc (Below.refl _ ((w.alloc (.cells #[.int .i64 0, .int .i64 0, .int .i64 0, .int .i64 0, .int .i64 0, .int .i64 0, .int .i64 0, .bool false, .int .i64 0, .int .i64 0, .int .i64 0, .int .i64 0, .int .i64 0, .int .u64 0, .int .u64 0, .int .i64 0, .int .i64 0] 32)).alloc (.cells #[.string (strOfNums bs), .int .i64 0] 57))) (.cells #[.int .i64 0, .int .i64 0, .int .i64 0, .int .i64 0, .int .i64 0, .int .i64 0, .int .i64 0, .int .i64 0, .int .i64 0, .int .i64 0, .int .i64 0, .int .i64 0, .int .i64 0, .int .i64 0, .int .i64 0, .int .i64 0, .int .i64 0] 58)
    refine ⟨?_, ?_, ?_, hA⟩
    · exact (b2.block _ (by omega)).trans ((b1.block _ (by omega)).trans (World.alloc_heap_new w _))
    · have := World.alloc_heap_new (w.alloc (.cells #[.int .i64 0, .int .i64 0, .int .i64 0, .int .i64 0, .int .i64 0, .int .i64 0, .int .i64 0, .bool false, .int .i64 0, .int .i64 0, .int .i64 0, .int .i64 0, .int .i64 0, .int .u64 0, .int .u64 0, .int .i64 0, .int .i64 0] 32)) (.cells #[.string (strOfNums bs), .int .i64 0] 57)
      rw [s1] at this
      exact (b2.block _ (by omega)).trans this
    · have := World.alloc_heap_new ((w.alloc (.cells #[.int .i64 0, .int .i64 0, .int .i64 0, .int .i64 0, .int .i64 0, .int .i64 0, .int .i64 0, .bool false, .int .i64 0, .int .i64 0, .int .i64 0, .int .i64 0, .int .i64 0, .int .u64 0, .int .u64 0, .int .i64 0, .int .i64 0] 32)).alloc (.cells #[.string (strOfNums bs), .int .i64 0] 57)) (.cells #[.int .i64 0, .int .i64 0, .int .i64 0, .int .i64 0, .int .i64 0, .int .i64 0, .int .i64 0, .int .i64 0, .int .i64 0, .int .i64 0, .int .i64 0, .int .i64 0, .int .i64 0, .int .i64 0, .int .i64 0, .int .i64 0, .int .i64 0] 58)
      rw [s2] at this
      exact this
  have HR := Lib.hid hR
  clear hR hA
  rw [← HSS.out]
  rw [← HSS.out] at HR
  generalize ((w.alloc (.cells #[.int .i64 0, .int .i64 0, .int .i64 0, .int .i64 0, .int .i64 0, .int .i64 0, .int .i64 0, .bool false, .int .i64 0, .int .i64 0, .int .i64 0, .int .i64 0, .int .i64 0, .int .u64 0, .int .u64 0, .int .i64 0, .int .i64 0] 32)).alloc (.cells #[.string ss, .int .i64 0] 57)).alloc (.cells #[.int .i64 0, .int .i64 0, .int .i64 0, .int .i64 0, .int .i64 0, .int .i64 0, .int .i64 0, .int .i64 0, .int .i64 0, .int .i64 0, .int .i64 0, .int .i64 0, .int .i64 0, .int .i64 0, .int .i64 0, .int .i64 0, .int .i64 0] 58) = U at *
  go_loopw [7] (fun i wr => ∃ k : Nat, k ≤ 17 ∧ i = .int .i64 k ∧ RdR w wr (rds ⟨bs, 0⟩ k).1 (arrC (rds ⟨bs, 0⟩ k).2)) (fun i _ => 17 - (intOf i).toNat)
  case atStart => exact ⟨0, Nat.zero_le _, rfl, HR.out⟩
  case round =>
    obtain ⟨k, hk, rfl, hrd⟩ := hrel
    have HRD := Lib.hid hrd
    clear hrd HR
    by_cases hlt : k < 17
    · have hd : decide ((k : Int) < 17) = true := decide_eq_true (by omega)
      have hkI : (k : Int) < 17 := by omega
      have hlk := HRL.out k
      have hbx : ∀ x ∈ (rds ⟨bs, 0⟩ k).1.xs, 0 ≤ x ∧ x ≤ 255 := fun x hx => HX.out x ((HRS.out k).subset hx)
      have hbl : (rds ⟨bs, 0⟩ k).1.xs.length ≤ 1099511627776 := by have := (HRS.out k).length_le; have := HL.out; have h3 : (⟨bs, 0⟩ : CS).xs.length = bs.length := rfl; omega
      have HNX := Lib.hid (show rds ⟨bs, 0⟩ (k + 1) = ((intF (rds ⟨bs, 0⟩ k).1).1, (rds ⟨bs, 0⟩ k).2 ++ [(intF (rds ⟨bs, 0⟩ k).1).2]) from rfl)
      have KI := Lib.hid (rint_any (rds ⟨bs, 0⟩ k).1 hbx hbl wr)
      clear hbx hbl
      generalize rds ⟨bs, 0⟩ k = rk at *
      obtain ⟨st, ls⟩ := rk
      simp only at hlk HNX KI HRD
      obtain ⟨st', x, e⟩ : ∃ s x, intF st = (s, x) := ⟨_, _, rfl⟩
      rw [e] at HNX KI
      have KI2 := Lib.hid (show Calls Tryd.prog 25 #[.agg #[.string (strOfNums st.xs), .int .i64 st.bad]] wr fun e w' => e = .returned (.tuple #[.agg #[.string (strOfNums st'.xs), .int .i64 st'.bad], .int .i64 x]) ∧ Below wr.heap.size wr w' from KI.out)
      clear KI e
      have c0 := cell_of_block (o := 0) HRD.out.cur rfl
      have c1 := cell_of_block (o := 1) HRD.out.cur rfl
      generalize hsx : strOfNums st.xs = sx at *
      clear hsx
      go_wp2_with fail
      ((with_reducible refine KI2.out.mono ?_))
      rintro e w4 ⟨rfl, hb4⟩
      have HR4 := Lib.hid (HRD.out.below hb4)
      clear hb4 c0 c1
      have c0 := cell_of_block (o := 0) HR4.out.cur rfl
      have c1 := cell_of_block (o := 1) HR4.out.cur rfl
      have f0 := free_of_block 0 HR4.out.cur
      have f1 := free_of_block 1 HR4.out.cur
      have hkl : (arrC ls).toArray[k]? = some ((arrC ls)[k]'(by rw [arrC_len ls (by omega)]; omega)) := by simp
      have cA := cell_of_block (o := k) HR4.out.arr hkl
      have fA := free_of_block k HR4.out.arr
      clear hkl
      have HST := Lib.hid (HR4.out.step st' k (.int .i64 x))
      have HAS := Lib.hid (arrC_set ls (by omega) x)
      rw [hlk] at HAS
      rw [HAS.out] at HST
      generalize strOfNums st'.xs = sy at *
      go_wp2_with fail
      go_roundw
      case rel => exact ⟨k + 1, by omega, by go_num, by rw [HNX.out]; exact HST.out⟩
      case measure => simp [intOf]; omega
    · obtain rfl : k = 17 := by omega
      have hlk := HRL.out 17
      have hsf := HRS.out 17
      have HO := HOR.out
      unfold okR at HO
      clear HRL HRS HOR
      generalize rds ⟨bs, 0⟩ 17 = rk at *
      obtain ⟨st, ls⟩ := rk
      simp only at hlk hsf HO HRD
      obtain ⟨x0, x1, x2, x3, x4, x5, x6, x7, x8, x9, x10, x11, x12, x13, x14, x15, x16, rfl⟩ : ∃ x0 x1 x2 x3 x4 x5 x6 x7 x8 x9 x10 x11 x12 x13 x14 x15 x16, ls = [x0, x1, x2, x3, x4, x5, x6, x7, x8, x9, x10, x11, x12, x13, x14, x15, x16] := by
        match ls, hlk with
        | [x0, x1, x2, x3, x4, x5, x6, x7, x8, x9, x10, x11, x12, x13, x14, x15, x16], _ => exact ⟨x0, x1, x2, x3, x4, x5, x6, x7, x8, x9, x10, x11, x12, x13, x14, x15, x16, rfl⟩
      have hA : arrC [x0, x1, x2, x3, x4, x5, x6, x7, x8, x9, x10, x11, x12, x13, x14, x15, x16] = [.int .i64 x0, .int .i64 x1, .int .i64 x2, .int .i64 x3, .int .i64 x4, .int .i64 x5, .int .i64 x6, .int .i64 x7, .int .i64 x8, .int .i64 x9, .int .i64 x10, .int .i64 x11, .int .i64 x12, .int .i64 x13, .int .i64 x14, .int .i64 x15, .int .i64 x16] := rfl
      rw [hA] at HRD
      clear hA hlk
      obtain ⟨jv, hjv⟩ : ∃ jv, jv = jobOf [x0, x1, x2, x3, x4, x5, x6, x7, x8, x9, x10, x11, x12, x13, x14, x15, x16] := ⟨_, rfl⟩
      rw [← hjv] at HO
      simp only [List.getD_cons_succ, List.getD_cons_zero] at HO
      have HJC := Lib.hid (show (.agg (jobC jv).toArray : Value) = .agg #[.int .i64 x0, .int .i64 x1, .int .i64 x2, .int .i64 x3, .int .i64 x4, .int .i64 x5, .int .i64 x6, .bool (x7 == 1), .int .i64 x8, .int .i64 x9, .int .i64 x10, .int .i64 x11, .int .i64 x12, .int .u64 (nv (setOf x13)), .int .u64 (nv (setOf x14)), .int .i64 x15, .int .i64 x16] by rw [hjv]; rfl)
      have HLJ := Lib.hid (jobC_len jv)
      have HJ1 := Lib.hid (jobC_one jv)
      have KRj := Lib.hid (fun W => rright_any jv W)
      clear hjv
      obtain ⟨xs', bd⟩ := st
      simp only at hsf HO HRD
      have HSF := Lib.hid hsf.length_le
      have HNO := Lib.hid (show okJ bs = false → gotJ bs = job0 ∧ cntJ bs = 0 ∧ codeJ bs = 11 from fun h => by unfold gotJ cntJ codeJ; rw [h]; exact ⟨rfl, rfl, rfl⟩)
      have HYES := Lib.hid (show okJ bs = true → gotJ bs = jv ∧ cntJ bs = (bs.length : Int) - (xs'.length : Int) ∧ codeJ bs = 0 from fun h => by unfold gotJ cntJ codeJ; rw [h, HO.2 (HO.1.trans h)]; exact ⟨rfl, rfl, rfl⟩)
      have HOK := Lib.hid (show ∀ b, ((bd == 0) && decide (0 ≤ x7) && decide (x7 ≤ 1) && rightB jv) = b → okJ bs = b from fun b hb => HO.1.symm.trans hb)
      have HSY := Lib.hid (size_str xs')
      clear HO hsf
      have W13 := Lib.hid (fun x => nv_setOf x)
      have c0 := cell_of_block (o := 0) HRD.out.cur rfl
      have c1 := cell_of_block (o := 1) HRD.out.cur rfl
      have a7 := cell_of_block (o := 7) HRD.out.arr rfl
      generalize hsx : strOfNums xs' = sx at *
      have HSX := Lib.hid hsx
      clear hsx
      have h0J : (.agg (jobC job0).toArray : Value) = .agg #[.int .i64 0, .int .i64 0, .int .i64 0, .int .i64 0, .int .i64 0, .int .i64 0, .int .i64 0, .bool false, .int .i64 0, .int .i64 0, .int .i64 0, .int .i64 0, .int .i64 0, .int .u64 0, .int .u64 0, .int .i64 0, .int .i64 0] := rfl
      by_cases hbd : bd = 0
      case neg =>
        have hb' : (bd == 0) = false := beq_eq_false_iff_ne.2 hbd
        have hb2 : (bd != 0) = true := bne_iff_ne.2 hbd
        have E := Lib.hid (HNO.out (HOK.out false (by rw [hb']; rfl)))
        clear hbd hb'
        go_upto_region 8 with fail
        refine wp_region_lit ?_
        refine wpList_yield (w' := wr) (v := .agg (jobC job0).toArray) rfl (by go_simp; rfl) ?_
        refine wpList_store_all rfl 32 _ _ rfl w.heap.size (T := 32) (jobC job0) (by go_simp) (by go_simp) HRD.out.res rfl (by kernel_rfl) rfl ?_
        intro w9 hw9
        have HW9 := Lib.hid hw9.there
        have HB9 := Lib.hid (hw9.below HRD.out.bel (Nat.le_refl _))
        clear hw9
        go_wp2_with fail
        exact bodyPost_ret (results_all3 (jobC job0) _ Tryd.results6 (by go_simp) HW9.out Tryd.underlying32 rfl (by kernel_rfl)) rfl ⟨by rw [E.out.1, E.out.2.1, E.out.2.2]; first | done | rfl, HB9.out⟩
      case pos =>
      subst hbd
      by_cases hx0 : x7 < 0
      case pos =>
        have hd0 : decide (x7 < 0) = true := decide_eq_true hx0
        have E := Lib.hid (HNO.out (HOK.out false (by rw [show decide (0 ≤ x7) = false from decide_eq_false (by omega)]; simp)))
        go_upto_region 8 with fail
        refine wp_region_lit ?_
        refine wpList_yield (w' := wr) (v := .agg (jobC job0).toArray) rfl (by go_simp; rfl) ?_
        refine wpList_store_all rfl 32 _ _ rfl w.heap.size (T := 32) (jobC job0) (by go_simp) (by go_simp) HRD.out.res rfl (by kernel_rfl) rfl ?_
        intro w9 hw9
        have HW9 := Lib.hid hw9.there
        have HB9 := Lib.hid (hw9.below HRD.out.bel (Nat.le_refl _))
        clear hw9
        go_wp2_with fail
        exact bodyPost_ret (results_all3 (jobC job0) _ Tryd.results6 (by go_simp) HW9.out Tryd.underlying32 rfl (by kernel_rfl)) rfl ⟨by rw [E.out.1, E.out.2.1, E.out.2.2]; first | done | rfl, HB9.out⟩
      case neg =>
      by_cases hx1 : 1 < x7
      case pos =>
        have hd0 : decide (x7 < 0) = false := decide_eq_false hx0
        have hd1 : decide (1 < x7) = true := decide_eq_true hx1
        have E := Lib.hid (HNO.out (HOK.out false (by rw [show decide (x7 ≤ 1) = false from decide_eq_false (by omega)]; simp)))
        go_upto_region 8 with fail
        refine wp_region_lit ?_
        refine wpList_yield (w' := wr) (v := .agg (jobC job0).toArray) rfl (by go_simp; rfl) ?_
        refine wpList_store_all rfl 32 _ _ rfl w.heap.size (T := 32) (jobC job0) (by go_simp) (by go_simp) HRD.out.res rfl (by kernel_rfl) rfl ?_
        intro w9 hw9
        have HW9 := Lib.hid hw9.there
        have HB9 := Lib.hid (hw9.below HRD.out.bel (Nat.le_refl _))
        clear hw9
        go_wp2_with fail
        exact bodyPost_ret (results_all3 (jobC job0) _ Tryd.results6 (by go_simp) HW9.out Tryd.underlying32 rfl (by kernel_rfl)) rfl ⟨by rw [E.out.1, E.out.2.1, E.out.2.2]; first | done | rfl, HB9.out⟩
      case neg =>
      have hd0 : decide (x7 < 0) = false := decide_eq_false hx0
      have hd1 : decide (1 < x7) = false := decide_eq_false hx1
      have HRR := Lib.hid (show ∀ b, rightB jv = b → okJ bs = b from fun b hb => HOK.out b (by rw [show decide (x7 ≤ 1) = true from decide_eq_true (by omega), show decide (0 ≤ x7) = true from decide_eq_true (by omega), hb]; rfl))
      clear HOK hx0 hx1
      go_upto_region 9 with fail
      have b0 := cell_of_block (o := 0) HRD.out.arr rfl
      have b1 := cell_of_block (o := 1) HRD.out.arr rfl
      have b2 := cell_of_block (o := 2) HRD.out.arr rfl
      have b3 := cell_of_block (o := 3) HRD.out.arr rfl
      have b4 := cell_of_block (o := 4) HRD.out.arr rfl
      have b5 := cell_of_block (o := 5) HRD.out.arr rfl
      have b6 := cell_of_block (o := 6) HRD.out.arr rfl
      have b7 := cell_of_block (o := 7) HRD.out.arr rfl
      have b8 := cell_of_block (o := 8) HRD.out.arr rfl
      have b9 := cell_of_block (o := 9) HRD.out.arr rfl
      have b10 := cell_of_block (o := 10) HRD.out.arr rfl
      have b11 := cell_of_block (o := 11) HRD.out.arr rfl
      have b12 := cell_of_block (o := 12) HRD.out.arr rfl
      have b13 := cell_of_block (o := 13) HRD.out.arr rfl
      have b14 := cell_of_block (o := 14) HRD.out.arr rfl
      have b15 := cell_of_block (o := 15) HRD.out.arr rfl
      have b16 := cell_of_block (o := 16) HRD.out.arr rfl
      clear c0 c1 a7 hd0 hd1
      refine wp_region_lit ?_
      refine wpList_yield (w' := wr) (v := .pointer (some ⟨w.heap.size + 1 + 1, 0, none⟩)) rfl (by first | (go_simp; done) | (go_simp; rfl)) ?_
      refine wpList_yield (w' := wr) (v := .int .i64 x0) rfl (by first | (go_simp; done) | (go_simp; rfl)) ?_
      refine wpList_yield (w' := wr) (v := .pointer (some ⟨w.heap.size + 1 + 1, 1, none⟩)) rfl (by first | (go_simp; done) | (go_simp; rfl)) ?_
      refine wpList_yield (w' := wr) (v := .int .i64 x1) rfl (by first | (go_simp; done) | (go_simp; rfl)) ?_
      refine wpList_yield (w' := wr) (v := .pointer (some ⟨w.heap.size + 1 + 1, 2, none⟩)) rfl (by first | (go_simp; done) | (go_simp; rfl)) ?_
      refine wpList_yield (w' := wr) (v := .int .i64 x2) rfl (by first | (go_simp; done) | (go_simp; rfl)) ?_
      refine wpList_yield (w' := wr) (v := .pointer (some ⟨w.heap.size + 1 + 1, 3, none⟩)) rfl (by first | (go_simp; done) | (go_simp; rfl)) ?_
      refine wpList_yield (w' := wr) (v := .int .i64 x3) rfl (by first | (go_simp; done) | (go_simp; rfl)) ?_
      refine wpList_yield (w' := wr) (v := .pointer (some ⟨w.heap.size + 1 + 1, 4, none⟩)) rfl (by first | (go_simp; done) | (go_simp; rfl)) ?_
      refine wpList_yield (w' := wr) (v := .int .i64 x4) rfl (by first | (go_simp; done) | (go_simp; rfl)) ?_
      refine wpList_yield (w' := wr) (v := .pointer (some ⟨w.heap.size + 1 + 1, 5, none⟩)) rfl (by first | (go_simp; done) | (go_simp; rfl)) ?_
      refine wpList_yield (w' := wr) (v := .int .i64 x5) rfl (by first | (go_simp; done) | (go_simp; rfl)) ?_
      refine wpList_yield (w' := wr) (v := .pointer (some ⟨w.heap.size + 1 + 1, 6, none⟩)) rfl (by first | (go_simp; done) | (go_simp; rfl)) ?_
      refine wpList_yield (w' := wr) (v := .int .i64 x6) rfl (by first | (go_simp; done) | (go_simp; rfl)) ?_
      refine wpList_yield (w' := wr) (v := .pointer (some ⟨w.heap.size + 1 + 1, 7, none⟩)) rfl (by first | (go_simp; done) | (go_simp; rfl)) ?_
      refine wpList_yield (w' := wr) (v := .int .i64 x7) rfl (by first | (go_simp; done) | (go_simp; rfl)) ?_
      refine wpList_yield (w' := wr) (v := .bool (x7 == 1)) rfl (by first | (go_simp; done) | (go_simp; rfl)) ?_
      refine wpList_yield (w' := wr) (v := .pointer (some ⟨w.heap.size + 1 + 1, 8, none⟩)) rfl (by first | (go_simp; done) | (go_simp; rfl)) ?_
      refine wpList_yield (w' := wr) (v := .int .i64 x8) rfl (by first | (go_simp; done) | (go_simp; rfl)) ?_
      refine wpList_yield (w' := wr) (v := .pointer (some ⟨w.heap.size + 1 + 1, 9, none⟩)) rfl (by first | (go_simp; done) | (go_simp; rfl)) ?_
      refine wpList_yield (w' := wr) (v := .int .i64 x9) rfl (by first | (go_simp; done) | (go_simp; rfl)) ?_
      refine wpList_yield (w' := wr) (v := .pointer (some ⟨w.heap.size + 1 + 1, 10, none⟩)) rfl (by first | (go_simp; done) | (go_simp; rfl)) ?_
      refine wpList_yield (w' := wr) (v := .int .i64 x10) rfl (by first | (go_simp; done) | (go_simp; rfl)) ?_
      refine wpList_yield (w' := wr) (v := .pointer (some ⟨w.heap.size + 1 + 1, 11, none⟩)) rfl (by first | (go_simp; done) | (go_simp; rfl)) ?_
      refine wpList_yield (w' := wr) (v := .int .i64 x11) rfl (by first | (go_simp; done) | (go_simp; rfl)) ?_
      refine wpList_yield (w' := wr) (v := .pointer (some ⟨w.heap.size + 1 + 1, 12, none⟩)) rfl (by first | (go_simp; done) | (go_simp; rfl)) ?_
      refine wpList_yield (w' := wr) (v := .int .i64 x12) rfl (by first | (go_simp; done) | (go_simp; rfl)) ?_
      refine wpList_yield (w' := wr) (v := .pointer (some ⟨w.heap.size + 1 + 1, 13, none⟩)) rfl (by first | (go_simp; done) | (go_simp; rfl)) ?_
      refine wpList_yield (w' := wr) (v := .int .i64 x13) rfl (by first | (go_simp; done) | (go_simp; rfl)) ?_
      refine wpList_yield (w' := wr) (v := .int .u64 (nv (setOf x13))) rfl (by rw [W13.out x13]; first | (go_simp; done) | (go_simp; rfl)) ?_
      refine wpList_yield (w' := wr) (v := .pointer (some ⟨w.heap.size + 1 + 1, 14, none⟩)) rfl (by first | (go_simp; done) | (go_simp; rfl)) ?_
      refine wpList_yield (w' := wr) (v := .int .i64 x14) rfl (by first | (go_simp; done) | (go_simp; rfl)) ?_
      refine wpList_yield (w' := wr) (v := .int .u64 (nv (setOf x14))) rfl (by rw [W13.out x14]; first | (go_simp; done) | (go_simp; rfl)) ?_
      refine wpList_yield (w' := wr) (v := .pointer (some ⟨w.heap.size + 1 + 1, 15, none⟩)) rfl (by first | (go_simp; done) | (go_simp; rfl)) ?_
      refine wpList_yield (w' := wr) (v := .int .i64 x15) rfl (by first | (go_simp; done) | (go_simp; rfl)) ?_
      refine wpList_yield (w' := wr) (v := .pointer (some ⟨w.heap.size + 1 + 1, 16, none⟩)) rfl (by first | (go_simp; done) | (go_simp; rfl)) ?_
      refine wpList_yield (w' := wr) (v := .int .i64 x16) rfl (by first | (go_simp; done) | (go_simp; rfl)) ?_
      refine wpList_yield (w' := wr) (v := .agg (jobC jv).toArray) rfl (by rw [HJC.out]; first | (go_simp; done) | (go_simp; rfl)) ?_
      refine wpList_yield (w' := wr.alloc (.cells #[.int .i64 0, .int .i64 0, .int .i64 0, .int .i64 0, .int .i64 0, .int .i64 0, .int .i64 0, .bool false, .int .i64 0, .int .i64 0, .int .i64 0, .int .i64 0, .int .i64 0, .int .u64 0, .int .u64 0, .int .i64 0, .int .i64 0] 32)) (v := .pointer (some ⟨wr.heap.size, 0, none⟩)) rfl (by first | (go_simp; done) | (go_simp; rfl)) ?_
      have HRA := Lib.hid (HRD.out.below (below_alloc (Below.refl _ wr) (.cells #[.int .i64 0, .int .i64 0, .int .i64 0, .int .i64 0, .int .i64 0, .int .i64 0, .int .i64 0, .bool false, .int .i64 0, .int .i64 0, .int .i64 0, .int .i64 0, .int .i64 0, .int .u64 0, .int .u64 0, .int .i64 0, .int .i64 0] 32)))
      have hN := World.alloc_heap_new wr (.cells #[.int .i64 0, .int .i64 0, .int .i64 0, .int .i64 0, .int .i64 0, .int .i64 0, .int .i64 0, .bool false, .int .i64 0, .int .i64 0, .int .i64 0, .int .i64 0, .int .i64 0, .int .u64 0, .int .u64 0, .int .i64 0, .int .i64 0] 32)
      generalize wr.alloc (.cells #[.int .i64 0, .int .i64 0, .int .i64 0, .int .i64 0, .int .i64 0, .int .i64 0, .int .i64 0, .bool false, .int .i64 0, .int .i64 0, .int .i64 0, .int .i64 0, .int .i64 0, .int .u64 0, .int .u64 0, .int .i64 0, .int .i64 0] 32) = Wa at *
      obtain ⟨q, hq⟩ : ∃ q, q = wr.heap.size := ⟨_, rfl⟩
      have hqw : w.heap.size + 1 + 1 < q := by rw [hq]; exact (Array.getElem?_eq_some_iff.1 HRD.out.arr).1
      have HBW := Lib.hid (show Below wr.heap.size wr wr from Below.refl _ _)
      rw [← hq] at hN ⊢
      clear hq HRD b0 b1 b2 b3 b4 b5 b6 b7 b8 b9 b10 b11 b12 b13 b14 b15 b16
      refine wpList_store_all rfl 32 _ _ rfl q (T := 32) (jobC jv) (by go_simp) (by go_simp) hN (by rw [HLJ.out]; rfl) (by rw [HLJ.out]; kernel_rfl) HJ1.out ?_
      intro W1 hw1
      have HJ := Lib.hid hw1.there
      have HRB := Lib.hid (show RdR w W1 ⟨xs', 0⟩ _ from ⟨(hw1.rest _ (by omega)).trans HRA.out.res, (hw1.rest _ (by omega)).trans HRA.out.cur, (hw1.rest _ (by omega)).trans HRA.out.arr, hw1.below HRA.out.bel (by omega)⟩)
      clear hw1 hN HRA
      obtain ⟨lj, hlj⟩ : ∃ l, l = jobC jv := ⟨_, rfl⟩
      rw [← hlj] at HLJ HJ1 HJ HJC KRj
      have HCJ := Lib.hid hlj.symm
      clear hlj
      go_upto_region 10 with fail
      refine wp_region_lit ?_
      refine wpList_load_all rfl 32 _ rfl q lj _ (by go_simp) HJ.out Tryd.underlying32 rfl (by rw [HLJ.out]; kernel_rfl) ?_
      refine wpList_enter rfl (by go_simp) (KRj.out W1) ?_
      rintro e W2 ⟨rfl, hb2⟩
      refine ⟨_, rfl, ?_⟩
      have HJ2 := Lib.hid ((hb2.block _ (Array.getElem?_eq_some_iff.1 HJ.out).1).trans HJ.out)
      have HR2 := Lib.hid (HRB.out.below hb2)
      clear hb2 HJ HRB KRj
      have hrj : rightB jv = true ∨ rightB jv = false := by cases rightB jv; exact .inr rfl; exact .inl rfl
      rcases hrj with hr | hr
      · have E := Lib.hid (HYES.out (HRR.out true hr))
        rw [hr]
        go_upto_region 12 with fail
        have HSm := Lib.hid (HR2.out.below (show Below W2.heap.size W2 W2.drew from (Below.refl _ _).drew))
        have HJ3 := Lib.hid (((show Below W2.heap.size W2 W2.drew from (Below.refl _ _).drew).block _ (Array.getElem?_eq_some_iff.1 HJ2.out).1).trans HJ2.out)
        have hsub : IntKind.i64.wrap ((bs.length : Int) - (xs'.length : Int)) = (bs.length : Int) - (xs'.length : Int) := by have := HSF.out; have := HL.out; rw [IntKind.wrap_i64]; omega
        have hs1 := HSB.out
        have hs2 := HSY.out
        have cp : W2.drew.cell? ⟨w.heap.size + 1, 0, none⟩ = some (.string sx) := by rw [← HSX.out]; exact cell_of_block (o := 0) HSm.out.cur rfl
        refine wp_region_held (S := fun X => X.heap[q]? = some (.cells lj.toArray 32 (0, 0)) ∧ X.cell? ⟨w.heap.size + 1, 0, none⟩ = some (.string sx)) hmx ?_
        change wpAnyH _ _ _ _ _ 10 _ _ W2.drew
        generalize W2.drew = Wn at *
        have hSS : Wn.heap[q]? = some (.cells lj.toArray 32 (0, 0)) ∧ Wn.cell? ⟨w.heap.size + 1, 0, none⟩ = some (.string sx) := ⟨HJ3.out, cp⟩
        clear cp
        refine wpAnyH_take (i := 0) (v := .agg lj.toArray) rfl (by decide +kernel) (by decide +kernel) (by decide +kernel) (fun _ _ _ h => h) (yieldsIf_load_mid (by first | rfl | (go_simp; done)) 32 _ rfl q 0 (by go_simp) lj _ (fun X hX => range_of_block hX.1) Tryd.underlying32 rfl (by rw [HLJ.out]; kernel_rfl)) hSS ?_
        refine wpAnyH_take (i := 1) (v := .string ss) rfl (by decide +kernel) (by decide +kernel) (by decide +kernel) (fun _ _ _ h => h) (.inl ⟨by first | rfl | (go_simp; done), fun X hX => by have hx2 := hX.2; clear hX; first | (go_simp; done) | (go_simp; rfl)⟩) hSS ?_
        refine wpAnyH_take (i := 2) (v := .int .i64 (bs.length : Int)) rfl (by decide +kernel) (by decide +kernel) (by decide +kernel) (fun _ _ _ h => h) (.inl ⟨by first | rfl | (go_simp; done), fun X hX => by have hx2 := hX.2; clear hX; first | (go_simp; done) | (go_simp; rfl)⟩) hSS ?_
        refine wpAnyH_take (i := 3) (v := .pointer (some ⟨w.heap.size + 1, 0, none⟩)) rfl (by decide +kernel) (by decide +kernel) (by decide +kernel) (fun _ _ _ h => h) (.inl ⟨by first | rfl | (go_simp; done), fun X hX => by have hx2 := hX.2; clear hX; first | (go_simp; done) | (go_simp; rfl)⟩) hSS ?_
        refine wpAnyH_take (i := 4) (v := .string sx) rfl (by decide +kernel) (by decide +kernel) (by decide +kernel) (fun _ _ _ h => h) (.inl ⟨by first | rfl | (go_simp; done), fun X hX => by have hx2 := hX.2; clear hX; first | (go_simp; done) | (go_simp; rfl)⟩) hSS ?_
        refine wpAnyH_take (i := 5) (v := .int .i64 (xs'.length : Int)) rfl (by decide +kernel) (by decide +kernel) (by decide +kernel) (fun _ _ _ h => h) (.inl ⟨by first | rfl | (go_simp; done), fun X hX => by have hx2 := hX.2; clear hX; first | (go_simp; done) | (go_simp; rfl)⟩) hSS ?_
        refine wpAnyH_take (i := 6) (v := .int .i64 ((bs.length : Int) - (xs'.length : Int))) rfl (by decide +kernel) (by decide +kernel) (by decide +kernel) (fun _ _ _ h => h) (.inl ⟨by first | rfl | (go_simp; done), fun X hX => by have hx2 := hX.2; clear hX; first | (go_simp; done) | (go_simp; rfl)⟩) hSS ?_
        have hw9 := wrote_all HSm.out.res (l := lj) (by rw [HLJ.out]; rfl)
        have hS9 : (Wn.setCells w.heap.size 0 lj).heap[q]? = some (.cells lj.toArray 32 (0, 0)) ∧ (Wn.setCells w.heap.size 0 lj).cell? ⟨w.heap.size + 1, 0, none⟩ = some (.string sx) := ⟨(hw9.rest _ (by omega)).trans hSS.1, by rw [← HSX.out]; exact cell_of_block (o := 0) ((hw9.rest _ (by omega)).trans HSm.out.cur) rfl⟩
        refine anyH_store (i := 7) (by decide +kernel) rfl (by first | rfl | (go_simp; done)) (exec_store_all 32 _ _ rfl w.heap.size lj (by go_simp) (by go_simp) HSm.out.res (by rw [HLJ.out]; rfl) (by rw [HLJ.out]; kernel_rfl) HJ1.out) hS9 ?_
        have HW9 := Lib.hid hw9.there
        have HB9 := Lib.hid (hw9.below HSm.out.bel (Nat.le_refl _))
        clear hw9 hSS
        generalize Wn.setCells w.heap.size 0 lj = w9 at *
        refine wpAnyH_take (i := 8) (v := .int .i64 ((bs.length : Int) - (xs'.length : Int))) rfl (by decide +kernel) (by decide +kernel) (by decide +kernel) (fun _ _ _ h => h) (.inl ⟨by first | rfl | (go_simp; done), fun X hX => by have hx2 := hX.2; clear hX; first | (go_simp; done) | (go_simp; rfl)⟩) hS9 ?_
        refine wpAnyH_take (i := 9) (v := .int .i64 0) rfl (by decide +kernel) (by decide +kernel) (by decide +kernel) (fun _ _ _ h => h) (.inl ⟨by first | rfl | (go_simp; done), fun X hX => by have hx2 := hX.2; clear hX; first | (go_simp; done) | (go_simp; rfl)⟩) hS9 ?_
        refine wpAnyH_done (by decide +kernel) ?_ _
        clear hS9
        go_wp2_with fail
        exact bodyPost_ret (results_all3 lj _ Tryd.results6 (by go_simp) HW9.out Tryd.underlying32 rfl (by rw [HLJ.out]; kernel_rfl)) rfl ⟨by rw [E.out.1, E.out.2.1, E.out.2.2, HCJ.out]; first | done | (go_simp; done) | kernel_rfl, HB9.out⟩
      · have E := Lib.hid (HNO.out (HRR.out false hr))
        rw [hr]
        go_upto_region 11 with fail
        refine wp_region_lit ?_
        refine wpList_yield (w' := W2) (v := .agg (jobC job0).toArray) rfl (by go_simp; rfl) ?_
        refine wpList_store_all rfl 32 _ _ rfl w.heap.size (T := 32) (jobC job0) (by go_simp) (by go_simp) HR2.out.res rfl (by kernel_rfl) rfl ?_
        intro w9 hw9
        have HW9 := Lib.hid hw9.there
        have HB9 := Lib.hid (hw9.below HR2.out.bel (Nat.le_refl _))
        clear hw9
        go_wp2_with fail
        exact bodyPost_ret (results_all3 (jobC job0) _ Tryd.results6 (by go_simp) HW9.out Tryd.underlying32 rfl (by kernel_rfl)) rfl ⟨by rw [E.out.1, E.out.2.1, E.out.2.2]; first | done | rfl, HB9.out⟩
end Go.Proofs.YtgeldpfojmkdbaaDoor
