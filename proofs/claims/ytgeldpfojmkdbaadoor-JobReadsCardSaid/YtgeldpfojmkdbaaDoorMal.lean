/- Laws that belong together: A job read from bytes, by the document (layer 15). No condition but the lengths' bound.; The document's job (layer 15): Own, fields, Put, at any job. No condition but that its numbers fit.; JobReads walked, at any job and bytes (layer 15). The door's type of errors. -/
import Derived.Test.YtgeldpfojmkdbaaDoorMae
import Derived.Test.YtgeldpfojmkdbaaDoorMak
import Derived.Test.YtgeldpfojmkdbaaDoorMaj
import Derived.Test.YtgeldpfojmkdbaaDoorMaf
import Derived.Test.YtgeldpfojmkdbaaDoorMac
import Derived.Test.YtgeldpfojmkdbaaDoorMah
namespace Go.Proofs.YtgeldpfojmkdbaaDoor
set_option linter.unusedVariables false
open Go.ChangeShapes Go.WideShapes Go.ChangeAt Go.RowKit
attribute [local go_sem ↓] Go.wp_at_zero Go.wp_at_succ comesTo_value_eq comesTo_skip_eq comesTo_enter_eq Rl.comesToR_value_eq Rl.comesToR_skip_eq Rl.comesToR_enter_eq

/-- numbers, one behind the other, whatever is wrong -/
def rds (st : CS) : Nat → CS × List Int
  | 0 => (st, [])
  | k + 1 => ((intF (rds st k).1).1, (rds st k).2 ++ [(intF (rds st k).1).2])
theorem rds_len (st : CS) : ∀ k, (rds st k).2.length = k
  | 0 => rfl
  | k + 1 => by simp [rds, rds_len st k]
theorem intF_suff (st : CS) : (intF st).1.xs <:+ st.xs := by
  unfold intF
  split
  · exact scan_suffix _ _ _
  · exact List.suffix_refl _
theorem rds_suff (st : CS) : ∀ k, (rds st k).1.xs <:+ st.xs
  | 0 => List.suffix_refl _
  | k + 1 => (intF_suff _).trans (rds_suff st k)
theorem intF_stays {st : CS} (h : st.bad ≠ 0) : (intF st).1.bad ≠ 0 := by
  unfold intF
  rw [if_neg h]
  exact h
def jobOf (l : List Int) : JobV := ⟨l.getD 0 0, l.getD 1 0, l.getD 2 0, l.getD 3 0, l.getD 4 0, l.getD 5 0, l.getD 6 0, l.getD 7 0 == 1, l.getD 8 0, l.getD 9 0, l.getD 10 0, l.getD 11 0, l.getD 12 0, setOf (l.getD 13 0), setOf (l.getD 14 0), l.getD 15 0, l.getD 16 0⟩
def okR (bs : List Int) : Bool := ((rds ⟨bs, 0⟩ 17).1.bad == 0) && decide (0 ≤ (rds ⟨bs, 0⟩ 17).2.getD 7 0) && decide ((rds ⟨bs, 0⟩ 17).2.getD 7 0 ≤ 1) && rightB (jobOf (rds ⟨bs, 0⟩ 17).2)
theorem rds_succ {st s s' : CS} {k : Nat} {l : List Int} {x : Int} (h : rds st k = (s, l)) (e : intF s = (s', x)) : rds st (k + 1) = (s', l ++ [x]) := by
  simp only [rds, h, e]
theorem okR_read (bs : List Int) : okR bs = okJ bs ∧ (okR bs = true → readJ bs = ((rds ⟨bs, 0⟩ 17).1, jobOf (rds ⟨bs, 0⟩ 17).2)) := by
  obtain ⟨s1, x0, e0⟩ : ∃ s x, intF (⟨bs, 0⟩ : CS) = (s, x) := ⟨_, _, rfl⟩
  obtain ⟨s2, x1, e1⟩ : ∃ s x, intF s1 = (s, x) := ⟨_, _, rfl⟩
  obtain ⟨s3, x2, e2⟩ : ∃ s x, intF s2 = (s, x) := ⟨_, _, rfl⟩
  obtain ⟨s4, x3, e3⟩ : ∃ s x, intF s3 = (s, x) := ⟨_, _, rfl⟩
  obtain ⟨s5, x4, e4⟩ : ∃ s x, intF s4 = (s, x) := ⟨_, _, rfl⟩
  obtain ⟨s6, x5, e5⟩ : ∃ s x, intF s5 = (s, x) := ⟨_, _, rfl⟩
  obtain ⟨s7, x6, e6⟩ : ∃ s x, intF s6 = (s, x) := ⟨_, _, rfl⟩
  obtain ⟨s8, x7, e7⟩ : ∃ s x, intF s7 = (s, x) := ⟨_, _, rfl⟩
  obtain ⟨s9, x8, e8⟩ : ∃ s x, intF s8 = (s, x) := ⟨_, _, rfl⟩
  obtain ⟨s10, x9, e9⟩ : ∃ s x, intF s9 = (s, x) := ⟨_, _, rfl⟩
  obtain ⟨s11, x10, e10⟩ : ∃ s x, intF s10 = (s, x) := ⟨_, _, rfl⟩
  obtain ⟨s12, x11, e11⟩ : ∃ s x, intF s11 = (s, x) := ⟨_, _, rfl⟩
  obtain ⟨s13, x12, e12⟩ : ∃ s x, intF s12 = (s, x) := ⟨_, _, rfl⟩
  obtain ⟨s14, x13, e13⟩ : ∃ s x, intF s13 = (s, x) := ⟨_, _, rfl⟩
  obtain ⟨s15, x14, e14⟩ : ∃ s x, intF s14 = (s, x) := ⟨_, _, rfl⟩
  obtain ⟨s16, x15, e15⟩ : ∃ s x, intF s15 = (s, x) := ⟨_, _, rfl⟩
  obtain ⟨s17, x16, e16⟩ : ∃ s x, intF s16 = (s, x) := ⟨_, _, rfl⟩
  have r0 : rds (⟨bs, 0⟩ : CS) 0 = (⟨bs, 0⟩, []) := rfl
  have r1 : rds (⟨bs, 0⟩ : CS) 1 = (s1, [x0]) := rds_succ r0 e0
  have r2 : rds (⟨bs, 0⟩ : CS) 2 = (s2, [x0, x1]) := rds_succ r1 e1
  have r3 : rds (⟨bs, 0⟩ : CS) 3 = (s3, [x0, x1, x2]) := rds_succ r2 e2
  have r4 : rds (⟨bs, 0⟩ : CS) 4 = (s4, [x0, x1, x2, x3]) := rds_succ r3 e3
  have r5 : rds (⟨bs, 0⟩ : CS) 5 = (s5, [x0, x1, x2, x3, x4]) := rds_succ r4 e4
  have r6 : rds (⟨bs, 0⟩ : CS) 6 = (s6, [x0, x1, x2, x3, x4, x5]) := rds_succ r5 e5
  have r7 : rds (⟨bs, 0⟩ : CS) 7 = (s7, [x0, x1, x2, x3, x4, x5, x6]) := rds_succ r6 e6
  have r8 : rds (⟨bs, 0⟩ : CS) 8 = (s8, [x0, x1, x2, x3, x4, x5, x6, x7]) := rds_succ r7 e7
  have r9 : rds (⟨bs, 0⟩ : CS) 9 = (s9, [x0, x1, x2, x3, x4, x5, x6, x7, x8]) := rds_succ r8 e8
  have r10 : rds (⟨bs, 0⟩ : CS) 10 = (s10, [x0, x1, x2, x3, x4, x5, x6, x7, x8, x9]) := rds_succ r9 e9
  have r11 : rds (⟨bs, 0⟩ : CS) 11 = (s11, [x0, x1, x2, x3, x4, x5, x6, x7, x8, x9, x10]) := rds_succ r10 e10
  have r12 : rds (⟨bs, 0⟩ : CS) 12 = (s12, [x0, x1, x2, x3, x4, x5, x6, x7, x8, x9, x10, x11]) := rds_succ r11 e11
  have r13 : rds (⟨bs, 0⟩ : CS) 13 = (s13, [x0, x1, x2, x3, x4, x5, x6, x7, x8, x9, x10, x11, x12]) := rds_succ r12 e12
  have r14 : rds (⟨bs, 0⟩ : CS) 14 = (s14, [x0, x1, x2, x3, x4, x5, x6, x7, x8, x9, x10, x11, x12, x13]) := rds_succ r13 e13
  have r15 : rds (⟨bs, 0⟩ : CS) 15 = (s15, [x0, x1, x2, x3, x4, x5, x6, x7, x8, x9, x10, x11, x12, x13, x14]) := rds_succ r14 e14
  have r16 : rds (⟨bs, 0⟩ : CS) 16 = (s16, [x0, x1, x2, x3, x4, x5, x6, x7, x8, x9, x10, x11, x12, x13, x14, x15]) := rds_succ r15 e15
  have r17 : rds (⟨bs, 0⟩ : CS) 17 = (s17, [x0, x1, x2, x3, x4, x5, x6, x7, x8, x9, x10, x11, x12, x13, x14, x15, x16]) := rds_succ r16 e16
  unfold okR okJ readJ
  rw [r17]
  simp only [e0, e1, e2, e3, e4, e5, e6]
  by_cases h : x7 < 0 ∨ 1 < x7
  · have hs : smallF s7 1 = (failF s8 2, 0) := by unfold smallF; rw [e7]; exact if_pos h
    have hf : (failF s8 2).bad ≠ 0 := by unfold failF; split; decide; assumption
    have hb := intF_stays (intF_stays (intF_stays (intF_stays (intF_stays (intF_stays (intF_stays (intF_stays (intF_stays hf))))))))
    have hno : (decide (0 ≤ x7) && decide (x7 ≤ 1)) = false := by rw [Bool.eq_false_iff]; intro hh; simp only [Bool.and_eq_true, decide_eq_true_eq] at hh; omega
    simp only [e7, e8, e9, e10, e11, e12, e13, e14, e15, e16, hs]
    have hb' : ((intF (intF (intF (intF (intF (intF (intF (intF (intF (failF s8 2)).1).1).1).1).1).1).1).1).1.bad == 0) = false := beq_eq_false_iff_ne.2 hb
    rw [hb']
    simp only [List.getD_cons_succ, List.getD_cons_zero, Bool.false_and]
    rw [Bool.and_assoc ((s17 : CS).bad == 0), hno]
    simp
  · have hs : smallF s7 1 = (s8, x7) := by unfold smallF; rw [e7]; exact if_neg h
    have h0 : decide (0 ≤ x7) = true := decide_eq_true (by omega)
    have h1 : decide (x7 ≤ 1) = true := decide_eq_true (by omega)
    simp only [e7, e8, e9, e10, e11, e12, e13, e14, e15, e16, hs]
    simp only [jobOf, List.getD_cons_succ, List.getD_cons_zero, h0, h1, Bool.and_true]
    exact ⟨trivial, fun _ => trivial⟩
/-- a reading under way: the result's block, the cursor's, the numbers' -/
structure RdR (w W : World) (st : CS) (l : List Value) : Prop where
  res : W.heap[w.heap.size]? = some (.cells #[.int .i64 0, .int .i64 0, .int .i64 0, .int .i64 0, .int .i64 0, .int .i64 0, .int .i64 0, .bool false, .int .i64 0, .int .i64 0, .int .i64 0, .int .i64 0, .int .i64 0, .int .u64 0, .int .u64 0, .int .i64 0, .int .i64 0] 32 (0, 0))
  cur : W.heap[w.heap.size + 1]? = some (.cells #[.string (strOfNums st.xs), .int .i64 st.bad] 57 (0, 0))
  arr : W.heap[w.heap.size + 1 + 1]? = some (.cells l.toArray 58 (0, 0))
  bel : Below w.heap.size w W
theorem RdR.below {w W W' : World} {st : CS} {l : List Value} (h : RdR w W st l) (hb : Below W.heap.size W W') : RdR w W' st l :=
  ⟨(hb.block _ (Array.getElem?_eq_some_iff.1 h.res).1).trans h.res, (hb.block _ (Array.getElem?_eq_some_iff.1 h.cur).1).trans h.cur, (hb.block _ (Array.getElem?_eq_some_iff.1 h.arr).1).trans h.arr, below_next h.bel hb⟩
theorem RdR.step {w W : World} {st : CS} {l : List Value} (h : RdR w W st l) (st' : CS) (k : Nat) (v : Value) :
    RdR w (((W.setCell ⟨w.heap.size + 1, 0, none⟩ (.string (strOfNums st'.xs))).setCell ⟨w.heap.size + 1, 1, none⟩ (.int .i64 st'.bad)).setCell ⟨w.heap.size + 1 + 1, k, none⟩ v) st' (l.set k v) := by
  have h1 := ((wrote_refl h.cur).set 0 (.string (strOfNums st'.xs))).set 1 (.int .i64 st'.bad)
  have hA := (h1.rest (w.heap.size + 1 + 1) (by omega)).trans h.arr
  have h2 := (wrote_refl hA).set k v
  refine ⟨(h2.rest _ (by omega)).trans ((h1.rest _ (by omega)).trans h.res), (h2.rest _ (by omega)).trans h1.there, ?_, h2.below (h1.below h.bel (by omega)) (by omega)⟩
  have := h2.there
  rwa [List.setIfInBounds_toArray] at this
/-- the numbers' block when k have been read -/
def arrC (ls : List Int) : List Value := ls.map (Value.int .i64) ++ List.replicate (17 - ls.length) (.int .i64 0)
theorem arrC_set (ls : List Int) (hk : ls.length < 17) (x : Int) : (arrC ls).set ls.length (.int .i64 x) = arrC (ls ++ [x]) := by
  unfold arrC
  rw [List.set_append]
  simp only [List.length_map, Nat.lt_irrefl, if_false, Nat.sub_self, List.map_append, List.map_cons, List.map_nil, List.length_append, List.length_cons, List.length_nil, List.append_assoc]
  obtain ⟨m, hm⟩ : ∃ m, 17 - ls.length = m + 1 := ⟨16 - ls.length, by omega⟩
  rw [hm, show 17 - (ls.length + (0 + 1)) = m by omega, List.replicate_succ]
  rfl
theorem arrC_len (ls : List Int) (h : ls.length ≤ 17) : (arrC ls).length = 17 := by unfold arrC; simp; omega
set_option maxRecDepth 100000 in
set_option maxHeartbeats 4000000 in
theorem rread_any (bs : List Int) (hx : ∀ x ∈ bs, 0 ≤ x ∧ x ≤ 255) (hl : bs.length ≤ 1099511627775) (w : World) : Calls Tryd.prog 6 #[.string (strOfNums bs)] w fun e w' => e = .returned (.tuple #[.agg (jobC (gotJ bs)).toArray, .int .i64 (cntJ bs), .int .i64 (codeJ bs)]) ∧ Below w.heap.size w w' := by
  have hmx : Tryd.prog.follows .mixedOrders = true := by kernel_rfl
  have HX := Lib.hid hx
  have HL := Lib.hid hl
  have HOR := Lib.hid (okR_read bs)
  have HRL := Lib.hid (fun k => rds_len ⟨bs, 0⟩ k)
  have HRS := Lib.hid (fun k => rds_suff ⟨bs, 0⟩ k)
  have HSB := Lib.hid (size_str bs)
  obtain ⟨ss, hss⟩ : ∃ ss, ss = strOfNums bs := ⟨_, rfl⟩
  rw [← hss] at HSB ⊢
  have HSS := Lib.hid hss
  clear hx hl hss
  go_enter Tryd.func6, Tryd.ntmps6
  go_wp2_with fail
  rw [HSS.out]
  have hA := below_alloc (below_alloc (below_alloc (Below.refl _ w) (.cells #[.int .i64 0, .int .i64 0, .int .i64 0, .int .i64 0, .int .i64 0, .int .i64 0, .int .i64 0, .bool false, .int .i64 0, .int .i64 0, .int .i64 0, .int .i64 0, .int .i64 0, .int .u64 0, .int .u64 0, .int .i64 0, .int .i64 0] 32)) (.cells #[.string (strOfNums bs), .int .i64 0] 57)) (.cells #[.int .i64 0, .int .i64 0, .int .i64 0, .int .i64 0, .int .i64 0, .int .i64 0, .int .i64 0, .int .i64 0, .int .i64 0, .int .i64 0, .int .i64 0, .int .i64 0, .int .i64 0, .int .i64 0, .int .i64 0, .int .i64 0, .int .i64 0] 58)
  have hR : RdR w (((w.alloc (.cells #[.int .i64 0, .int .i64 0, .int .i64 0, .int .i64 0, .int .i64 0, .int .i64 0, .int .i64 0, .bool false, .int .i64 0, .int .i64 0, .int .i64 0, .int .i64 0, .int .i64 0, .int .u64 0, .int .u64 0, .int .i64 0, .int .i64 0] 32)).alloc (.cells #[.string (strOfNums bs), .int .i64 0] 57)).alloc (.cells #[.int .i64 0, .int .i64 0, .int .i64 0, .int .i64 0, .int .i64 0, .int .i64 0, .int .i64 0, .int .i64 0, .int .i64 0, .int .i64 0, .int .i64 0, .int .i64 0, .int .i64 0, .int .i64 0, .int .i64 0, .int .i64 0, .int .i64 0] 58)) (rds ⟨bs, 0⟩ 0).1 (arrC (rds ⟨bs, 0⟩ 0).2) := by
    have s1 : (w.alloc (.cells #[.int .i64 0, .int .i64 0, .int .i64 0, .int .i64 0, .int .i64 0, .int .i64 0, .int .i64 0, .bool false, .int .i64 0, .int .i64 0, .int .i64 0, .int .i64 0, .int .i64 0, .int .u64 0, .int .u64 0, .int .i64 0, .int .i64 0] 32)).heap.size = w.heap.size + 1 := by simp
    have s2 : ((w.alloc (.cells #[.int .i64 0, .int .i64 0, .int .i64 0, .int .i64 0, .int .i64 0, .int .i64 0, .int .i64 0, .bool false, .int .i64 0, .int .i64 0, .int .i64 0, .int .i64 0, .int .i64 0, .int .u64 0, .int .u64 0, .int .i64 0, .int .i64 0] 32)).alloc (.cells #[.string (strOfNums bs), .int .i64 0] 57)).heap.size = w.heap.size + 1 + 1 := by simp
    have b1 := below_alloc (Below.refl _ (w.alloc (.cells #[.int .i64 0, .int .i64 0, .int .i64 0, .int .i64 0, .int .i64 0, .int .i64 0, .int .i64 0, .bool false, .int .i64 0, .int .i64 0, .int .i64 0, .int .i64 0, .int .i64 0, .int .u64 0, .int .u64 0, .int .i64 0, .int .i64 0] 32))) (.cells #[.string (strOfNums bs), .int .i64 0] 57)
    have b2 := below_alloc (Below.refl _ ((w.alloc (.cells #[.int .i64 0, .int .i64 0, .int .i64 0, .int .i64 0, .int .i64 0, .int .i64 0, .int .i64 0, .bool false, .int .i64 0, .int .i64 0, .int .i64 0, .int .i64 0, .int .i64 0, .int .u64 0, .int .u64 0, .int .i64 0, .int .i64 0] 32)).alloc (.cells #[.string (strOfNums bs), .int .i64 0] 57))) (.cells #[.int .i64 0, .int .i64 0, .int .i64 0, .int .i64 0, .int .i64 0, .int .i64 0, .int .i64 0, .int .i64 0, .int .i64 0, .int .i64 0, .int .i64 0, .int .i64 0, .int .i64 0, .int .i64 0, .int .i64 0, .int .i64 0, .int .i64 0] 58)
    refine ⟨?_, ?_, ?_, hA⟩
    · exact (b2.block _ (by omega)).trans ((b1.block _ (by omega)).trans (World.alloc_heap_new w _))
    · have := World.alloc_heap_new (w.alloc (.cells #[.int .i64 0, .int .i64 0, .int .i64 0, .int .i64 0, .int .i64 0, .int .i64 0, .int .i64 0, .bool false, .int .i64 0, .int .i64 0, .int .i64 0, .int .i64 0, .int .i64 0, .int .u64 0, .int .u64 0, .int .i64 0, .int .i64 0] 32)) (.cells #[.string (strOfNums bs), .int .i64 0] 57)
      rw [s1] at this
      exact (b2.block _ (by omega)).trans this
    · have := World.alloc_heap_new ((w.alloc (.cells #[.int .i64 0, .int .i64 0, .int .i64 0, .int .i64 0, .int .i64 0, .int .i64 0, .int .i64 0, .bool false, .int .i64 0, .int .i64 0, .int .i64 0, .int .i64 0, .int .i64 0, .int .u64 0, .int .u64 0, .int .i64 0, .int .i64 0] 32)).alloc (.cells #[.string (strOfNums bs), .int .i64 0] 57)) (.cells #[.int .i64 0, .int .i64 0, .int .i64 0, .int .i64 0, .int .i64 0, .int .i64 0, .int .i64 0, .int .i64 0, .int .i64 0, .int .i64 0, .int .i64 0, .int .i64 0, .int .i64 0, .int .i64 0, .int .i64 0, .int .i64 0, .int .i64 0] 58)
      rw [s2] at this
      exact this
  have HR := Lib.hid hR
  clear hR hA
  rw [← HSS.out]
  rw [← HSS.out] at HR
  generalize ((w.alloc (.cells #[.int .i64 0, .int .i64 0, .int .i64 0, .int .i64 0, .int .i64 0, .int .i64 0, .int .i64 0, .bool false, .int .i64 0, .int .i64 0, .int .i64 0, .int .i64 0, .int .i64 0, .int .u64 0, .int .u64 0, .int .i64 0, .int .i64 0] 32)).alloc (.cells #[.string ss, .int .i64 0] 57)).alloc (.cells #[.int .i64 0, .int .i64 0, .int .i64 0, .int .i64 0, .int .i64 0, .int .i64 0, .int .i64 0, .int .i64 0, .int .i64 0, .int .i64 0, .int .i64 0, .int .i64 0, .int .i64 0, .int .i64 0, .int .i64 0, .int .i64 0, .int .i64 0] 58) = U at *
  go_loopw [7] (fun i wr => ∃ k : Nat, k ≤ 17 ∧ i = .int .i64 k ∧ RdR w wr (rds ⟨bs, 0⟩ k).1 (arrC (rds ⟨bs, 0⟩ k).2)) (fun i _ => 17 - (intOf i).toNat)
  case atStart => exact ⟨0, Nat.zero_le _, rfl, HR.out⟩
  case round =>
    obtain ⟨k, hk, rfl, hrd⟩ := hrel
    have HRD := Lib.hid hrd
    clear hrd HR
    by_cases hlt : k < 17
    · have hd : decide ((k : Int) < 17) = true := decide_eq_true (by omega)
      have hkI : (k : Int) < 17 := by omega
      have hlk := HRL.out k
      have hbx : ∀ x ∈ (rds ⟨bs, 0⟩ k).1.xs, 0 ≤ x ∧ x ≤ 255 := fun x hx => HX.out x ((HRS.out k).subset hx)
      have hbl : (rds ⟨bs, 0⟩ k).1.xs.length ≤ 1099511627776 := by have := (HRS.out k).length_le; have := HL.out; have h3 : (⟨bs, 0⟩ : CS).xs.length = bs.length := rfl; omega
      have HNX := Lib.hid (show rds ⟨bs, 0⟩ (k + 1) = ((intF (rds ⟨bs, 0⟩ k).1).1, (rds ⟨bs, 0⟩ k).2 ++ [(intF (rds ⟨bs, 0⟩ k).1).2]) from rfl)
      have KI := Lib.hid (rint_any (rds ⟨bs, 0⟩ k).1 hbx hbl wr)
      clear hbx hbl
      generalize rds ⟨bs, 0⟩ k = rk at *
      obtain ⟨st, ls⟩ := rk
      simp only at hlk HNX KI HRD
      obtain ⟨st', x, e⟩ : ∃ s x, intF st = (s, x) := ⟨_, _, rfl⟩
      rw [e] at HNX KI
      have KI2 := Lib.hid (show Calls Tryd.prog 25 #[.agg #[.string (strOfNums st.xs), .int .i64 st.bad]] wr fun e w' => e = .returned (.tuple #[.agg #[.string (strOfNums st'.xs), .int .i64 st'.bad], .int .i64 x]) ∧ Below wr.heap.size wr w' from KI.out)
      clear KI e
      have c0 := cell_of_block (o := 0) HRD.out.cur rfl
      have c1 := cell_of_block (o := 1) HRD.out.cur rfl
      generalize hsx : strOfNums st.xs = sx at *
      clear hsx
      go_wp2_with fail
      ((with_reducible refine KI2.out.mono ?_))
      rintro e w4 ⟨rfl, hb4⟩
      have HR4 := Lib.hid (HRD.out.below hb4)
      clear hb4 c0 c1
      have c0 := cell_of_block (o := 0) HR4.out.cur rfl
      have c1 := cell_of_block (o := 1) HR4.out.cur rfl
      have f0 := free_of_block 0 HR4.out.cur
      have f1 := free_of_block 1 HR4.out.cur
      have hkl : (arrC ls).toArray[k]? = some ((arrC ls)[k]'(by rw [arrC_len ls (by omega)]; omega)) := by simp
      have cA := cell_of_block (o := k) HR4.out.arr hkl
      have fA := free_of_block k HR4.out.arr
      clear hkl
      have HST := Lib.hid (HR4.out.step st' k (.int .i64 x))
      have HAS := Lib.hid (arrC_set ls (by omega) x)
      rw [hlk] at HAS
      rw [HAS.out] at HST
      generalize strOfNums st'.xs = sy at *
      go_wp2_with fail
      go_roundw
      case rel => exact ⟨k + 1, by omega, by go_num, by rw [HNX.out]; exact HST.out⟩
      case measure => simp [intOf]; omega
    · obtain rfl : k = 17 := by omega
      have hlk := HRL.out 17
      have hsf := HRS.out 17
      have HO := HOR.out
      unfold okR at HO
      clear HRL HRS HOR
      generalize rds ⟨bs, 0⟩ 17 = rk at *
      obtain ⟨st, ls⟩ := rk
      simp only at hlk hsf HO HRD
      obtain ⟨x0, x1, x2, x3, x4, x5, x6, x7, x8, x9, x10, x11, x12, x13, x14, x15, x16, rfl⟩ : ∃ x0 x1 x2 x3 x4 x5 x6 x7 x8 x9 x10 x11 x12 x13 x14 x15 x16, ls = [x0, x1, x2, x3, x4, x5, x6, x7, x8, x9, x10, x11, x12, x13, x14, x15, x16] := by
        match ls, hlk with
        | [x0, x1, x2, x3, x4, x5, x6, x7, x8, x9, x10, x11, x12, x13, x14, x15, x16], _ => exact ⟨x0, x1, x2, x3, x4, x5, x6, x7, x8, x9, x10, x11, x12, x13, x14, x15, x16, rfl⟩
      have hA : arrC [x0, x1, x2, x3, x4, x5, x6, x7, x8, x9, x10, x11, x12, x13, x14, x15, x16] = [.int .i64 x0, .int .i64 x1, .int .i64 x2, .int .i64 x3, .int .i64 x4, .int .i64 x5, .int .i64 x6, .int .i64 x7, .int .i64 x8, .int .i64 x9, .int .i64 x10, .int .i64 x11, .int .i64 x12, .int .i64 x13, .int .i64 x14, .int .i64 x15, .int .i64 x16] := rfl
      rw [hA] at HRD
      clear hA hlk
      obtain ⟨jv, hjv⟩ : ∃ jv, jv = jobOf [x0, x1, x2, x3, x4, x5, x6, x7, x8, x9, x10, x11, x12, x13, x14, x15, x16] := ⟨_, rfl⟩
      rw [← hjv] at HO
      simp only [List.getD_cons_succ, List.getD_cons_zero] at HO
      have HJC := Lib.hid (show (.agg (jobC jv).toArray : Value) = .agg #[.int .i64 x0, .int .i64 x1, .int .i64 x2, .int .i64 x3, .int .i64 x4, .int .i64 x5, .int .i64 x6, .bool (x7 == 1), .int .i64 x8, .int .i64 x9, .int .i64 x10, .int .i64 x11, .int .i64 x12, .int .u64 (nv (setOf x13)), .int .u64 (nv (setOf x14)), .int .i64 x15, .int .i64 x16] by rw [hjv]; rfl)
      have HLJ := Lib.hid (jobC_len jv)
      have HJ1 := Lib.hid (jobC_one jv)
      have KRj := Lib.hid (fun W => rright_any jv W)
      clear hjv
      obtain ⟨xs', bd⟩ := st
      simp only at hsf HO HRD
      have HSF := Lib.hid hsf.length_le
      have HNO := Lib.hid (show okJ bs = false → gotJ bs = job0 ∧ cntJ bs = 0 ∧ codeJ bs = 11 from fun h => by unfold gotJ cntJ codeJ; rw [h]; exact ⟨rfl, rfl, rfl⟩)
      have HYES := Lib.hid (show okJ bs = true → gotJ bs = jv ∧ cntJ bs = (bs.length : Int) - (xs'.length : Int) ∧ codeJ bs = 0 from fun h => by unfold gotJ cntJ codeJ; rw [h, HO.2 (HO.1.trans h)]; exact ⟨rfl, rfl, rfl⟩)
      have HOK := Lib.hid (show ∀ b, ((bd == 0) && decide (0 ≤ x7) && decide (x7 ≤ 1) && rightB jv) = b → okJ bs = b from fun b hb => HO.1.symm.trans hb)
      have HSY := Lib.hid (size_str xs')
      clear HO hsf
      have W13 := Lib.hid (fun x => nv_setOf x)
      have c0 := cell_of_block (o := 0) HRD.out.cur rfl
      have c1 := cell_of_block (o := 1) HRD.out.cur rfl
      have a7 := cell_of_block (o := 7) HRD.out.arr rfl
      generalize hsx : strOfNums xs' = sx at *
      have HSX := Lib.hid hsx
      clear hsx
      have h0J : (.agg (jobC job0).toArray : Value) = .agg #[.int .i64 0, .int .i64 0, .int .i64 0, .int .i64 0, .int .i64 0, .int .i64 0, .int .i64 0, .bool false, .int .i64 0, .int .i64 0, .int .i64 0, .int .i64 0, .int .i64 0, .int .u64 0, .int .u64 0, .int .i64 0, .int .i64 0] := rfl
      by_cases hbd : bd = 0
      case neg =>
        have hb' : (bd == 0) = false := beq_eq_false_iff_ne.2 hbd
        have hb2 : (bd != 0) = true := bne_iff_ne.2 hbd
        have E := Lib.hid (HNO.out (HOK.out false (by rw [hb']; rfl)))
        clear hbd hb'
        go_upto_region 8 with fail
        refine wp_region_lit ?_
        refine wpList_yield (w' := wr) (v := .agg (jobC job0).toArray) rfl (by go_simp; rfl) ?_
        refine wpList_store_all rfl 32 _ _ rfl w.heap.size (T := 32) (jobC job0) (by go_simp) (by go_simp) HRD.out.res rfl (by kernel_rfl) rfl ?_
        intro w9 hw9
        have HW9 := Lib.hid hw9.there
        have HB9 := Lib.hid (hw9.below HRD.out.bel (Nat.le_refl _))
        clear hw9
        go_wp2_with fail
        exact bodyPost_ret (results_all3 (jobC job0) _ Tryd.results6 (by go_simp) HW9.out Tryd.underlying32 rfl (by kernel_rfl)) rfl ⟨by rw [E.out.1, E.out.2.1, E.out.2.2]; first | done | rfl, HB9.out⟩
      case pos =>
      subst hbd
      by_cases hx0 : x7 < 0
      case pos =>
        have hd0 : decide (x7 < 0) = true := decide_eq_true hx0
        have E := Lib.hid (HNO.out (HOK.out false (by rw [show decide (0 ≤ x7) = false from decide_eq_false (by omega)]; simp)))
        go_upto_region 8 with fail
        refine wp_region_lit ?_
        refine wpList_yield (w' := wr) (v := .agg (jobC job0).toArray) rfl (by go_simp; rfl) ?_
        refine wpList_store_all rfl 32 _ _ rfl w.heap.size (T := 32) (jobC job0) (by go_simp) (by go_simp) HRD.out.res rfl (by kernel_rfl) rfl ?_
        intro w9 hw9
        have HW9 := Lib.hid hw9.there
        have HB9 := Lib.hid (hw9.below HRD.out.bel (Nat.le_refl _))
        clear hw9
        go_wp2_with fail
        exact bodyPost_ret (results_all3 (jobC job0) _ Tryd.results6 (by go_simp) HW9.out Tryd.underlying32 rfl (by kernel_rfl)) rfl ⟨by rw [E.out.1, E.out.2.1, E.out.2.2]; first | done | rfl, HB9.out⟩
      case neg =>
      by_cases hx1 : 1 < x7
      case pos =>
        have hd0 : decide (x7 < 0) = false := decide_eq_false hx0
        have hd1 : decide (1 < x7) = true := decide_eq_true hx1
        have E := Lib.hid (HNO.out (HOK.out false (by rw [show decide (x7 ≤ 1) = false from decide_eq_false (by omega)]; simp)))
        go_upto_region 8 with fail
        refine wp_region_lit ?_
        refine wpList_yield (w' := wr) (v := .agg (jobC job0).toArray) rfl (by go_simp; rfl) ?_
        refine wpList_store_all rfl 32 _ _ rfl w.heap.size (T := 32) (jobC job0) (by go_simp) (by go_simp) HRD.out.res rfl (by kernel_rfl) rfl ?_
        intro w9 hw9
        have HW9 := Lib.hid hw9.there
        have HB9 := Lib.hid (hw9.below HRD.out.bel (Nat.le_refl _))
        clear hw9
        go_wp2_with fail
        exact bodyPost_ret (results_all3 (jobC job0) _ Tryd.results6 (by go_simp) HW9.out Tryd.underlying32 rfl (by kernel_rfl)) rfl ⟨by rw [E.out.1, E.out.2.1, E.out.2.2]; first | done | rfl, HB9.out⟩
      case neg =>
      have hd0 : decide (x7 < 0) = false := decide_eq_false hx0
      have hd1 : decide (1 < x7) = false := decide_eq_false hx1
      have HRR := Lib.hid (show ∀ b, rightB jv = b → okJ bs = b from fun b hb => HOK.out b (by rw [show decide (x7 ≤ 1) = true from decide_eq_true (by omega), show decide (0 ≤ x7) = true from decide_eq_true (by omega), hb]; rfl))
      clear HOK hx0 hx1
      go_upto_region 9 with fail
      have b0 := cell_of_block (o := 0) HRD.out.arr rfl
      have b1 := cell_of_block (o := 1) HRD.out.arr rfl
      have b2 := cell_of_block (o := 2) HRD.out.arr rfl
      have b3 := cell_of_block (o := 3) HRD.out.arr rfl
      have b4 := cell_of_block (o := 4) HRD.out.arr rfl
      have b5 := cell_of_block (o := 5) HRD.out.arr rfl
      have b6 := cell_of_block (o := 6) HRD.out.arr rfl
      have b7 := cell_of_block (o := 7) HRD.out.arr rfl
      have b8 := cell_of_block (o := 8) HRD.out.arr rfl
      have b9 := cell_of_block (o := 9) HRD.out.arr rfl
      have b10 := cell_of_block (o := 10) HRD.out.arr rfl
      have b11 := cell_of_block (o := 11) HRD.out.arr rfl
      have b12 := cell_of_block (o := 12) HRD.out.arr rfl
      have b13 := cell_of_block (o := 13) HRD.out.arr rfl
      have b14 := cell_of_block (o := 14) HRD.out.arr rfl
      have b15 := cell_of_block (o := 15) HRD.out.arr rfl
      have b16 := cell_of_block (o := 16) HRD.out.arr rfl
      clear c0 c1 a7 hd0 hd1
      refine wp_region_lit ?_
      refine wpList_yield (w' := wr) (v := .pointer (some ⟨w.heap.size + 1 + 1, 0, none⟩)) rfl (by first | (go_simp; done) | (go_simp; rfl)) ?_
      refine wpList_yield (w' := wr) (v := .int .i64 x0) rfl (by first | (go_simp; done) | (go_simp; rfl)) ?_
      refine wpList_yield (w' := wr) (v := .pointer (some ⟨w.heap.size + 1 + 1, 1, none⟩)) rfl (by first | (go_simp; done) | (go_simp; rfl)) ?_
      refine wpList_yield (w' := wr) (v := .int .i64 x1) rfl (by first | (go_simp; done) | (go_simp; rfl)) ?_
      refine wpList_yield (w' := wr) (v := .pointer (some ⟨w.heap.size + 1 + 1, 2, none⟩)) rfl (by first | (go_simp; done) | (go_simp; rfl)) ?_
      refine wpList_yield (w' := wr) (v := .int .i64 x2) rfl (by first | (go_simp; done) | (go_simp; rfl)) ?_
      refine wpList_yield (w' := wr) (v := .pointer (some ⟨w.heap.size + 1 + 1, 3, none⟩)) rfl (by first | (go_simp; done) | (go_simp; rfl)) ?_
      refine wpList_yield (w' := wr) (v := .int .i64 x3) rfl (by first | (go_simp; done) | (go_simp; rfl)) ?_
      refine wpList_yield (w' := wr) (v := .pointer (some ⟨w.heap.size + 1 + 1, 4, none⟩)) rfl (by first | (go_simp; done) | (go_simp; rfl)) ?_
      refine wpList_yield (w' := wr) (v := .int .i64 x4) rfl (by first | (go_simp; done) | (go_simp; rfl)) ?_
      refine wpList_yield (w' := wr) (v := .pointer (some ⟨w.heap.size + 1 + 1, 5, none⟩)) rfl (by first | (go_simp; done) | (go_simp; rfl)) ?_
      refine wpList_yield (w' := wr) (v := .int .i64 x5) rfl (by first | (go_simp; done) | (go_simp; rfl)) ?_
      refine wpList_yield (w' := wr) (v := .pointer (some ⟨w.heap.size + 1 + 1, 6, none⟩)) rfl (by first | (go_simp; done) | (go_simp; rfl)) ?_
      refine wpList_yield (w' := wr) (v := .int .i64 x6) rfl (by first | (go_simp; done) | (go_simp; rfl)) ?_
      refine wpList_yield (w' := wr) (v := .pointer (some ⟨w.heap.size + 1 + 1, 7, none⟩)) rfl (by first | (go_simp; done) | (go_simp; rfl)) ?_
      refine wpList_yield (w' := wr) (v := .int .i64 x7) rfl (by first | (go_simp; done) | (go_simp; rfl)) ?_
      refine wpList_yield (w' := wr) (v := .bool (x7 == 1)) rfl (by first | (go_simp; done) | (go_simp; rfl)) ?_
      refine wpList_yield (w' := wr) (v := .pointer (some ⟨w.heap.size + 1 + 1, 8, none⟩)) rfl (by first | (go_simp; done) | (go_simp; rfl)) ?_
      refine wpList_yield (w' := wr) (v := .int .i64 x8) rfl (by first | (go_simp; done) | (go_simp; rfl)) ?_
      refine wpList_yield (w' := wr) (v := .pointer (some ⟨w.heap.size + 1 + 1, 9, none⟩)) rfl (by first | (go_simp; done) | (go_simp; rfl)) ?_
      refine wpList_yield (w' := wr) (v := .int .i64 x9) rfl (by first | (go_simp; done) | (go_simp; rfl)) ?_
      refine wpList_yield (w' := wr) (v := .pointer (some ⟨w.heap.size + 1 + 1, 10, none⟩)) rfl (by first | (go_simp; done) | (go_simp; rfl)) ?_
      refine wpList_yield (w' := wr) (v := .int .i64 x10) rfl (by first | (go_simp; done) | (go_simp; rfl)) ?_
      refine wpList_yield (w' := wr) (v := .pointer (some ⟨w.heap.size + 1 + 1, 11, none⟩)) rfl (by first | (go_simp; done) | (go_simp; rfl)) ?_
      refine wpList_yield (w' := wr) (v := .int .i64 x11) rfl (by first | (go_simp; done) | (go_simp; rfl)) ?_
      refine wpList_yield (w' := wr) (v := .pointer (some ⟨w.heap.size + 1 + 1, 12, none⟩)) rfl (by first | (go_simp; done) | (go_simp; rfl)) ?_
      refine wpList_yield (w' := wr) (v := .int .i64 x12) rfl (by first | (go_simp; done) | (go_simp; rfl)) ?_
      refine wpList_yield (w' := wr) (v := .pointer (some ⟨w.heap.size + 1 + 1, 13, none⟩)) rfl (by first | (go_simp; done) | (go_simp; rfl)) ?_
      refine wpList_yield (w' := wr) (v := .int .i64 x13) rfl (by first | (go_simp; done) | (go_simp; rfl)) ?_
      refine wpList_yield (w' := wr) (v := .int .u64 (nv (setOf x13))) rfl (by rw [W13.out x13]; first | (go_simp; done) | (go_simp; rfl)) ?_
      refine wpList_yield (w' := wr) (v := .pointer (some ⟨w.heap.size + 1 + 1, 14, none⟩)) rfl (by first | (go_simp; done) | (go_simp; rfl)) ?_
      refine wpList_yield (w' := wr) (v := .int .i64 x14) rfl (by first | (go_simp; done) | (go_simp; rfl)) ?_
      refine wpList_yield (w' := wr) (v := .int .u64 (nv (setOf x14))) rfl (by rw [W13.out x14]; first | (go_simp; done) | (go_simp; rfl)) ?_
      refine wpList_yield (w' := wr) (v := .pointer (some ⟨w.heap.size + 1 + 1, 15, none⟩)) rfl (by first | (go_simp; done) | (go_simp; rfl)) ?_
      refine wpList_yield (w' := wr) (v := .int .i64 x15) rfl (by first | (go_simp; done) | (go_simp; rfl)) ?_
      refine wpList_yield (w' := wr) (v := .pointer (some ⟨w.heap.size + 1 + 1, 16, none⟩)) rfl (by first | (go_simp; done) | (go_simp; rfl)) ?_
      refine wpList_yield (w' := wr) (v := .int .i64 x16) rfl (by first | (go_simp; done) | (go_simp; rfl)) ?_
      refine wpList_yield (w' := wr) (v := .agg (jobC jv).toArray) rfl (by rw [HJC.out]; first | (go_simp; done) | (go_simp; rfl)) ?_
      refine wpList_yield (w' := wr.alloc (.cells #[.int .i64 0, .int .i64 0, .int .i64 0, .int .i64 0, .int .i64 0, .int .i64 0, .int .i64 0, .bool false, .int .i64 0, .int .i64 0, .int .i64 0, .int .i64 0, .int .i64 0, .int .u64 0, .int .u64 0, .int .i64 0, .int .i64 0] 32)) (v := .pointer (some ⟨wr.heap.size, 0, none⟩)) rfl (by first | (go_simp; done) | (go_simp; rfl)) ?_
      have HRA := Lib.hid (HRD.out.below (below_alloc (Below.refl _ wr) (.cells #[.int .i64 0, .int .i64 0, .int .i64 0, .int .i64 0, .int .i64 0, .int .i64 0, .int .i64 0, .bool false, .int .i64 0, .int .i64 0, .int .i64 0, .int .i64 0, .int .i64 0, .int .u64 0, .int .u64 0, .int .i64 0, .int .i64 0] 32)))
      have hN := World.alloc_heap_new wr (.cells #[.int .i64 0, .int .i64 0, .int .i64 0, .int .i64 0, .int .i64 0, .int .i64 0, .int .i64 0, .bool false, .int .i64 0, .int .i64 0, .int .i64 0, .int .i64 0, .int .i64 0, .int .u64 0, .int .u64 0, .int .i64 0, .int .i64 0] 32)
      generalize wr.alloc (.cells #[.int .i64 0, .int .i64 0, .int .i64 0, .int .i64 0, .int .i64 0, .int .i64 0, .int .i64 0, .bool false, .int .i64 0, .int .i64 0, .int .i64 0, .int .i64 0, .int .i64 0, .int .u64 0, .int .u64 0, .int .i64 0, .int .i64 0] 32) = Wa at *
      obtain ⟨q, hq⟩ : ∃ q, q = wr.heap.size := ⟨_, rfl⟩
      have hqw : w.heap.size + 1 + 1 < q := by rw [hq]; exact (Array.getElem?_eq_some_iff.1 HRD.out.arr).1
      have HBW := Lib.hid (show Below wr.heap.size wr wr from Below.refl _ _)
      rw [← hq] at hN ⊢
      clear hq HRD b0 b1 b2 b3 b4 b5 b6 b7 b8 b9 b10 b11 b12 b13 b14 b15 b16
      refine wpList_store_all rfl 32 _ _ rfl q (T := 32) (jobC jv) (by go_simp) (by go_simp) hN (by rw [HLJ.out]; rfl) (by rw [HLJ.out]; kernel_rfl) HJ1.out ?_
      intro W1 hw1
      have HJ := Lib.hid hw1.there
      have HRB := Lib.hid (show RdR w W1 ⟨xs', 0⟩ _ from ⟨(hw1.rest _ (by omega)).trans HRA.out.res, (hw1.rest _ (by omega)).trans HRA.out.cur, (hw1.rest _ (by omega)).trans HRA.out.arr, hw1.below HRA.out.bel (by omega)⟩)
      clear hw1 hN HRA
      obtain ⟨lj, hlj⟩ : ∃ l, l = jobC jv := ⟨_, rfl⟩
      rw [← hlj] at HLJ HJ1 HJ HJC KRj
      have HCJ := Lib.hid hlj.symm
      clear hlj
      go_upto_region 10 with fail
      refine wp_region_lit ?_
      refine wpList_load_all rfl 32 _ rfl q lj _ (by go_simp) HJ.out Tryd.underlying32 rfl (by rw [HLJ.out]; kernel_rfl) ?_
      refine wpList_enter rfl (by go_simp) (KRj.out W1) ?_
      rintro e W2 ⟨rfl, hb2⟩
      refine ⟨_, rfl, ?_⟩
      have HJ2 := Lib.hid ((hb2.block _ (Array.getElem?_eq_some_iff.1 HJ.out).1).trans HJ.out)
      have HR2 := Lib.hid (HRB.out.below hb2)
      clear hb2 HJ HRB KRj
      have hrj : rightB jv = true ∨ rightB jv = false := by cases rightB jv; exact .inr rfl; exact .inl rfl
      rcases hrj with hr | hr
      · have E := Lib.hid (HYES.out (HRR.out true hr))
        rw [hr]
        go_upto_region 12 with fail
        have HSm := Lib.hid (HR2.out.below (show Below W2.heap.size W2 W2.drew from (Below.refl _ _).drew))
        have HJ3 := Lib.hid (((show Below W2.heap.size W2 W2.drew from (Below.refl _ _).drew).block _ (Array.getElem?_eq_some_iff.1 HJ2.out).1).trans HJ2.out)
        have hsub : IntKind.i64.wrap ((bs.length : Int) - (xs'.length : Int)) = (bs.length : Int) - (xs'.length : Int) := by have := HSF.out; have := HL.out; rw [IntKind.wrap_i64]; omega
        have hs1 := HSB.out
        have hs2 := HSY.out
        have cp : W2.drew.cell? ⟨w.heap.size + 1, 0, none⟩ = some (.string sx) := by rw [← HSX.out]; exact cell_of_block (o := 0) HSm.out.cur rfl
        refine wp_region_held (S := fun X => X.heap[q]? = some (.cells lj.toArray 32 (0, 0)) ∧ X.cell? ⟨w.heap.size + 1, 0, none⟩ = some (.string sx)) hmx ?_
        change wpAnyH _ _ _ _ _ 10 _ _ W2.drew
        generalize W2.drew = Wn at *
        have hSS : Wn.heap[q]? = some (.cells lj.toArray 32 (0, 0)) ∧ Wn.cell? ⟨w.heap.size + 1, 0, none⟩ = some (.string sx) := ⟨HJ3.out, cp⟩
        clear cp
        refine wpAnyH_take (i := 0) (v := .agg lj.toArray) rfl (by decide +kernel) (by decide +kernel) (by decide +kernel) (fun _ _ _ h => h) (yieldsIf_load_mid (by first | rfl | (go_simp; done)) 32 _ rfl q 0 (by go_simp) lj _ (fun X hX => range_of_block hX.1) Tryd.underlying32 rfl (by rw [HLJ.out]; kernel_rfl)) hSS ?_
        refine wpAnyH_take (i := 1) (v := .string ss) rfl (by decide +kernel) (by decide +kernel) (by decide +kernel) (fun _ _ _ h => h) (.inl ⟨by first | rfl | (go_simp; done), fun X hX => by have hx2 := hX.2; clear hX; first | (go_simp; done) | (go_simp; rfl)⟩) hSS ?_
        refine wpAnyH_take (i := 2) (v := .int .i64 (bs.length : Int)) rfl (by decide +kernel) (by decide +kernel) (by decide +kernel) (fun _ _ _ h => h) (.inl ⟨by first | rfl | (go_simp; done), fun X hX => by have hx2 := hX.2; clear hX; first | (go_simp; done) | (go_simp; rfl)⟩) hSS ?_
        refine wpAnyH_take (i := 3) (v := .pointer (some ⟨w.heap.size + 1, 0, none⟩)) rfl (by decide +kernel) (by decide +kernel) (by decide +kernel) (fun _ _ _ h => h) (.inl ⟨by first | rfl | (go_simp; done), fun X hX => by have hx2 := hX.2; clear hX; first | (go_simp; done) | (go_simp; rfl)⟩) hSS ?_
        refine wpAnyH_take (i := 4) (v := .string sx) rfl (by decide +kernel) (by decide +kernel) (by decide +kernel) (fun _ _ _ h => h) (.inl ⟨by first | rfl | (go_simp; done), fun X hX => by have hx2 := hX.2; clear hX; first | (go_simp; done) | (go_simp; rfl)⟩) hSS ?_
        refine wpAnyH_take (i := 5) (v := .int .i64 (xs'.length : Int)) rfl (by decide +kernel) (by decide +kernel) (by decide +kernel) (fun _ _ _ h => h) (.inl ⟨by first | rfl | (go_simp; done), fun X hX => by have hx2 := hX.2; clear hX; first | (go_simp; done) | (go_simp; rfl)⟩) hSS ?_
        refine wpAnyH_take (i := 6) (v := .int .i64 ((bs.length : Int) - (xs'.length : Int))) rfl (by decide +kernel) (by decide +kernel) (by decide +kernel) (fun _ _ _ h => h) (.inl ⟨by first | rfl | (go_simp; done), fun X hX => by have hx2 := hX.2; clear hX; first | (go_simp; done) | (go_simp; rfl)⟩) hSS ?_
        have hw9 := wrote_all HSm.out.res (l := lj) (by rw [HLJ.out]; rfl)
        have hS9 : (Wn.setCells w.heap.size 0 lj).heap[q]? = some (.cells lj.toArray 32 (0, 0)) ∧ (Wn.setCells w.heap.size 0 lj).cell? ⟨w.heap.size + 1, 0, none⟩ = some (.string sx) := ⟨(hw9.rest _ (by omega)).trans hSS.1, by rw [← HSX.out]; exact cell_of_block (o := 0) ((hw9.rest _ (by omega)).trans HSm.out.cur) rfl⟩
        refine anyH_store (i := 7) (by decide +kernel) rfl (by first | rfl | (go_simp; done)) (exec_store_all 32 _ _ rfl w.heap.size lj (by go_simp) (by go_simp) HSm.out.res (by rw [HLJ.out]; rfl) (by rw [HLJ.out]; kernel_rfl) HJ1.out) hS9 ?_
        have HW9 := Lib.hid hw9.there
        have HB9 := Lib.hid (hw9.below HSm.out.bel (Nat.le_refl _))
        clear hw9 hSS
        generalize Wn.setCells w.heap.size 0 lj = w9 at *
        refine wpAnyH_take (i := 8) (v := .int .i64 ((bs.length : Int) - (xs'.length : Int))) rfl (by decide +kernel) (by decide +kernel) (by decide +kernel) (fun _ _ _ h => h) (.inl ⟨by first | rfl | (go_simp; done), fun X hX => by have hx2 := hX.2; clear hX; first | (go_simp; done) | (go_simp; rfl)⟩) hS9 ?_
        refine wpAnyH_take (i := 9) (v := .int .i64 0) rfl (by decide +kernel) (by decide +kernel) (by decide +kernel) (fun _ _ _ h => h) (.inl ⟨by first | rfl | (go_simp; done), fun X hX => by have hx2 := hX.2; clear hX; first | (go_simp; done) | (go_simp; rfl)⟩) hS9 ?_
        refine wpAnyH_done (by decide +kernel) ?_ _
        clear hS9
        go_wp2_with fail
        exact bodyPost_ret (results_all3 lj _ Tryd.results6 (by go_simp) HW9.out Tryd.underlying32 rfl (by rw [HLJ.out]; kernel_rfl)) rfl ⟨by rw [E.out.1, E.out.2.1, E.out.2.2, HCJ.out]; first | done | (go_simp; done) | kernel_rfl, HB9.out⟩
      · have E := Lib.hid (HNO.out (HRR.out false hr))
        rw [hr]
        go_upto_region 11 with fail
        refine wp_region_lit ?_
        refine wpList_yield (w' := W2) (v := .agg (jobC job0).toArray) rfl (by go_simp; rfl) ?_
        refine wpList_store_all rfl 32 _ _ rfl w.heap.size (T := 32) (jobC job0) (by go_simp) (by go_simp) HR2.out.res rfl (by kernel_rfl) rfl ?_
        intro w9 hw9
        have HW9 := Lib.hid hw9.there
        have HB9 := Lib.hid (hw9.below HR2.out.bel (Nat.le_refl _))
        clear hw9
        go_wp2_with fail
        exact bodyPost_ret (results_all3 (jobC job0) _ Tryd.results6 (by go_simp) HW9.out Tryd.underlying32 rfl (by kernel_rfl)) rfl ⟨by rw [E.out.1, E.out.2.1, E.out.2.2]; first | done | rfl, HB9.out⟩
end Go.Proofs.YtgeldpfojmkdbaaDoor
namespace Go.Proofs.YtgeldpfojmkdbaaDoor
set_option linter.unusedVariables false
open Go.ChangeShapes Go.WideShapes Go.ChangeAt Go.RowKit
attribute [local go_sem ↓] Go.wp_at_zero Go.wp_at_succ comesTo_value_eq comesTo_skip_eq comesTo_enter_eq Rl.comesToR_value_eq Rl.comesToR_skip_eq Rl.comesToR_enter_eq

set_option maxRecDepth 100000 in
set_option maxHeartbeats 4000000 in
theorem own15_any (j : JobV) (w : World) : Calls Tryd.prog 9 #[.agg (jobC j).toArray] w fun e w' => e = .returned (.agg (jobC j).toArray) ∧ Below w.heap.size w w' := by
  have HLEN := Lib.hid (jobC_len j)
  have HONE := Lib.hid (jobC_one j)
  have HLE := Lib.hid (show (.agg (jobC j).toArray : Value) = .agg #[.int .i64 j.id, .int .i64 j.user, .int .i64 j.part, .int .i64 j.width, .int .i64 j.limit, .int .i64 j.nice, .int .i64 j.after, .bool j.hold, .int .i64 j.state, .int .i64 j.sent, .int .i64 j.plan, .int .i64 j.promise, .int .i64 j.tries, .int .u64 (nv j.black), .int .u64 (nv j.nodes), .int .i64 j.start, .int .i64 j.fin] from rfl)
  have k0 : (jobC j).toArray[0]? = some (.int .i64 j.id) := rfl
  have k1 : (jobC j).toArray[1]? = some (.int .i64 j.user) := rfl
  have k2 : (jobC j).toArray[2]? = some (.int .i64 j.part) := rfl
  have k3 : (jobC j).toArray[3]? = some (.int .i64 j.width) := rfl
  have k4 : (jobC j).toArray[4]? = some (.int .i64 j.limit) := rfl
  have k5 : (jobC j).toArray[5]? = some (.int .i64 j.nice) := rfl
  have k6 : (jobC j).toArray[6]? = some (.int .i64 j.after) := rfl
  have k7 : (jobC j).toArray[7]? = some (.bool j.hold) := rfl
  have k8 : (jobC j).toArray[8]? = some (.int .i64 j.state) := rfl
  have k9 : (jobC j).toArray[9]? = some (.int .i64 j.sent) := rfl
  have k10 : (jobC j).toArray[10]? = some (.int .i64 j.plan) := rfl
  have k11 : (jobC j).toArray[11]? = some (.int .i64 j.promise) := rfl
  have k12 : (jobC j).toArray[12]? = some (.int .i64 j.tries) := rfl
  have k13 : (jobC j).toArray[13]? = some (.int .u64 (nv j.black)) := rfl
  have k14 : (jobC j).toArray[14]? = some (.int .u64 (nv j.nodes)) := rfl
  have k15 : (jobC j).toArray[15]? = some (.int .i64 j.start) := rfl
  have k16 : (jobC j).toArray[16]? = some (.int .i64 j.fin) := rfl
  generalize hl : jobC j = l at *
  clear hl
  go_enter Tryd.func9, Tryd.ntmps9
  go_upto_region 1 with fail
  have hA := below_alloc (Below.refl _ w) (.cells l.toArray 26)
  have hB := below_alloc (Below.refl _ (w.alloc (.cells l.toArray 26))) (.cells #[.int .i64 0, .int .i64 0, .int .i64 0, .int .i64 0, .int .i64 0, .int .i64 0, .int .i64 0, .bool false, .int .i64 0, .int .i64 0, .int .i64 0, .int .i64 0, .int .i64 0, .int .u64 0, .int .u64 0, .int .i64 0, .int .i64 0] 32)
  have hC := (hB.block w.heap.size (by simp)).trans (World.alloc_heap_new w (.cells l.toArray 26))
  have hN := World.alloc_heap_new (w.alloc (.cells l.toArray 26)) (.cells #[.int .i64 0, .int .i64 0, .int .i64 0, .int .i64 0, .int .i64 0, .int .i64 0, .int .i64 0, .bool false, .int .i64 0, .int .i64 0, .int .i64 0, .int .i64 0, .int .i64 0, .int .u64 0, .int .u64 0, .int .i64 0, .int .i64 0] 32)
  rw [show (w.alloc (.cells l.toArray 26)).heap.size = w.heap.size + 1 by simp] at hN
  have HB := Lib.hid (below_next hA hB)
  have HN := Lib.hid hN
  clear hA hB hN
  generalize (w.alloc (.cells l.toArray 26)).alloc (.cells #[.int .i64 0, .int .i64 0, .int .i64 0, .int .i64 0, .int .i64 0, .int .i64 0, .int .i64 0, .bool false, .int .i64 0, .int .i64 0, .int .i64 0, .int .i64 0, .int .i64 0, .int .u64 0, .int .u64 0, .int .i64 0, .int .i64 0] 32) = U at *
  have c0 := cell_of_block (o := 0) hC k0
  have c1 := cell_of_block (o := 1) hC k1
  have c2 := cell_of_block (o := 2) hC k2
  have c3 := cell_of_block (o := 3) hC k3
  have c4 := cell_of_block (o := 4) hC k4
  have c5 := cell_of_block (o := 5) hC k5
  have c6 := cell_of_block (o := 6) hC k6
  have c7 := cell_of_block (o := 7) hC k7
  have c8 := cell_of_block (o := 8) hC k8
  have c9 := cell_of_block (o := 9) hC k9
  have c10 := cell_of_block (o := 10) hC k10
  have c11 := cell_of_block (o := 11) hC k11
  have c12 := cell_of_block (o := 12) hC k12
  have c13 := cell_of_block (o := 13) hC k13
  have c14 := cell_of_block (o := 14) hC k14
  have c15 := cell_of_block (o := 15) hC k15
  have c16 := cell_of_block (o := 16) hC k16
  clear hC k0 k1 k2 k3 k4 k5 k6 k7 k8 k9 k10 k11 k12 k13 k14 k15 k16
  refine wp_region_lit ?_
  refine wpList_yield (w' := U) (v := .pointer (some ⟨w.heap.size, 0, none⟩)) rfl (by first | (go_simp; done) | (go_simp; rfl)) ?_
  refine wpList_yield (w' := U) (v := .int .i64 j.id) rfl (by first | (go_simp; done) | (go_simp; rfl)) ?_
  refine wpList_yield (w' := U) (v := .pointer (some ⟨w.heap.size, 1, none⟩)) rfl (by first | (go_simp; done) | (go_simp; rfl)) ?_
  refine wpList_yield (w' := U) (v := .int .i64 j.user) rfl (by first | (go_simp; done) | (go_simp; rfl)) ?_
  refine wpList_yield (w' := U) (v := .pointer (some ⟨w.heap.size, 2, none⟩)) rfl (by first | (go_simp; done) | (go_simp; rfl)) ?_
  refine wpList_yield (w' := U) (v := .int .i64 j.part) rfl (by first | (go_simp; done) | (go_simp; rfl)) ?_
  refine wpList_yield (w' := U) (v := .pointer (some ⟨w.heap.size, 3, none⟩)) rfl (by first | (go_simp; done) | (go_simp; rfl)) ?_
  refine wpList_yield (w' := U) (v := .int .i64 j.width) rfl (by first | (go_simp; done) | (go_simp; rfl)) ?_
  refine wpList_yield (w' := U) (v := .pointer (some ⟨w.heap.size, 4, none⟩)) rfl (by first | (go_simp; done) | (go_simp; rfl)) ?_
  refine wpList_yield (w' := U) (v := .int .i64 j.limit) rfl (by first | (go_simp; done) | (go_simp; rfl)) ?_
  refine wpList_yield (w' := U) (v := .pointer (some ⟨w.heap.size, 5, none⟩)) rfl (by first | (go_simp; done) | (go_simp; rfl)) ?_
  refine wpList_yield (w' := U) (v := .int .i64 j.nice) rfl (by first | (go_simp; done) | (go_simp; rfl)) ?_
  refine wpList_yield (w' := U) (v := .pointer (some ⟨w.heap.size, 6, none⟩)) rfl (by first | (go_simp; done) | (go_simp; rfl)) ?_
  refine wpList_yield (w' := U) (v := .int .i64 j.after) rfl (by first | (go_simp; done) | (go_simp; rfl)) ?_
  refine wpList_yield (w' := U) (v := .pointer (some ⟨w.heap.size, 7, none⟩)) rfl (by first | (go_simp; done) | (go_simp; rfl)) ?_
  refine wpList_yield (w' := U) (v := .bool j.hold) rfl (by first | (go_simp; done) | (go_simp; rfl)) ?_
  refine wpList_yield (w' := U) (v := .pointer (some ⟨w.heap.size, 8, none⟩)) rfl (by first | (go_simp; done) | (go_simp; rfl)) ?_
  refine wpList_yield (w' := U) (v := .int .i64 j.state) rfl (by first | (go_simp; done) | (go_simp; rfl)) ?_
  refine wpList_yield (w' := U) (v := .pointer (some ⟨w.heap.size, 9, none⟩)) rfl (by first | (go_simp; done) | (go_simp; rfl)) ?_
  refine wpList_yield (w' := U) (v := .int .i64 j.sent) rfl (by first | (go_simp; done) | (go_simp; rfl)) ?_
  refine wpList_yield (w' := U) (v := .pointer (some ⟨w.heap.size, 10, none⟩)) rfl (by first | (go_simp; done) | (go_simp; rfl)) ?_
  refine wpList_yield (w' := U) (v := .int .i64 j.plan) rfl (by first | (go_simp; done) | (go_simp; rfl)) ?_
  refine wpList_yield (w' := U) (v := .pointer (some ⟨w.heap.size, 11, none⟩)) rfl (by first | (go_simp; done) | (go_simp; rfl)) ?_
  refine wpList_yield (w' := U) (v := .int .i64 j.promise) rfl (by first | (go_simp; done) | (go_simp; rfl)) ?_
  refine wpList_yield (w' := U) (v := .pointer (some ⟨w.heap.size, 12, none⟩)) rfl (by first | (go_simp; done) | (go_simp; rfl)) ?_
  refine wpList_yield (w' := U) (v := .int .i64 j.tries) rfl (by first | (go_simp; done) | (go_simp; rfl)) ?_
  refine wpList_yield (w' := U) (v := .pointer (some ⟨w.heap.size, 13, none⟩)) rfl (by first | (go_simp; done) | (go_simp; rfl)) ?_
  refine wpList_yield (w' := U) (v := .int .u64 (nv j.black)) rfl (by first | (go_simp; done) | (go_simp; rfl)) ?_
  refine wpList_yield (w' := U) (v := .pointer (some ⟨w.heap.size, 14, none⟩)) rfl (by first | (go_simp; done) | (go_simp; rfl)) ?_
  refine wpList_yield (w' := U) (v := .int .u64 (nv j.nodes)) rfl (by first | (go_simp; done) | (go_simp; rfl)) ?_
  refine wpList_yield (w' := U) (v := .pointer (some ⟨w.heap.size, 15, none⟩)) rfl (by first | (go_simp; done) | (go_simp; rfl)) ?_
  refine wpList_yield (w' := U) (v := .int .i64 j.start) rfl (by first | (go_simp; done) | (go_simp; rfl)) ?_
  refine wpList_yield (w' := U) (v := .pointer (some ⟨w.heap.size, 16, none⟩)) rfl (by first | (go_simp; done) | (go_simp; rfl)) ?_
  refine wpList_yield (w' := U) (v := .int .i64 j.fin) rfl (by first | (go_simp; done) | (go_simp; rfl)) ?_
  refine wpList_yield (w' := U) (v := .agg l.toArray) rfl (by rw [HLE.out]; first | (go_simp; done) | (go_simp; rfl)) ?_
  refine wpList_store_all rfl 32 _ _ rfl (w.heap.size + 1) (T := 32) l (by go_simp) (by go_simp) HN.out (by rw [HLEN.out]; rfl) (by rw [HLEN.out]; kernel_rfl) HONE.out ?_
  intro w9 hw9
  have HW9 := Lib.hid hw9.there
  have HB9 := Lib.hid (hw9.below HB.out (by omega))
  clear hw9
  go_wp2_with fail
  exact bodyPost_ret (results_all l _ Tryd.results9 (by go_simp) HW9.out Tryd.underlying32 rfl (by rw [HLEN.out]; kernel_rfl)) rfl ⟨rfl, HB9.out⟩
set_option maxRecDepth 100000 in
set_option maxHeartbeats 4000000 in
theorem rfields_any (j : JobV) (w : World) : Calls Tryd.prog 28 #[.agg (jobC j).toArray] w fun e w' => ∃ B, e = .returned (.slice (some ⟨B, 0, none⟩) 17 17) ∧ w.heap.size ≤ B ∧ w'.heap[B]? = some (.cells ((jobN j).map (Value.int .i64)).toArray 2 (0, 0)) ∧ Below w.heap.size w w' := by
  have HJN := Lib.hid (show ((jobN j).map (Value.int .i64)).toArray = #[.int .i64 j.id, .int .i64 j.user, .int .i64 j.part, .int .i64 j.width, .int .i64 j.limit, .int .i64 j.nice, .int .i64 j.after, .int .i64 (holdN j.hold), .int .i64 j.state, .int .i64 j.sent, .int .i64 j.plan, .int .i64 j.promise, .int .i64 j.tries, .int .i64 (wrap64 (nv j.black)), .int .i64 (wrap64 (nv j.nodes)), .int .i64 j.start, .int .i64 j.fin] from rfl)
  have HW1 := Lib.hid (fun (x : NSet) => show IntKind.i64.wrap (nv x) = wrap64 (nv x) by rw [IntKind.wrap_i64]; unfold wrap64; omega)
  have k0 : (jobC j).toArray[0]? = some (.int .i64 j.id) := rfl
  have k1 : (jobC j).toArray[1]? = some (.int .i64 j.user) := rfl
  have k2 : (jobC j).toArray[2]? = some (.int .i64 j.part) := rfl
  have k3 : (jobC j).toArray[3]? = some (.int .i64 j.width) := rfl
  have k4 : (jobC j).toArray[4]? = some (.int .i64 j.limit) := rfl
  have k5 : (jobC j).toArray[5]? = some (.int .i64 j.nice) := rfl
  have k6 : (jobC j).toArray[6]? = some (.int .i64 j.after) := rfl
  have k7 : (jobC j).toArray[7]? = some (.bool j.hold) := rfl
  have k8 : (jobC j).toArray[8]? = some (.int .i64 j.state) := rfl
  have k9 : (jobC j).toArray[9]? = some (.int .i64 j.sent) := rfl
  have k10 : (jobC j).toArray[10]? = some (.int .i64 j.plan) := rfl
  have k11 : (jobC j).toArray[11]? = some (.int .i64 j.promise) := rfl
  have k12 : (jobC j).toArray[12]? = some (.int .i64 j.tries) := rfl
  have k13 : (jobC j).toArray[13]? = some (.int .u64 (nv j.black)) := rfl
  have k14 : (jobC j).toArray[14]? = some (.int .u64 (nv j.nodes)) := rfl
  have k15 : (jobC j).toArray[15]? = some (.int .i64 j.start) := rfl
  have k16 : (jobC j).toArray[16]? = some (.int .i64 j.fin) := rfl
  generalize hl : jobC j = l at *
  clear hl
  have hC := World.alloc_heap_new w (.cells l.toArray 32)
  have HB := Lib.hid (below_alloc (Below.refl _ w) (.cells l.toArray 32))
  have HS := Lib.hid (show (w.alloc (.cells l.toArray 32)).heap.size = w.heap.size + 1 by simp)
  go_enter Tryd.func28, Tryd.ntmps28
  go_upto_region 1 with fail
  generalize w.alloc (.cells l.toArray 32) = U at *
  have c0 := cell_of_block (o := 0) hC k0
  have c1 := cell_of_block (o := 1) hC k1
  have c2 := cell_of_block (o := 2) hC k2
  have c3 := cell_of_block (o := 3) hC k3
  have c4 := cell_of_block (o := 4) hC k4
  have c5 := cell_of_block (o := 5) hC k5
  have c6 := cell_of_block (o := 6) hC k6
  have c7 := cell_of_block (o := 7) hC k7
  have c8 := cell_of_block (o := 8) hC k8
  have c9 := cell_of_block (o := 9) hC k9
  have c10 := cell_of_block (o := 10) hC k10
  have c11 := cell_of_block (o := 11) hC k11
  have c12 := cell_of_block (o := 12) hC k12
  have c13 := cell_of_block (o := 13) hC k13
  have c14 := cell_of_block (o := 14) hC k14
  have c15 := cell_of_block (o := 15) hC k15
  have c16 := cell_of_block (o := 16) hC k16
  clear hC k0 k1 k2 k3 k4 k5 k6 k7 k8 k9 k10 k11 k12 k13 k14 k15 k16
  obtain ⟨ns, hns⟩ : ∃ ns, ns = (jobN j).map (Value.int .i64) := ⟨_, rfl⟩
  rw [← hns] at HJN
  have HNS := Lib.hid hns
  clear hns
  cases hh : j.hold with
  | true =>
    rw [hh] at c7 HJN
    go_upto_region 4 with fail
    refine wp_region_lit ?_
    refine wpList_yield (w' := U) (v := .pointer (some ⟨w.heap.size, 0, none⟩)) rfl (by first | (go_simp; done) | (go_simp; rfl)) ?_
    refine wpList_yield (w' := U) (v := .int .i64 j.id) rfl (by first | (go_simp; done) | (go_simp; rfl)) ?_
    refine wpList_yield (w' := U) (v := .pointer (some ⟨w.heap.size, 1, none⟩)) rfl (by first | (go_simp; done) | (go_simp; rfl)) ?_
    refine wpList_yield (w' := U) (v := .int .i64 j.user) rfl (by first | (go_simp; done) | (go_simp; rfl)) ?_
    refine wpList_yield (w' := U) (v := .pointer (some ⟨w.heap.size, 2, none⟩)) rfl (by first | (go_simp; done) | (go_simp; rfl)) ?_
    refine wpList_yield (w' := U) (v := .int .i64 j.part) rfl (by first | (go_simp; done) | (go_simp; rfl)) ?_
    refine wpList_yield (w' := U) (v := .pointer (some ⟨w.heap.size, 3, none⟩)) rfl (by first | (go_simp; done) | (go_simp; rfl)) ?_
    refine wpList_yield (w' := U) (v := .int .i64 j.width) rfl (by first | (go_simp; done) | (go_simp; rfl)) ?_
    refine wpList_yield (w' := U) (v := .pointer (some ⟨w.heap.size, 4, none⟩)) rfl (by first | (go_simp; done) | (go_simp; rfl)) ?_
    refine wpList_yield (w' := U) (v := .int .i64 j.limit) rfl (by first | (go_simp; done) | (go_simp; rfl)) ?_
    refine wpList_yield (w' := U) (v := .pointer (some ⟨w.heap.size, 5, none⟩)) rfl (by first | (go_simp; done) | (go_simp; rfl)) ?_
    refine wpList_yield (w' := U) (v := .int .i64 j.nice) rfl (by first | (go_simp; done) | (go_simp; rfl)) ?_
    refine wpList_yield (w' := U) (v := .pointer (some ⟨w.heap.size, 6, none⟩)) rfl (by first | (go_simp; done) | (go_simp; rfl)) ?_
    refine wpList_yield (w' := U) (v := .int .i64 j.after) rfl (by first | (go_simp; done) | (go_simp; rfl)) ?_
    refine wpList_yield (w' := U) (v := .int .i64 1) rfl (by first | (go_simp; done) | (go_simp; rfl)) ?_
    refine wpList_yield (w' := U) (v := .pointer (some ⟨w.heap.size, 8, none⟩)) rfl (by first | (go_simp; done) | (go_simp; rfl)) ?_
    refine wpList_yield (w' := U) (v := .int .i64 j.state) rfl (by first | (go_simp; done) | (go_simp; rfl)) ?_
    refine wpList_yield (w' := U) (v := .pointer (some ⟨w.heap.size, 9, none⟩)) rfl (by first | (go_simp; done) | (go_simp; rfl)) ?_
    refine wpList_yield (w' := U) (v := .int .i64 j.sent) rfl (by first | (go_simp; done) | (go_simp; rfl)) ?_
    refine wpList_yield (w' := U) (v := .pointer (some ⟨w.heap.size, 10, none⟩)) rfl (by first | (go_simp; done) | (go_simp; rfl)) ?_
    refine wpList_yield (w' := U) (v := .int .i64 j.plan) rfl (by first | (go_simp; done) | (go_simp; rfl)) ?_
    refine wpList_yield (w' := U) (v := .pointer (some ⟨w.heap.size, 11, none⟩)) rfl (by first | (go_simp; done) | (go_simp; rfl)) ?_
    refine wpList_yield (w' := U) (v := .int .i64 j.promise) rfl (by first | (go_simp; done) | (go_simp; rfl)) ?_
    refine wpList_yield (w' := U) (v := .pointer (some ⟨w.heap.size, 12, none⟩)) rfl (by first | (go_simp; done) | (go_simp; rfl)) ?_
    refine wpList_yield (w' := U) (v := .int .i64 j.tries) rfl (by first | (go_simp; done) | (go_simp; rfl)) ?_
    refine wpList_yield (w' := U) (v := .pointer (some ⟨w.heap.size, 13, none⟩)) rfl (by first | (go_simp; done) | (go_simp; rfl)) ?_
    refine wpList_yield (w' := U) (v := .int .u64 (nv j.black)) rfl (by first | (go_simp; done) | (go_simp; rfl)) ?_
    refine wpList_yield (w' := U) (v := .int .i64 (wrap64 (nv j.black))) rfl (by rw [← HW1.out j.black]; first | (go_simp; done) | (go_simp; rfl)) ?_
    refine wpList_yield (w' := U) (v := .pointer (some ⟨w.heap.size, 14, none⟩)) rfl (by first | (go_simp; done) | (go_simp; rfl)) ?_
    refine wpList_yield (w' := U) (v := .int .u64 (nv j.nodes)) rfl (by first | (go_simp; done) | (go_simp; rfl)) ?_
    refine wpList_yield (w' := U) (v := .int .i64 (wrap64 (nv j.nodes))) rfl (by rw [← HW1.out j.nodes]; first | (go_simp; done) | (go_simp; rfl)) ?_
    refine wpList_yield (w' := U) (v := .pointer (some ⟨w.heap.size, 15, none⟩)) rfl (by first | (go_simp; done) | (go_simp; rfl)) ?_
    refine wpList_yield (w' := U) (v := .int .i64 j.start) rfl (by first | (go_simp; done) | (go_simp; rfl)) ?_
    refine wpList_yield (w' := U) (v := .pointer (some ⟨w.heap.size, 16, none⟩)) rfl (by first | (go_simp; done) | (go_simp; rfl)) ?_
    refine wpList_yield (w' := U) (v := .int .i64 j.fin) rfl (by first | (go_simp; done) | (go_simp; rfl)) ?_
    refine wpList_yield (w' := U.alloc (.cells ns.toArray 2)) (v := .slice (some ⟨w.heap.size + 1, 0, none⟩) 17 17) rfl (by rw [HJN.out, ← HS.out]; first | (go_simp; done) | (go_simp; rfl)) ?_
    have HN := Lib.hid (World.alloc_heap_new U (.cells ns.toArray 2))
    have HB9 := Lib.hid (below_next HB.out (below_alloc (Below.refl _ U) (.cells ns.toArray 2)))
    generalize U.alloc (.cells ns.toArray 2) = U9 at *
    go_wp2_with fail
    go_ret
    exact ⟨_, rfl, by omega, by rw [← HS.out, ← HNS.out]; exact HN.out, HB9.out⟩
  | false =>
    rw [hh] at c7 HJN
    go_upto_region 4 with fail
    refine wp_region_lit ?_
    refine wpList_yield (w' := U) (v := .pointer (some ⟨w.heap.size, 0, none⟩)) rfl (by first | (go_simp; done) | (go_simp; rfl)) ?_
    refine wpList_yield (w' := U) (v := .int .i64 j.id) rfl (by first | (go_simp; done) | (go_simp; rfl)) ?_
    refine wpList_yield (w' := U) (v := .pointer (some ⟨w.heap.size, 1, none⟩)) rfl (by first | (go_simp; done) | (go_simp; rfl)) ?_
    refine wpList_yield (w' := U) (v := .int .i64 j.user) rfl (by first | (go_simp; done) | (go_simp; rfl)) ?_
    refine wpList_yield (w' := U) (v := .pointer (some ⟨w.heap.size, 2, none⟩)) rfl (by first | (go_simp; done) | (go_simp; rfl)) ?_
    refine wpList_yield (w' := U) (v := .int .i64 j.part) rfl (by first | (go_simp; done) | (go_simp; rfl)) ?_
    refine wpList_yield (w' := U) (v := .pointer (some ⟨w.heap.size, 3, none⟩)) rfl (by first | (go_simp; done) | (go_simp; rfl)) ?_
    refine wpList_yield (w' := U) (v := .int .i64 j.width) rfl (by first | (go_simp; done) | (go_simp; rfl)) ?_
    refine wpList_yield (w' := U) (v := .pointer (some ⟨w.heap.size, 4, none⟩)) rfl (by first | (go_simp; done) | (go_simp; rfl)) ?_
    refine wpList_yield (w' := U) (v := .int .i64 j.limit) rfl (by first | (go_simp; done) | (go_simp; rfl)) ?_
    refine wpList_yield (w' := U) (v := .pointer (some ⟨w.heap.size, 5, none⟩)) rfl (by first | (go_simp; done) | (go_simp; rfl)) ?_
    refine wpList_yield (w' := U) (v := .int .i64 j.nice) rfl (by first | (go_simp; done) | (go_simp; rfl)) ?_
    refine wpList_yield (w' := U) (v := .pointer (some ⟨w.heap.size, 6, none⟩)) rfl (by first | (go_simp; done) | (go_simp; rfl)) ?_
    refine wpList_yield (w' := U) (v := .int .i64 j.after) rfl (by first | (go_simp; done) | (go_simp; rfl)) ?_
    refine wpList_yield (w' := U) (v := .int .i64 0) rfl (by first | (go_simp; done) | (go_simp; rfl)) ?_
    refine wpList_yield (w' := U) (v := .pointer (some ⟨w.heap.size, 8, none⟩)) rfl (by first | (go_simp; done) | (go_simp; rfl)) ?_
    refine wpList_yield (w' := U) (v := .int .i64 j.state) rfl (by first | (go_simp; done) | (go_simp; rfl)) ?_
    refine wpList_yield (w' := U) (v := .pointer (some ⟨w.heap.size, 9, none⟩)) rfl (by first | (go_simp; done) | (go_simp; rfl)) ?_
    refine wpList_yield (w' := U) (v := .int .i64 j.sent) rfl (by first | (go_simp; done) | (go_simp; rfl)) ?_
    refine wpList_yield (w' := U) (v := .pointer (some ⟨w.heap.size, 10, none⟩)) rfl (by first | (go_simp; done) | (go_simp; rfl)) ?_
    refine wpList_yield (w' := U) (v := .int .i64 j.plan) rfl (by first | (go_simp; done) | (go_simp; rfl)) ?_
    refine wpList_yield (w' := U) (v := .pointer (some ⟨w.heap.size, 11, none⟩)) rfl (by first | (go_simp; done) | (go_simp; rfl)) ?_
    refine wpList_yield (w' := U) (v := .int .i64 j.promise) rfl (by first | (go_simp; done) | (go_simp; rfl)) ?_
    refine wpList_yield (w' := U) (v := .pointer (some ⟨w.heap.size, 12, none⟩)) rfl (by first | (go_simp; done) | (go_simp; rfl)) ?_
    refine wpList_yield (w' := U) (v := .int .i64 j.tries) rfl (by first | (go_simp; done) | (go_simp; rfl)) ?_
    refine wpList_yield (w' := U) (v := .pointer (some ⟨w.heap.size, 13, none⟩)) rfl (by first | (go_simp; done) | (go_simp; rfl)) ?_
    refine wpList_yield (w' := U) (v := .int .u64 (nv j.black)) rfl (by first | (go_simp; done) | (go_simp; rfl)) ?_
    refine wpList_yield (w' := U) (v := .int .i64 (wrap64 (nv j.black))) rfl (by rw [← HW1.out j.black]; first | (go_simp; done) | (go_simp; rfl)) ?_
    refine wpList_yield (w' := U) (v := .pointer (some ⟨w.heap.size, 14, none⟩)) rfl (by first | (go_simp; done) | (go_simp; rfl)) ?_
    refine wpList_yield (w' := U) (v := .int .u64 (nv j.nodes)) rfl (by first | (go_simp; done) | (go_simp; rfl)) ?_
    refine wpList_yield (w' := U) (v := .int .i64 (wrap64 (nv j.nodes))) rfl (by rw [← HW1.out j.nodes]; first | (go_simp; done) | (go_simp; rfl)) ?_
    refine wpList_yield (w' := U) (v := .pointer (some ⟨w.heap.size, 15, none⟩)) rfl (by first | (go_simp; done) | (go_simp; rfl)) ?_
    refine wpList_yield (w' := U) (v := .int .i64 j.start) rfl (by first | (go_simp; done) | (go_simp; rfl)) ?_
    refine wpList_yield (w' := U) (v := .pointer (some ⟨w.heap.size, 16, none⟩)) rfl (by first | (go_simp; done) | (go_simp; rfl)) ?_
    refine wpList_yield (w' := U) (v := .int .i64 j.fin) rfl (by first | (go_simp; done) | (go_simp; rfl)) ?_
    refine wpList_yield (w' := U.alloc (.cells ns.toArray 2)) (v := .slice (some ⟨w.heap.size + 1, 0, none⟩) 17 17) rfl (by rw [HJN.out, ← HS.out]; first | (go_simp; done) | (go_simp; rfl)) ?_
    have HN := Lib.hid (World.alloc_heap_new U (.cells ns.toArray 2))
    have HB9 := Lib.hid (below_next HB.out (below_alloc (Below.refl _ U) (.cells ns.toArray 2)))
    generalize U.alloc (.cells ns.toArray 2) = U9 at *
    go_wp2_with fail
    go_ret
    exact ⟨_, rfl, by omega, by rw [← HS.out, ← HNS.out]; exact HN.out, HB9.out⟩
set_option maxRecDepth 100000 in
set_option maxHeartbeats 4000000 in
theorem rput15_any (j : JobV) (hj : j.Ok) (xs : List Int) (hl : xs.length ≤ 1099511627775 - 200) (w : World) : Calls Tryd.prog 8 #[.string (strOfNums xs), .agg (jobC j).toArray] w fun e w' => e = .returned (.string (strOfNums (xs ++ putJ j))) ∧ Below w.heap.size w w' := by
  have HLEN := Lib.hid (jobC_len j)
  have HL := Lib.hid hl
  have HIN := Lib.hid (jobN_in hj)
  have HPJ := Lib.hid (show putJ j = (jobN j).flatMap putI from rfl)
  have KF := Lib.hid (fun W => rfields_any j W)
  have HTL := Lib.hid (show (jobN j).length = 17 from rfl)
  generalize jobN j = ts at *
  generalize jobC j = l at *
  clear hl
  have HB0 := Lib.hid (below_alloc (Below.refl _ w) (.cells l.toArray 32))
  have HC := Lib.hid (World.alloc_heap_new w (.cells l.toArray 32))
  go_enter Tryd.func8, Tryd.ntmps8
  go_upto_region 1 with fail
  generalize w.alloc (.cells l.toArray 32) = U at *
  refine wp_region_lit ?_
  refine wpList_load_all rfl 32 _ rfl w.heap.size l _ (by go_simp) HC.out Tryd.underlying32 rfl (by rw [HLEN.out]; kernel_rfl) ?_
  refine wpList_enter rfl (by go_simp) (KF.out _) ?_
  rintro e w1 ⟨B, rfl, hB, hT, hb⟩
  refine ⟨_, rfl, ?_⟩
  have HB1 := Lib.hid (below_next HB0.out hb)
  have HT1 := Lib.hid hT
  clear hB hT hb KF HB0 HC
  go_wp2_with fail
  go_loopw [0, 6] (fun b i wr => ∃ k : Nat, k ≤ 17 ∧ b = .string (strOfNums (xs ++ (ts.take k).flatMap putI)) ∧ i = .int .i64 k ∧ Below w1.heap.size w1 wr) (fun _ i _ => 17 - (intOf i).toNat)
  case atStart => exact ⟨0, Nat.zero_le _, by simp, rfl, Below.refl _ _⟩
  case round =>
    obtain ⟨k, hk, rfl, rfl, hb⟩ := hrel
    have HB2 := Lib.hid hb
    clear hb
    by_cases hlt : k < 17
    · have hd : decide ((k : Int) < 17) = true := decide_eq_true (by omega)
      have hkl : k < ts.length := by rw [HTL.out]; exact hlt
      have htk : ts.take (k + 1) = ts.take k ++ [ts.getD k 0] := by
        rw [List.take_add_one]; simp [List.getD, hkl]
      have hmem : ts.getD k 0 ∈ ts := by simp [List.getD, hkl]
      have hcell : wr.cell? ⟨B, k, none⟩ = some (.int .i64 (ts.getD k 0)) := cell_of_block ((HB2.out.block _ (Array.getElem?_eq_some_iff.1 HT1.out).1).trans HT1.out) (by simp [List.getD, hkl])
      have hlen : (xs ++ (ts.take k).flatMap putI).length ≤ 1099511627776 := by
        have := flat_le (ts.take k) (fun x hx => HIN.out x (List.mem_of_mem_take hx))
        have h2 : (ts.take k).length ≤ 17 := by simp; omega
        have h3 := HL.out
        rw [List.length_append]
        omega
      have KP := Lib.hid (rputint_any (xs ++ (ts.take k).flatMap putI) hlen (HIN.out _ hmem) wr)
      have HTK := Lib.hid (show (xs ++ (ts.take k).flatMap putI) ++ putI (ts.getD k 0) = xs ++ (ts.take (k + 1)).flatMap putI by rw [htk, List.flatMap_append]; simp)
      rw [HTK.out] at KP
      clear htk hlen hkl hmem
      generalize ts.getD k 0 = x at *
      generalize xs ++ (ts.take k).flatMap putI = ys at *
      generalize hz : xs ++ (ts.take (k + 1)).flatMap putI = zs at *
      clear HTK
      go_wp2_with fail
      ((with_reducible refine KP.out.mono ?_))
      rintro e w4 ⟨rfl, hb4⟩
      have HB4 := Lib.hid (below_next HB2.out hb4)
      clear hb4
      go_wp2_with fail
      go_roundw
      case rel => exact ⟨k + 1, by omega, by rw [hz], by go_num, HB4.out⟩
      case measure => simp [intOf]; omega
    · have hd : decide ((k : Int) < 17) = false := decide_eq_false (by omega)
      have HE := Lib.hid (show (ts.take k).flatMap putI = putJ j by rw [List.take_of_length_le (by rw [HTL.out]; omega), HPJ.out])
      have HB3 := Lib.hid (below_next HB1.out HB2.out)
      rw [HE.out]
      clear HB2 HB1 HIN HE
      go_wp2
      go_ret
      exact ⟨rfl, HB3.out⟩
end Go.Proofs.YtgeldpfojmkdbaaDoor
namespace Go.Proofs.YtgeldpfojmkdbaaDoor
set_option linter.unusedVariables false
open Go.ChangeShapes Go.WideShapes Go.ChangeAt Go.RowKit
attribute [local go_sem ↓] Go.wp_at_zero Go.wp_at_succ comesTo_value_eq comesTo_skip_eq comesTo_enter_eq Rl.comesToR_value_eq Rl.comesToR_skip_eq Rl.comesToR_enter_eq

theorem fieldsJR : (Tryd.prog.fieldsOf 32).toList.map (fun f => (f.name != "_", f.offset)) = (List.range 17).map fun i => (true, i) := by kernel_rfl
theorem ftJR : (Tryd.prog.fieldsOf 32).toList.all (fun f => if f.offset = 7 then (match Tryd.prog.underlying f.type with | some .bool => true | _ => false) else (match Tryd.prog.underlying f.type with | some (.int _) => true | _ => false)) = true := by kernel_rfl
theorem eqinJR (a b : JobV) (w : World) : (Op.equalIn 10000 32 (.agg (jobC a).toArray) (.agg (jobC b).toArray)).run Tryd.prog w = .ok (keyJ a == keyJ b) w := by
  have hS : Tryd.prog.underlying 32 = some (.struct (Tryd.prog.fieldsOf 32)) := by kernel_rfl
  have hp : Tryd.prog.stoodInHeld 32 = false := by kernel_rfl
  refine (run_equalIn_struct w 9999 _ _ _ hS hp).trans ?_
  have hall : (Tryd.prog.fieldsOf 32).toList.all (fun f => (keyJ a).getD f.offset 0 == (keyJ b).getD f.offset 0) = (keyJ a == keyJ b) := by
    rw [← all_range_ints (keyJ a) (keyJ b) rfl, show (keyJ a).length = 17 from rfl]
    have h1 : (Tryd.prog.fieldsOf 32).toList.map (fun f => f.offset) = List.range 17 := by
      have := congrArg (List.map Prod.snd) fieldsJR
      rw [List.map_map, List.map_map] at this
      exact this.trans rfl
    rw [← h1, List.all_map]
    rfl
  rw [run_eqFields_all w (fun f => (keyJ a).getD f.offset 0 == (keyJ b).getD f.offset 0), hall]
  · intro f hf
    have hm : (f.name != "_", f.offset) ∈ (List.range 17).map fun i => (true, i) := by
      rw [← fieldsJR]; exact List.mem_map.2 ⟨f, hf, rfl⟩
    obtain ⟨i, hi, he⟩ := List.mem_map.1 hm
    rw [List.mem_range] at hi
    injection he with he1 he2
    refine ⟨by simpa using he1.symm, ?_⟩
    have ht := List.all_eq_true.1 ftJR f hf
    by_cases h7 : f.offset = 7
    · rw [if_pos h7] at ht
      have hu : Tryd.prog.underlying f.type = some .bool := by
        revert ht
        cases Tryd.prog.underlying f.type with
        | none => intro h; cases h
        | some d => cases d <;> intro h <;> first | rfl | cases h
      refine ⟨.bool a.hold, .bool b.hold, ?_, ?_, ?_⟩
      · have := jobC_at7 a
        simp only [part, isAgg, Sem.run_bind, run_underlying hu, Result.andThen_ok, h7, this]
        simp
      · have := jobC_at7 b
        simp only [part, isAgg, Sem.run_bind, run_underlying hu, Result.andThen_ok, h7, this]
        simp
      · refine (run_equalIn_bool w 9998 _ _ _ hu).trans ?_
        rw [h7, show (a.hold == b.hold) = ((keyJ a).getD 7 0 == (keyJ b).getD 7 0) by
          show (a.hold == b.hold) = (holdN a.hold == holdN b.hold)
          cases a.hold <;> cases b.hold <;> decide]
    · rw [if_neg h7] at ht
      obtain ⟨k, hu⟩ : ∃ k, Tryd.prog.underlying f.type = some (.int k) := by
        revert ht
        cases Tryd.prog.underlying f.type with
        | none => intro h; cases h
        | some d => cases d <;> intro h <;> first | exact ⟨_, rfl⟩ | cases h
      have hlt : f.offset < 17 := by omega
      refine ⟨.int (kindJ f.offset) ((keyJ a).getD f.offset 0), .int (kindJ f.offset) ((keyJ b).getD f.offset 0), ?_, ?_, ?_⟩
      · have := jobC_at a hlt h7
        simp only [part, isAgg, Sem.run_bind, run_underlying hu, Result.andThen_ok, this]
        simp
      · have := jobC_at b hlt h7
        simp only [part, isAgg, Sem.run_bind, run_underlying hu, Result.andThen_ok, this]
        simp
      · exact run_equalIn_int w 9998 _ _ k _ _ hu
set_option maxRecDepth 100000 in
set_option maxHeartbeats 4000000 in
theorem jobreads_no (j : JobV) (ad : Option Addr) (n c : Nat) (hn : 1000 < n) (w : World) : Calls Tryd.prog 3 #[.agg (jobC j).toArray, .slice ad n c] w fun e w' => e = .returned (.bool true) ∧ Below w.heap.size w w' := by
  have hd : decide ((n : Int) > 1000) = true := decide_eq_true (by omega)
  generalize jobC j = l at *
  have HB := Lib.hid (below_alloc (Below.refl _ w) (.cells l.toArray 26))
  go_enter Tryd.func3, Tryd.ntmps3
  go_upto_region 1 with fail
  generalize w.alloc (.cells l.toArray 26) = U at *
  go_wp2_with fail
  go_ret
  exact ⟨rfl, HB.out⟩
set_option maxRecDepth 100000 in
set_option maxHeartbeats 16000000 in
theorem jobreads_yes (j : JobV) (hj : j.Ok) (ad : Option Addr) (n c : Nat) (bs : List Int) (hn : n ≤ 1000) (w : World) (ht : TxtAt w (.slice ad n c) bs) (hE : ErrAt w) : Calls Tryd.prog 3 #[.agg (jobC j).toArray, .slice ad n c] w fun e w' => e = .returned (.bool true) ∧ Below w.heap.size w w' := by
  have hmx : Tryd.prog.follows .mixedOrders = true := by kernel_rfl
  have hd0 : decide ((n : Int) > 1000) = false := decide_eq_false (by omega)
  have hnb : n = bs.length := ht.form.1
  have HCV := Lib.hid (fun W (hb : Below w.heap.size w W) => txt_conv ht W hb)
  have KP := Lib.hid (fun (W : World) (hb : Below w.heap.size w W) => put_any j hj (ht.below hb) (by omega))
  have KJ := Lib.hid (fun (W : World) (hb : Below w.heap.size w W) => jread_any (ht.below hb) (by omega) (hE.below hb))
  have hbb : ∀ x ∈ bs, 0 ≤ x ∧ x ≤ 255 := by
    intro x hx
    obtain ⟨i, hi, rfl⟩ := List.getElem_of_mem hx
    have h1 := ht.bytes.1 i hi
    have h2 := ht.bytes.2 i hi
    simp only [List.getD, List.getElem?_eq_getElem hi, Option.getD_some] at h1 h2
    omega
  have KR := Lib.hid (fun (W : World) => rread_any bs hbb (by omega) W)
  have KQ := Lib.hid (fun (W : World) => rput15_any j hj bs (by omega) W)
  have KO := Lib.hid (fun (W : World) => own15_any j W)
  have KG := Lib.hid (fun (W : World) => own15_any (gotJ bs) W)
  have K1 := Lib.hid (fun (W : World) => job_one W)
  have HLJ := Lib.hid (jobC_len j)
  have HLG := Lib.hid (jobC_len (gotJ bs))
  have HJ1 := Lib.hid (jobC_one j)
  have HG1 := Lib.hid (jobC_one (gotJ bs))
  have KEQ := Lib.hid (fun (W : World) => show (Op.equalIn 10000 32 (.agg (jobC (gotJ bs)).toArray) (.agg (jobC (gotJ bs)).toArray)).run Tryd.prog W = .ok true W from (eqinJR _ _ W).trans (by rw [(keyJ_eq _ _).2 rfl]))
  have HN0 := Lib.hid ht.form.1
  clear ht hE hn hj hnb hbb
  generalize hS : strOfNums bs = S at *
  clear hS
  generalize hS1 : strOfNums (bs ++ putJ j) = S1 at *
  have HS1 := Lib.hid hS1
  clear hS1
  generalize jobC j = lj at *
  generalize jobC (gotJ bs) = lg at *
  generalize cntJ bs = cnt at *
  generalize codeJ bs = code at *
  have HB0 := Lib.hid (below_alloc (Below.refl _ w) (.cells lj.toArray 26))
  have HC0 := Lib.hid (World.alloc_heap_new w (.cells lj.toArray 26))
  go_enter Tryd.func3, Tryd.ntmps3
  go_upto_region 1 with fail
  generalize w.alloc (.cells lj.toArray 26) = U at *
  go_upto_region 3 with fail
  refine wp_region_lit ?_
  refine wpList_yield (w' := U) (v := .slice ad n c) rfl (by first | (go_simp; done) | (go_simp; rfl)) ?_
  refine wpList_enter rfl (by go_simp) (KJ.out U HB0.out) ?_
  rintro e W1 ⟨rfl, hb1⟩
  refine ⟨_, rfl, ?_⟩
  have HC1 := Lib.hid ((hb1.block _ (Array.getElem?_eq_some_iff.1 HC0.out).1).trans HC0.out)
  have HB1 := Lib.hid (below_next HB0.out hb1)
  clear hb1 HB0 HC0
  refine wpList_yield (w' := W1) (v := .tuple #[.agg lg.toArray, .int .i64 cnt, .int .i64 code]) rfl (by first | (go_simp; done) | (go_simp; rfl)) ?_
  refine wpList_yield (w' := W1) (v := .agg lg.toArray) rfl (by first | (go_simp; done) | (go_simp; rfl)) ?_
  refine wpList_yield (w' := W1) (v := .int .i64 cnt) rfl (by first | (go_simp; done) | (go_simp; rfl)) ?_
  refine wpList_yield (w' := W1) (v := .int .i64 code) rfl (by first | (go_simp; done) | (go_simp; rfl)) ?_
  refine wpList_yield (w' := W1.alloc (.cells #[.int .i64 0, .int .i64 0, .int .i64 0, .int .i64 0, .int .i64 0, .int .i64 0, .int .i64 0, .bool false, .int .i64 0, .int .i64 0, .int .i64 0, .int .i64 0, .int .i64 0, .int .u64 0, .int .u64 0, .int .i64 0, .int .i64 0] 26)) (v := .pointer (some ⟨W1.heap.size, 0, none⟩)) rfl (by first | (go_simp; done) | (go_simp; rfl)) ?_
  have HBa := Lib.hid (below_next HB1.out (below_alloc (Below.refl _ W1) (.cells #[.int .i64 0, .int .i64 0, .int .i64 0, .int .i64 0, .int .i64 0, .int .i64 0, .int .i64 0, .bool false, .int .i64 0, .int .i64 0, .int .i64 0, .int .i64 0, .int .i64 0, .int .u64 0, .int .u64 0, .int .i64 0, .int .i64 0] 26)))
  have HCa := Lib.hid (((below_alloc (Below.refl _ W1) (.cells #[.int .i64 0, .int .i64 0, .int .i64 0, .int .i64 0, .int .i64 0, .int .i64 0, .int .i64 0, .bool false, .int .i64 0, .int .i64 0, .int .i64 0, .int .i64 0, .int .i64 0, .int .u64 0, .int .u64 0, .int .i64 0, .int .i64 0] 26)).block _ (Array.getElem?_eq_some_iff.1 HC1.out).1).trans HC1.out)
  have hN := World.alloc_heap_new W1 (.cells #[.int .i64 0, .int .i64 0, .int .i64 0, .int .i64 0, .int .i64 0, .int .i64 0, .int .i64 0, .bool false, .int .i64 0, .int .i64 0, .int .i64 0, .int .i64 0, .int .i64 0, .int .u64 0, .int .u64 0, .int .i64 0, .int .i64 0] 26)
  generalize W1.alloc (.cells #[.int .i64 0, .int .i64 0, .int .i64 0, .int .i64 0, .int .i64 0, .int .i64 0, .int .i64 0, .bool false, .int .i64 0, .int .i64 0, .int .i64 0, .int .i64 0, .int .i64 0, .int .u64 0, .int .u64 0, .int .i64 0, .int .i64 0] 26) = Wa at *
  obtain ⟨q, hq⟩ : ∃ q, q = W1.heap.size := ⟨_, rfl⟩
  have hqw : w.heap.size < q := by rw [hq]; exact (Array.getElem?_eq_some_iff.1 HC1.out).1
  rw [← hq] at hN ⊢
  clear hq HB1 HC1
  refine wpList_store_all rfl 26 _ _ rfl q (T := 26) lg (by go_simp) (by go_simp) hN (by rw [HLG.out]; rfl) (by rw [HLG.out]; kernel_rfl) HG1.out ?_
  intro W2 hw2
  have HQ2 := Lib.hid hw2.there
  have HC2 := Lib.hid ((hw2.rest _ (by omega)).trans HCa.out)
  have HB2 := Lib.hid (hw2.below HBa.out (by omega))
  clear hw2 hN HCa HBa
  go_upto_region 4 with fail
  refine wp_region_lit ?_
  have hcv := HCV.out W2 HB2.out
  refine wpList_yield (w' := W2) (v := .slice ad n c) rfl (by first | (go_simp; done) | (go_simp; rfl)) ?_
  refine wpList_yield (w' := W2) (v := .string S) rfl (by first | (go_simp; done) | (go_simp; rfl)) ?_
  refine wpList_enter rfl (by go_simp) (KR.out W2) ?_
  rintro e W3 ⟨rfl, hb3⟩
  refine ⟨_, rfl, ?_⟩
  clear hcv
  have HQ3 := Lib.hid ((hb3.block _ (Array.getElem?_eq_some_iff.1 HQ2.out).1).trans HQ2.out)
  have HC3 := Lib.hid ((hb3.block _ (Array.getElem?_eq_some_iff.1 HC2.out).1).trans HC2.out)
  have HB3 := Lib.hid (below_next HB2.out hb3)
  clear hb3 HB2 HQ2 HC2
  refine wpList_yield (w' := W3) (v := .tuple #[.agg lg.toArray, .int .i64 cnt, .int .i64 code]) rfl (by first | (go_simp; done) | (go_simp; rfl)) ?_
  refine wpList_yield (w' := W3) (v := .agg lg.toArray) rfl (by first | (go_simp; done) | (go_simp; rfl)) ?_
  refine wpList_yield (w' := W3) (v := .int .i64 cnt) rfl (by first | (go_simp; done) | (go_simp; rfl)) ?_
  refine wpList_yield (w' := W3) (v := .int .i64 code) rfl (by first | (go_simp; done) | (go_simp; rfl)) ?_
  refine wpList_yield (w' := W3.alloc (.cells #[.int .i64 0, .int .i64 0, .int .i64 0, .int .i64 0, .int .i64 0, .int .i64 0, .int .i64 0, .bool false, .int .i64 0, .int .i64 0, .int .i64 0, .int .i64 0, .int .i64 0, .int .u64 0, .int .u64 0, .int .i64 0, .int .i64 0] 32)) (v := .pointer (some ⟨W3.heap.size, 0, none⟩)) rfl (by first | (go_simp; done) | (go_simp; rfl)) ?_
  have HBa := Lib.hid (below_next HB3.out (below_alloc (Below.refl _ W3) (.cells #[.int .i64 0, .int .i64 0, .int .i64 0, .int .i64 0, .int .i64 0, .int .i64 0, .int .i64 0, .bool false, .int .i64 0, .int .i64 0, .int .i64 0, .int .i64 0, .int .i64 0, .int .u64 0, .int .u64 0, .int .i64 0, .int .i64 0] 32)))
  have HCa := Lib.hid (((below_alloc (Below.refl _ W3) (.cells #[.int .i64 0, .int .i64 0, .int .i64 0, .int .i64 0, .int .i64 0, .int .i64 0, .int .i64 0, .bool false, .int .i64 0, .int .i64 0, .int .i64 0, .int .i64 0, .int .i64 0, .int .u64 0, .int .u64 0, .int .i64 0, .int .i64 0] 32)).block _ (Array.getElem?_eq_some_iff.1 HC3.out).1).trans HC3.out)
  have HQa := Lib.hid (((below_alloc (Below.refl _ W3) (.cells #[.int .i64 0, .int .i64 0, .int .i64 0, .int .i64 0, .int .i64 0, .int .i64 0, .int .i64 0, .bool false, .int .i64 0, .int .i64 0, .int .i64 0, .int .i64 0, .int .i64 0, .int .u64 0, .int .u64 0, .int .i64 0, .int .i64 0] 32)).block _ (Array.getElem?_eq_some_iff.1 HQ3.out).1).trans HQ3.out)
  have hN := World.alloc_heap_new W3 (.cells #[.int .i64 0, .int .i64 0, .int .i64 0, .int .i64 0, .int .i64 0, .int .i64 0, .int .i64 0, .bool false, .int .i64 0, .int .i64 0, .int .i64 0, .int .i64 0, .int .i64 0, .int .u64 0, .int .u64 0, .int .i64 0, .int .i64 0] 32)
  generalize W3.alloc (.cells #[.int .i64 0, .int .i64 0, .int .i64 0, .int .i64 0, .int .i64 0, .int .i64 0, .int .i64 0, .bool false, .int .i64 0, .int .i64 0, .int .i64 0, .int .i64 0, .int .i64 0, .int .u64 0, .int .u64 0, .int .i64 0, .int .i64 0] 32) = Wa3 at *
  obtain ⟨p, hp⟩ : ∃ p, p = W3.heap.size := ⟨_, rfl⟩
  have hqp : q < p := by rw [hp]; exact (Array.getElem?_eq_some_iff.1 HQ3.out).1
  rw [← hp] at hN ⊢
  clear hp HB3 HC3 HQ3
  refine wpList_store_all rfl 32 _ _ rfl p (T := 32) lg (by go_simp) (by go_simp) hN (by rw [HLG.out]; rfl) (by rw [HLG.out]; kernel_rfl) HG1.out ?_
  intro W4 hw4
  have HP4 := Lib.hid hw4.there
  have HQ4 := Lib.hid ((hw4.rest _ (by omega)).trans HQa.out)
  have HC4 := Lib.hid ((hw4.rest _ (by omega)).trans HCa.out)
  have HB4 := Lib.hid (hw4.below HBa.out (by omega))
  clear hw4 hN HCa HBa HQa
  go_upto_region 5 with fail
  have FP := Lib.hid (fun (W : World) (h : Below W4.heap.size W4 W) => (h.block _ (Array.getElem?_eq_some_iff.1 HP4.out).1).trans HP4.out)
  have FQ := Lib.hid (fun (W : World) (h : Below W4.heap.size W4 W) => (h.block _ (Array.getElem?_eq_some_iff.1 HQ4.out).1).trans HQ4.out)
  have FC := Lib.hid (fun (W : World) (h : Below W4.heap.size W4 W) => (h.block _ (Array.getElem?_eq_some_iff.1 HC4.out).1).trans HC4.out)
  have FB := Lib.hid (fun (W : World) (h : Below W4.heap.size W4 W) => below_next HB4.out h)
  refine Rl.wp_region_rel (fun a b => Below a.heap.size a b) W4 (fun a b c h h' => below_next h h') (fun a => Below.refl _ _) hmx (by kernel_rfl) (Below.refl _ _).drew ?_
  (refine Rl.textR_run ?_ (fun ρ => ?_) (fun ρ W hS hd => ?_) ?_; rotate_left; (focus go_simp); (focus (obtain ⟨hc, hf⟩ := bcell hS; go_simp; first | exact ⟨rfl, Below.refl _ _⟩ | (refine ⟨?_, Below.refl _ _⟩; rfl))); (try go_simp))
  refine Rl.textR_run (.agg lj.toArray) (fun ρ => ?_) (fun ρ W hS hd => ?_) ?_
  · go_simp
  · exact Rl.comesToR_load 26 _ rfl w.heap.size (by go_simp) _ _ (FC.out W hS) Tryd.underlying26 rfl (by rw [HLJ.out]; kernel_rfl) ⟨rfl, Below.refl _ _⟩
  (try go_simp)
  refine Rl.textR_rel 29 (fun v w => TxtAt w v (bs ++ putJ j)) rfl (fun v w w' hg h => h.below hg) (fun ρ => ?_) (fun ρ W hS hd => ?_) ?_
  · go_simp
  · go_simp
    refine (KP.out W (FB.out W hS)).mono ?_
    rintro e w1 ⟨u, rfl, ho, hb⟩
    exact ⟨u, rfl, ho.at, hb⟩
  (try go_simp)
  refine Rl.textR_run (.string S1) (fun ρ => ?_) (fun ρ W hS hd => ?_) ?_
  · go_simp
  · have hcv := txt_conv (hd (29, fun v w => TxtAt w v (bs ++ putJ j)) List.mem_cons_self (show (29 : Nat) ∈ _ by decide)) W (Below.refl _ _)
    simp only at hcv
    rw [HS1.out] at hcv
    go_simp
    first | exact ⟨rfl, Below.refl _ _⟩ | exact Below.refl _ _
  (try go_simp)
  (refine Rl.textR_run ?_ (fun ρ => ?_) (fun ρ W hS hd => ?_) ?_; rotate_left; (focus go_simp); (focus (obtain ⟨hc, hf⟩ := bcell hS; go_simp; first | exact ⟨rfl, Below.refl _ _⟩ | (refine ⟨?_, Below.refl _ _⟩; rfl))); (try go_simp))
  refine Rl.textR_run (.string S) (fun ρ => ?_) (fun ρ W hS hd => ?_) ?_
  · go_simp
  · have hcv := HCV.out W (FB.out W hS)
    go_simp
    first | exact ⟨rfl, Below.refl _ _⟩ | exact Below.refl _ _
  (try go_simp)
  refine Rl.textR_run (.agg lj.toArray) (fun ρ => ?_) (fun ρ W hS hd => ?_) ?_
  · go_simp
  · exact Rl.comesToR_load 26 _ rfl w.heap.size (by go_simp) _ _ (FC.out W hS) Tryd.underlying26 rfl (by rw [HLJ.out]; kernel_rfl) ⟨rfl, Below.refl _ _⟩
  (try go_simp)
  (refine Rl.textR_run ?_ (fun ρ => ?_) (fun ρ W hS hd => ?_) ?_; rotate_left; (focus go_simp); (focus (obtain ⟨hc, hf⟩ := bcell hS; go_simp; refine (KO.out W).mono ?_; rintro e w1 ⟨rfl, hb⟩; refine ⟨_, rfl, ?_, hb⟩; rfl)); (try go_simp))
  (refine Rl.textR_run ?_ (fun ρ => ?_) (fun ρ W hS hd => ?_) ?_; rotate_left; (focus go_simp); (focus (obtain ⟨hc, hf⟩ := bcell hS; go_simp; refine (KQ.out W).mono ?_; rintro e w1 ⟨rfl, hb⟩; refine ⟨_, rfl, ?_, hb⟩; rfl)); (try go_simp))
  iterate 2 (refine Rl.textR_run ?_ (fun ρ => ?_) (fun ρ W hS hd => ?_) ?_; rotate_left; (focus go_simp); (focus (obtain ⟨hc, hf⟩ := bcell hS; go_simp; first | exact ⟨rfl, Below.refl _ _⟩ | (refine ⟨?_, Below.refl _ _⟩; rfl))); (try go_simp))
  refine Rl.textR_run (.agg lg.toArray) (fun ρ => ?_) (fun ρ W hS hd => ?_) ?_
  · go_simp
  · exact Rl.comesToR_load 26 _ rfl q (by go_simp) _ _ (FQ.out W hS) Tryd.underlying26 rfl (by rw [HLG.out]; kernel_rfl) ⟨rfl, Below.refl _ _⟩
  (try go_simp)
  (refine Rl.textR_run ?_ (fun ρ => ?_) (fun ρ W hS hd => ?_) ?_; rotate_left; (focus go_simp); (focus (obtain ⟨hc, hf⟩ := bcell hS; go_simp; refine (KG.out W).mono ?_; rintro e w1 ⟨rfl, hb⟩; refine ⟨_, rfl, ?_, hb⟩; rfl)); (try go_simp))
  refine Rl.textR_run (.agg lg.toArray) (fun ρ => ?_) (fun ρ W hS hd => ?_) ?_
  · go_simp
  · exact Rl.comesToR_load 32 _ rfl p (by go_simp) _ _ (FP.out W hS) Tryd.underlying32 rfl (by rw [HLG.out]; kernel_rfl) ⟨rfl, Below.refl _ _⟩
  (try go_simp)
  refine Rl.textR_run (.bool true) (fun ρ => ?_) (fun ρ W hS hd => ?_) ?_
  · go_simp
  · exact Rl.comesToR_eql 32 _ _ _ rfl _ _ (by go_simp) (by go_simp) (by kernel_rfl) (KEQ.out W) ⟨rfl, Below.refl _ _⟩
  (try go_simp)
  iterate 12 (refine Rl.textR_run ?_ (fun ρ => ?_) (fun ρ W hS hd => ?_) ?_; rotate_left; (focus go_simp); (focus (obtain ⟨hc, hf⟩ := bcell hS; go_simp; first | exact ⟨rfl, Below.refl _ _⟩ | (refine ⟨?_, Below.refl _ _⟩; rfl))); (try go_simp))
  (refine Rl.textR_run ?_ (fun ρ => ?_) (fun ρ W hS hd => ?_) ?_; rotate_left; (focus go_simp); (focus (obtain ⟨hc, hf⟩ := bcell hS; go_simp; refine (K1.out W).mono ?_; rintro e w1 ⟨rfl, hb⟩; refine ⟨_, rfl, ?_, hb⟩; rfl)); (try go_simp))
  iterate 2 (refine Rl.textR_run ?_ (fun ρ => ?_) (fun ρ W hS hd => ?_) ?_; rotate_left; (focus go_simp); (focus (obtain ⟨hc, hf⟩ := bcell hS; go_simp; first | exact ⟨rfl, Below.refl _ _⟩ | (refine ⟨?_, Below.refl _ _⟩; rfl))); (try go_simp))
  refine Rl.textR_nil ?_
  intro ρ w9 hg hk1
  have HG := Lib.hid (FB.out _ hg)
  clear hg hk1
  dsimp only
  generalize ρ 29 = z1
  go_wp2_with fail
  go_ret
  exact ⟨rfl, HG.out⟩
theorem jobreads_any (j : JobV) (hj : j.Ok) (ad : Option Addr) (n c : Nat) (bs : List Int) (w : World) (ht : TxtAt w (.slice ad n c) bs) (hE : ErrAt w) : Calls Tryd.prog 3 #[.agg (jobC j).toArray, .slice ad n c] w fun e w' => e = .returned (.bool true) ∧ Below w.heap.size w w' := by
  by_cases hn : 1000 < n
  · exact jobreads_no j ad n c hn w
  · exact jobreads_yes j hj ad n c bs (by omega) w ht hE
end Go.Proofs.YtgeldpfojmkdbaaDoor
