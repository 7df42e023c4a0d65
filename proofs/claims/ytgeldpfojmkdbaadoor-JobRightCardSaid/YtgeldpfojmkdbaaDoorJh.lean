/- A job's bytes (layer 15): Put walked at any job, behind any bytes. No condition but that its numbers fit their kinds, and the lengths' bound. -/
import Derived.Test.YtgeldpfojmkdbaaDoorJg
import Derived.Test.YtgeldpfojmkdbaaDoorCodOne
import Derived.Test.YtgeldpfojmkdbaaDoorCodQ
import Derived.Test.YtgeldpfojmkdbaaDoorAppendTwo
import Derived.OwnWalk
namespace Go.Proofs.YtgeldpfojmkdbaaDoor
set_option linter.unusedVariables false
open Go.ChangeShapes Go.WideShapes Go.ChangeAt Go.RowKit
attribute [local go_sem ↓] Go.wp_at_zero Go.wp_at_succ comesTo_value_eq comesTo_skip_eq comesTo_enter_eq Rl.comesToR_value_eq Rl.comesToR_skip_eq Rl.comesToR_enter_eq

/-- what is laid of a job -/
def jobN (j : JobV) : List Int := [j.id, j.user, j.part, j.width, j.limit, j.nice, j.after, holdN j.hold, j.state, j.sent, j.plan, j.promise, j.tries, wrap64 (nv j.black), wrap64 (nv j.nodes), j.start, j.fin]
def putJ (j : JobV) : List Int := (jobN j).flatMap putI
theorem wrap64_in (x : Int) : -9223372036854775808 ≤ wrap64 x ∧ wrap64 x ≤ 9223372036854775807 := by unfold wrap64; omega
theorem jobN_in {j : JobV} (h : j.Ok) : ∀ x ∈ jobN j, -9223372036854775808 ≤ x ∧ x ≤ 9223372036854775807 := by
  have hi := h.inb
  unfold JobV.ints at hi
  simp only [List.mem_cons, List.not_mem_nil, or_false, forall_eq_or_imp, forall_eq] at hi
  obtain ⟨h0, h1, h2, h3, h4, h5, h6, h8, h9, h10, h11, h12, h15, h16⟩ := hi
  unfold jobN
  simp only [List.mem_cons, List.not_mem_nil, or_false, forall_eq_or_imp, forall_eq]
  exact ⟨h0, h1, h2, h3, h4, h5, h6, by unfold holdN; split <;> omega, h8, h9, h10, h11, h12, wrap64_in _, wrap64_in _, h15, h16⟩
theorem flat_le : ∀ (l : List Int), (∀ x ∈ l, -9223372036854775808 ≤ x ∧ x ≤ 9223372036854775807) → (l.flatMap putI).length ≤ 10 * l.length
  | [], _ => by simp
  | x :: l, h => by
    have h1 := putI_len (h x List.mem_cons_self)
    have h2 := flat_le l (fun y hy => h y (List.mem_cons_of_mem _ hy))
    rw [List.flatMap_cons, List.length_append, List.length_cons]
    omega
theorem putJ_len {j : JobV} (h : j.Ok) : (putJ j).length ≤ 170 := flat_le (jobN j) (jobN_in h)
set_option maxHeartbeats 4000000 in
theorem index17 (x0 x1 x2 x3 x4 x5 x6 x7 x8 x9 x10 x11 x12 x13 x14 x15 x16 : Int) (k : Nat) (hk : k < 17) (w : World) : (Instr.index 58 (.agg #[.int .i64 x0, .int .i64 x1, .int .i64 x2, .int .i64 x3, .int .i64 x4, .int .i64 x5, .int .i64 x6, .int .i64 x7, .int .i64 x8, .int .i64 x9, .int .i64 x10, .int .i64 x11, .int .i64 x12, .int .i64 x13, .int .i64 x14, .int .i64 x15, .int .i64 x16]) (.int .i64 (k : Int))).run Tryd.prog w = .ok (.int .i64 ([x0, x1, x2, x3, x4, x5, x6, x7, x8, x9, x10, x11, x12, x13, x14, x15, x16].getD k 0)) w := by
  rcases (show k = 0 ∨ k = 1 ∨ k = 2 ∨ k = 3 ∨ k = 4 ∨ k = 5 ∨ k = 6 ∨ k = 7 ∨ k = 8 ∨ k = 9 ∨ k = 10 ∨ k = 11 ∨ k = 12 ∨ k = 13 ∨ k = 14 ∨ k = 15 ∨ k = 16 by omega) with rfl | rfl | rfl | rfl | rfl | rfl | rfl | rfl | rfl | rfl | rfl | rfl | rfl | rfl | rfl | rfl | rfl <;> kernel_rfl
/-- an own row of no bytes, with room -/
theorem OwnTxt.slice {w : World} {B : Nat} {v : Value} {xs : List Int} (h : OwnTxt w B v xs) : ∃ au m cu, v = .slice au m cu ∧ m = xs.length := by
  rcases h.form'' with ⟨rfl, h0⟩ | ⟨g, cc, rfl, _⟩
  · exact ⟨none, 0, 0, rfl, by rw [h0]; rfl⟩
  · exact ⟨_, _, _, rfl, rfl⟩
theorem OwnTxt.make {w : World} {B : Nat} {v : Value} (h : w.ownsRow B 5 1 v 0 []) : OwnTxt w B v [] := ⟨h, fun k hk => by simp at hk, fun k hk => by simp at hk⟩
set_option maxRecDepth 100000 in
set_option maxHeartbeats 4000000 in
theorem put_any (j : JobV) (hj : j.Ok) {ad : Option Addr} {n c : Nat} {xs : List Int} {w : World} (h : TxtAt w (.slice ad n c) xs) (hl : xs.length ≤ 1099511627776) : Calls Tryd.prog 7 #[.slice ad n c, .agg (jobC j).toArray] w fun e w' => ∃ u, e = .returned u ∧ OwnTxt w' w.heap.size u (xs ++ putJ j) ∧ Below w.heap.size w w' := by
  have HN := Lib.hid (h.form.1)
  have HT := Lib.hid h
  have HL := Lib.hid hl
  clear h hl
  have HIN := Lib.hid (jobN_in hj)
  have HPJ := Lib.hid (show putJ j = (jobN j).flatMap putI from rfl)
  have HIX := Lib.hid (fun (hd : Int) (e : hd = holdN j.hold) (k : Nat) (hk : k < 17) (W : World) => show (Instr.index 58 (.agg #[.int .i64 j.id, .int .i64 j.user, .int .i64 j.part, .int .i64 j.width, .int .i64 j.limit, .int .i64 j.nice, .int .i64 j.after, .int .i64 hd, .int .i64 j.state, .int .i64 j.sent, .int .i64 j.plan, .int .i64 j.promise, .int .i64 j.tries, .int .i64 (wrap64 (nv j.black)), .int .i64 (wrap64 (nv j.nodes)), .int .i64 j.start, .int .i64 j.fin]) (.int .i64 (k : Int))).run Tryd.prog W = .ok (.int .i64 ((jobN j).getD k 0)) W from e ▸ index17 j.id j.user j.part j.width j.limit j.nice j.after (holdN j.hold) j.state j.sent j.plan j.promise j.tries (wrap64 (nv j.black)) (wrap64 (nv j.nodes)) j.start j.fin k hk W)
  have hts : (jobN j).length = 17 := rfl
  have HTL := Lib.hid hts
  clear hts
  generalize jobN j = ts at *
  have hmx : Tryd.prog.follows .mixedOrders = true := by kernel_rfl
  have HLEN := Lib.hid (jobC_len j)
  have k0 : (jobC j).toArray[0]? = some (.int .i64 j.id) := rfl
  have k1 : (jobC j).toArray[1]? = some (.int .i64 j.user) := rfl
  have k2 : (jobC j).toArray[2]? = some (.int .i64 j.part) := rfl
  have k3 : (jobC j).toArray[3]? = some (.int .i64 j.width) := rfl
  have k4 : (jobC j).toArray[4]? = some (.int .i64 j.limit) := rfl
  have k5 : (jobC j).toArray[5]? = some (.int .i64 j.nice) := rfl
  have k6 : (jobC j).toArray[6]? = some (.int .i64 j.after) := rfl
  have k7 : (jobC j).toArray[7]? = some (.bool j.hold) := rfl
  have k8 : (jobC j).toArray[8]? = some (.int .i64 j.state) := rfl
  have k9 : (jobC j).toArray[9]? = some (.int .i64 j.sent) := rfl
  have k10 : (jobC j).toArray[10]? = some (.int .i64 j.plan) := rfl
  have k11 : (jobC j).toArray[11]? = some (.int .i64 j.promise) := rfl
  have k12 : (jobC j).toArray[12]? = some (.int .i64 j.tries) := rfl
  have k13 : (jobC j).toArray[13]? = some (.int .u64 (nv j.black)) := rfl
  have k14 : (jobC j).toArray[14]? = some (.int .u64 (nv j.nodes)) := rfl
  have k15 : (jobC j).toArray[15]? = some (.int .i64 j.start) := rfl
  have k16 : (jobC j).toArray[16]? = some (.int .i64 j.fin) := rfl
  generalize hl : jobC j = l at *
  clear hl
  go_enter Tryd.func7, Tryd.ntmps7
  go_upto_region 2 with fail
  have hC := World.alloc_heap_new w (.cells l.toArray 26)
  have HB := Lib.hid (below_alloc (Below.refl _ w) (.cells l.toArray 26))
  have l0 : w.heap.size < (w.alloc (.cells l.toArray 26)).heap.size := by simp
  generalize w.alloc (.cells l.toArray 26) = U at *
  have c0 := cell_of_block (o := 0) hC k0
  have c1 := cell_of_block (o := 1) hC k1
  have c2 := cell_of_block (o := 2) hC k2
  have c3 := cell_of_block (o := 3) hC k3
  have c4 := cell_of_block (o := 4) hC k4
  have c5 := cell_of_block (o := 5) hC k5
  have c6 := cell_of_block (o := 6) hC k6
  have c7 := cell_of_block (o := 7) hC k7
  have c8 := cell_of_block (o := 8) hC k8
  have c9 := cell_of_block (o := 9) hC k9
  have c10 := cell_of_block (o := 10) hC k10
  have c11 := cell_of_block (o := 11) hC k11
  have c12 := cell_of_block (o := 12) hC k12
  have c13 := cell_of_block (o := 13) hC k13
  have c14 := cell_of_block (o := 14) hC k14
  have c15 := cell_of_block (o := 15) hC k15
  have c16 := cell_of_block (o := 16) hC k16
  have HC := Lib.hid hC
  have L0 := Lib.hid l0
  have HK0 := Lib.hid k0
  have HK1 := Lib.hid k1
  have HK2 := Lib.hid k2
  have HK3 := Lib.hid k3
  have HK4 := Lib.hid k4
  have HK5 := Lib.hid k5
  have HK6 := Lib.hid k6
  have HK7 := Lib.hid k7
  have HK8 := Lib.hid k8
  have HK9 := Lib.hid k9
  have HK10 := Lib.hid k10
  have HK11 := Lib.hid k11
  have HK12 := Lib.hid k12
  have HK13 := Lib.hid k13
  have HK14 := Lib.hid k14
  have HK15 := Lib.hid k15
  have HK16 := Lib.hid k16
  clear hC k0 k1 k2 k3 k4 k5 k6 k7 k8 k9 k10 k11 k12 k13 k14 k15 k16
  have hb := HB.out
  cases hh : j.hold with
  | false =>
    rw [hh] at c7 HIX
    have HIY := Lib.hid (HIX.out 0 rfl)
    clear HIX hb
    go_wp2_with fail
    go_loopw [6, 47] (fun b i wr => ∃ (k : Nat) (au : Option Addr) (m cu : Nat), k ≤ 17 ∧ b = .slice au m cu ∧ i = .int .i64 k ∧ OwnTxt wr w.heap.size (.slice au m cu) ((ts.take k).flatMap putI) ∧ Below w.heap.size w wr) (fun _ i _ => 17 - (intOf i).toNat)
    case atStart => exact ⟨0, none, 0, 0, Nat.zero_le _, rfl, rfl, OwnTxt.nil, HB.out⟩
    case round =>
      obtain ⟨k, au, m, cu, hk, rfl, rfl, ho, hb⟩ := hrel
      have HO := Lib.hid ho
      have HB2 := Lib.hid hb
      clear ho hb
      by_cases hlt : k < 17
      · have hd : decide ((k : Int) < 17) = true := decide_eq_true (by omega)
        have hkl : k < ts.length := by rw [HTL.out]; exact hlt
        have htk : ts.take (k + 1) = ts.take k ++ [ts.getD k 0] := by
          rw [List.take_add_one]; simp [List.getD, hkl]
        have hmem : ts.getD k 0 ∈ ts := by simp [List.getD, hkl]
        have hix := HIY.out k hlt wr
        have hlen : ((ts.take k).flatMap putI).length ≤ 1099511627776 := by
          have := flat_le (ts.take k) (fun x hx => HIN.out x (List.mem_of_mem_take hx))
          have h2 : (ts.take k).length ≤ 17 := by simp; omega
          omega
        have KP := Lib.hid (putint_any HO.out.at hlen (HIN.out _ hmem))
        have HTK := Lib.hid (show (ts.take (k + 1)).flatMap putI = (ts.take k).flatMap putI ++ putI (ts.getD k 0) by rw [htk, List.flatMap_append]; simp)
        clear htk hlen hkl hmem
        generalize ts.getD k 0 = x at *
        go_wp2_with fail
        ((with_reducible refine KP.out.mono ?_))
        rintro e w4 ⟨u4, rfl, ho4, hb4⟩
        obtain ⟨au4, m4, cu4, rfl, hm4⟩ := ho4.slice
        clear hm4
        have HO4 := Lib.hid ho4
        have HB4 := Lib.hid (below_next HB2.out hb4)
        clear ho4 hb4 hix
        go_wp2_with fail
        go_roundw
        case rel => exact ⟨k + 1, au4, m4, cu4, by omega, rfl, by go_num, by rw [HTK.out]; exact HO4.out.base' HB2.out.size, HB4.out⟩
        case measure => simp [intOf]; omega
      · have hd : decide ((k : Int) < 17) = false := decide_eq_false (by omega)
        have HE := Lib.hid (show (ts.take k).flatMap putI = putJ j by rw [List.take_of_length_le (by rw [HTL.out]; omega), HPJ.out])
        have HLJ := Lib.hid (show (putJ j).length ≤ 170 from putJ_len hj)
        have HO2 := Lib.hid (HE.out ▸ HO.out)
        have HT2 := Lib.hid (HT.out.below HB2.out)
        have hnn : n ≤ 1099511627776 := by rw [HN.out]; exact HL.out
        have HNN := Lib.hid hnn
        clear HIY HIN HO hk hlt
        go_upto_region 10 with fail
        obtain ⟨i0, hi, hz0, hz1, hz2⟩ := info_parts info_u8
        obtain ⟨_, _, _, he1, hm⟩ := HO2.out.slice
        cases he1
        have hml : m ≤ 170 := by rw [hm]; exact HLJ.out
        have HM := Lib.hid hm
        clear hm
        have hwr : IntKind.i64.wrap ((n : Int) + (m : Int)) = (n : Int) + (m : Int) := by rw [IntKind.wrap_i64]; omega
        refine wp_region_lit ?_
        refine wpList_yield (w' := wr) (v := .slice ad n c) rfl (by first | (go_simp; done) | (go_simp; rfl)) ?_
        refine wpList_yield (w' := wr) (v := .int .i64 (n : Int)) rfl (by first | (go_simp; done) | (go_simp; rfl)) ?_
        refine wpList_yield (w' := wr) (v := .slice au m cu) rfl (by first | (go_simp; done) | (go_simp; rfl)) ?_
        refine wpList_yield (w' := wr) (v := .int .i64 (m : Int)) rfl (by first | (go_simp; done) | (go_simp; rfl)) ?_
        refine wpList_yield (w' := wr) (v := .int .i64 ((n : Int) + (m : Int))) rfl (by first | (go_simp; done) | (go_simp; rfl)) ?_
        refine wpList_make_own wr rfl _ _ 27 rfl wr.heap.size 5 i0 (.int .u8 0) 1 Tryd.underlying27 hi hz0 hz1 .i64 .i64 ((n : Int) + (m : Int)) (n + m) (by go_simp) (by go_simp) (by omega) (by rw [hz2]; omega) (by unfold maxLen; omega) (Nat.le_refl _) ?_
        intro w5 ho5 hg5
        have hb25 : Below wr.heap.size wr w5 := Below.grown (Below.refl _ _) hg5 (Nat.le_refl _) (fun k hk => by cases hk)
        have HT5 := Lib.hid (HT2.out.below hb25)
        have HB25 := Lib.hid hb25
        have HR5 := Lib.hid (OwnTxt.make ho5)
        clear hb25 ho5 hg5
        refine wpList_yield (w' := w5) (v := .slice ad n c) rfl (by first | (go_simp; done) | (go_simp; rfl)) ?_
        refine wpList_append_txt rfl _ _ rfl wr.heap.size _ [] (by go_simp) HR5.out _ xs (by go_simp) HT5.out (by have := HL.out; simp; omega) HB25.out.size ?_
        intro ad6 n6 c6 w6 ho6 hb6 hg6
        have HB26 := Lib.hid (HB25.out.trans hb6)
        have HO6 := Lib.hid ho6
        have HU6 := Lib.hid (HO2.out.at.below HB26.out)
        clear ho6 hb6 hg6
        refine wpList_yield (w' := w6) (v := .slice au m cu) rfl (by first | (go_simp; done) | (go_simp; rfl)) ?_
        refine wpList_append_txt rfl _ _ rfl wr.heap.size _ xs (by go_simp) HO6.out _ (putJ j) (by go_simp) HU6.out (by have := HL.out; have := HLJ.out; omega) HB26.out.size ?_
        intro ad7 n7 c7' w7 ho7 hb7 hg7
        have HO7 := Lib.hid (ho7.base' HB2.out.size)
        have HB7 := Lib.hid (below_next HB2.out (HB26.out.trans hb7))
        clear ho7 hb7 hg7
        go_wp2
        go_ret
        exact ⟨_, rfl, HO7.out, HB7.out⟩
  | true =>
    rw [hh] at c7 HIX
    have HIY := Lib.hid (HIX.out 1 rfl)
    clear HIX hb
    go_wp2_with fail
    go_loopw [6, 47] (fun b i wr => ∃ (k : Nat) (au : Option Addr) (m cu : Nat), k ≤ 17 ∧ b = .slice au m cu ∧ i = .int .i64 k ∧ OwnTxt wr w.heap.size (.slice au m cu) ((ts.take k).flatMap putI) ∧ Below w.heap.size w wr) (fun _ i _ => 17 - (intOf i).toNat)
    case atStart => exact ⟨0, none, 0, 0, Nat.zero_le _, rfl, rfl, OwnTxt.nil, HB.out⟩
    case round =>
      obtain ⟨k, au, m, cu, hk, rfl, rfl, ho, hb⟩ := hrel
      have HO := Lib.hid ho
      have HB2 := Lib.hid hb
      clear ho hb
      by_cases hlt : k < 17
      · have hd : decide ((k : Int) < 17) = true := decide_eq_true (by omega)
        have hkl : k < ts.length := by rw [HTL.out]; exact hlt
        have htk : ts.take (k + 1) = ts.take k ++ [ts.getD k 0] := by
          rw [List.take_add_one]; simp [List.getD, hkl]
        have hmem : ts.getD k 0 ∈ ts := by simp [List.getD, hkl]
        have hix := HIY.out k hlt wr
        have hlen : ((ts.take k).flatMap putI).length ≤ 1099511627776 := by
          have := flat_le (ts.take k) (fun x hx => HIN.out x (List.mem_of_mem_take hx))
          have h2 : (ts.take k).length ≤ 17 := by simp; omega
          omega
        have KP := Lib.hid (putint_any HO.out.at hlen (HIN.out _ hmem))
        have HTK := Lib.hid (show (ts.take (k + 1)).flatMap putI = (ts.take k).flatMap putI ++ putI (ts.getD k 0) by rw [htk, List.flatMap_append]; simp)
        clear htk hlen hkl hmem
        generalize ts.getD k 0 = x at *
        go_wp2_with fail
        ((with_reducible refine KP.out.mono ?_))
        rintro e w4 ⟨u4, rfl, ho4, hb4⟩
        obtain ⟨au4, m4, cu4, rfl, hm4⟩ := ho4.slice
        clear hm4
        have HO4 := Lib.hid ho4
        have HB4 := Lib.hid (below_next HB2.out hb4)
        clear ho4 hb4 hix
        go_wp2_with fail
        go_roundw
        case rel => exact ⟨k + 1, au4, m4, cu4, by omega, rfl, by go_num, by rw [HTK.out]; exact HO4.out.base' HB2.out.size, HB4.out⟩
        case measure => simp [intOf]; omega
      · have hd : decide ((k : Int) < 17) = false := decide_eq_false (by omega)
        have HE := Lib.hid (show (ts.take k).flatMap putI = putJ j by rw [List.take_of_length_le (by rw [HTL.out]; omega), HPJ.out])
        have HLJ := Lib.hid (show (putJ j).length ≤ 170 from putJ_len hj)
        have HO2 := Lib.hid (HE.out ▸ HO.out)
        have HT2 := Lib.hid (HT.out.below HB2.out)
        have hnn : n ≤ 1099511627776 := by rw [HN.out]; exact HL.out
        have HNN := Lib.hid hnn
        clear HIY HIN HO hk hlt
        go_upto_region 10 with fail
        obtain ⟨i0, hi, hz0, hz1, hz2⟩ := info_parts info_u8
        obtain ⟨_, _, _, he1, hm⟩ := HO2.out.slice
        cases he1
        have hml : m ≤ 170 := by rw [hm]; exact HLJ.out
        have HM := Lib.hid hm
        clear hm
        have hwr : IntKind.i64.wrap ((n : Int) + (m : Int)) = (n : Int) + (m : Int) := by rw [IntKind.wrap_i64]; omega
        refine wp_region_lit ?_
        refine wpList_yield (w' := wr) (v := .slice ad n c) rfl (by first | (go_simp; done) | (go_simp; rfl)) ?_
        refine wpList_yield (w' := wr) (v := .int .i64 (n : Int)) rfl (by first | (go_simp; done) | (go_simp; rfl)) ?_
        refine wpList_yield (w' := wr) (v := .slice au m cu) rfl (by first | (go_simp; done) | (go_simp; rfl)) ?_
        refine wpList_yield (w' := wr) (v := .int .i64 (m : Int)) rfl (by first | (go_simp; done) | (go_simp; rfl)) ?_
        refine wpList_yield (w' := wr) (v := .int .i64 ((n : Int) + (m : Int))) rfl (by first | (go_simp; done) | (go_simp; rfl)) ?_
        refine wpList_make_own wr rfl _ _ 27 rfl wr.heap.size 5 i0 (.int .u8 0) 1 Tryd.underlying27 hi hz0 hz1 .i64 .i64 ((n : Int) + (m : Int)) (n + m) (by go_simp) (by go_simp) (by omega) (by rw [hz2]; omega) (by unfold maxLen; omega) (Nat.le_refl _) ?_
        intro w5 ho5 hg5
        have hb25 : Below wr.heap.size wr w5 := Below.grown (Below.refl _ _) hg5 (Nat.le_refl _) (fun k hk => by cases hk)
        have HT5 := Lib.hid (HT2.out.below hb25)
        have HB25 := Lib.hid hb25
        have HR5 := Lib.hid (OwnTxt.make ho5)
        clear hb25 ho5 hg5
        refine wpList_yield (w' := w5) (v := .slice ad n c) rfl (by first | (go_simp; done) | (go_simp; rfl)) ?_
        refine wpList_append_txt rfl _ _ rfl wr.heap.size _ [] (by go_simp) HR5.out _ xs (by go_simp) HT5.out (by have := HL.out; simp; omega) HB25.out.size ?_
        intro ad6 n6 c6 w6 ho6 hb6 hg6
        have HB26 := Lib.hid (HB25.out.trans hb6)
        have HO6 := Lib.hid ho6
        have HU6 := Lib.hid (HO2.out.at.below HB26.out)
        clear ho6 hb6 hg6
        refine wpList_yield (w' := w6) (v := .slice au m cu) rfl (by first | (go_simp; done) | (go_simp; rfl)) ?_
        refine wpList_append_txt rfl _ _ rfl wr.heap.size _ xs (by go_simp) HO6.out _ (putJ j) (by go_simp) HU6.out (by have := HL.out; have := HLJ.out; omega) HB26.out.size ?_
        intro ad7 n7 c7' w7 ho7 hb7 hg7
        have HO7 := Lib.hid (ho7.base' HB2.out.size)
        have HB7 := Lib.hid (below_next HB2.out (HB26.out.trans hb7))
        clear ho7 hb7 hg7
        go_wp2
        go_ret
        exact ⟨_, rfl, HO7.out, HB7.out⟩
end Go.Proofs.YtgeldpfojmkdbaaDoor
