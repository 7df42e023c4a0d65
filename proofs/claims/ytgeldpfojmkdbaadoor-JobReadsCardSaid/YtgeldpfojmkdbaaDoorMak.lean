/- Laws that belong together: A job's bytes (layer 15): Put walked at any job, behind any bytes. No condition but that its numbers fit their kinds, and the lengths' bound.; A job read from bytes (layer 15): Read walked at any bytes. No condition but the lengths' bound, and the door's type of errors.; What is laid of a job is read back (layer 15), plainly; what comes of a job fits its kinds. No condition but that the job's numbers fit theirs.; The known job (layer 15), by the contracts of any job. No condition but that job's numbers.; What the known play comes to (layer 15, one). No condition but that job's numbers. -/
import Derived.Test.YtgeldpfojmkdbaaDoorMJg
import Derived.Test.YtgeldpfojmkdbaaDoorMaj
import Derived.Test.YtgeldpfojmkdbaaDoorMah
import Derived.OwnWalk
import Derived.Test.YtgeldpfojmkdbaaDoorMaf
import Derived.Test.YtgeldpfojmkdbaaDoorMac
import Derived.Test.YtgeldpfojmkdbaaDoorMam
import Derived.Deep.MidRow
namespace Go.Proofs.YtgeldpfojmkdbaaDoor
set_option linter.unusedVariables false
open Go.ChangeShapes Go.WideShapes Go.ChangeAt Go.RowKit
attribute [local go_sem ↓] Go.wp_at_zero Go.wp_at_succ comesTo_value_eq comesTo_skip_eq comesTo_enter_eq Rl.comesToR_value_eq Rl.comesToR_skip_eq Rl.comesToR_enter_eq

/-- what is laid of a job -/
def jobN (j : JobV) : List Int := [j.id, j.user, j.part, j.width, j.limit, j.nice, j.after, holdN j.hold, j.state, j.sent, j.plan, j.promise, j.tries, wrap64 (nv j.black), wrap64 (nv j.nodes), j.start, j.fin]
def putJ (j : JobV) : List Int := (jobN j).flatMap putI
theorem wrap64_in (x : Int) : -9223372036854775808 ≤ wrap64 x ∧ wrap64 x ≤ 9223372036854775807 := by unfold wrap64; omega
theorem jobN_in {j : JobV} (h : j.Ok) : ∀ x ∈ jobN j, -9223372036854775808 ≤ x ∧ x ≤ 9223372036854775807 := by
  have hi := h.inb
  unfold JobV.ints at hi
  simp only [List.mem_cons, List.not_mem_nil, or_false, forall_eq_or_imp, forall_eq] at hi
  obtain ⟨h0, h1, h2, h3, h4, h5, h6, h8, h9, h10, h11, h12, h15, h16⟩ := hi
  unfold jobN
  simp only [List.mem_cons, List.not_mem_nil, or_false, forall_eq_or_imp, forall_eq]
  exact ⟨h0, h1, h2, h3, h4, h5, h6, by unfold holdN; split <;> omega, h8, h9, h10, h11, h12, wrap64_in _, wrap64_in _, h15, h16⟩
theorem flat_le : ∀ (l : List Int), (∀ x ∈ l, -9223372036854775808 ≤ x ∧ x ≤ 9223372036854775807) → (l.flatMap putI).length ≤ 10 * l.length
  | [], _ => by simp
  | x :: l, h => by
    have h1 := putI_len (h x List.mem_cons_self)
    have h2 := flat_le l (fun y hy => h y (List.mem_cons_of_mem _ hy))
    rw [List.flatMap_cons, List.length_append, List.length_cons]
    omega
theorem putJ_len {j : JobV} (h : j.Ok) : (putJ j).length ≤ 170 := flat_le (jobN j) (jobN_in h)
set_option maxHeartbeats 4000000 in
theorem index17 (x0 x1 x2 x3 x4 x5 x6 x7 x8 x9 x10 x11 x12 x13 x14 x15 x16 : Int) (k : Nat) (hk : k < 17) (w : World) : (Instr.index 58 (.agg #[.int .i64 x0, .int .i64 x1, .int .i64 x2, .int .i64 x3, .int .i64 x4, .int .i64 x5, .int .i64 x6, .int .i64 x7, .int .i64 x8, .int .i64 x9, .int .i64 x10, .int .i64 x11, .int .i64 x12, .int .i64 x13, .int .i64 x14, .int .i64 x15, .int .i64 x16]) (.int .i64 (k : Int))).run Tryd.prog w = .ok (.int .i64 ([x0, x1, x2, x3, x4, x5, x6, x7, x8, x9, x10, x11, x12, x13, x14, x15, x16].getD k 0)) w := by
  rcases (show k = 0 ∨ k = 1 ∨ k = 2 ∨ k = 3 ∨ k = 4 ∨ k = 5 ∨ k = 6 ∨ k = 7 ∨ k = 8 ∨ k = 9 ∨ k = 10 ∨ k = 11 ∨ k = 12 ∨ k = 13 ∨ k = 14 ∨ k = 15 ∨ k = 16 by omega) with rfl | rfl | rfl | rfl | rfl | rfl | rfl | rfl | rfl | rfl | rfl | rfl | rfl | rfl | rfl | rfl | rfl <;> kernel_rfl
/-- an own row of no bytes, with room -/
theorem OwnTxt.slice {w : World} {B : Nat} {v : Value} {xs : List Int} (h : OwnTxt w B v xs) : ∃ au m cu, v = .slice au m cu ∧ m = xs.length := by
  rcases h.form'' with ⟨rfl, h0⟩ | ⟨g, cc, rfl, _⟩
  · exact ⟨none, 0, 0, rfl, by rw [h0]; rfl⟩
  · exact ⟨_, _, _, rfl, rfl⟩
theorem OwnTxt.make {w : World} {B : Nat} {v : Value} (h : w.ownsRow B 5 1 v 0 []) : OwnTxt w B v [] := ⟨h, fun k hk => by simp at hk, fun k hk => by simp at hk⟩
set_option maxRecDepth 100000 in
set_option maxHeartbeats 4000000 in
theorem put_any (j : JobV) (hj : j.Ok) {ad : Option Addr} {n c : Nat} {xs : List Int} {w : World} (h : TxtAt w (.slice ad n c) xs) (hl : xs.length ≤ 1099511627776) : Calls Tryd.prog 7 #[.slice ad n c, .agg (jobC j).toArray] w fun e w' => ∃ u, e = .returned u ∧ OwnTxt w' w.heap.size u (xs ++ putJ j) ∧ Below w.heap.size w w' := by
  have HN := Lib.hid (h.form.1)
  have HT := Lib.hid h
  have HL := Lib.hid hl
  clear h hl
  have HIN := Lib.hid (jobN_in hj)
  have HPJ := Lib.hid (show putJ j = (jobN j).flatMap putI from rfl)
  have HIX := Lib.hid (fun (hd : Int) (e : hd = holdN j.hold) (k : Nat) (hk : k < 17) (W : World) => show (Instr.index 58 (.agg #[.int .i64 j.id, .int .i64 j.user, .int .i64 j.part, .int .i64 j.width, .int .i64 j.limit, .int .i64 j.nice, .int .i64 j.after, .int .i64 hd, .int .i64 j.state, .int .i64 j.sent, .int .i64 j.plan, .int .i64 j.promise, .int .i64 j.tries, .int .i64 (wrap64 (nv j.black)), .int .i64 (wrap64 (nv j.nodes)), .int .i64 j.start, .int .i64 j.fin]) (.int .i64 (k : Int))).run Tryd.prog W = .ok (.int .i64 ((jobN j).getD k 0)) W from e ▸ index17 j.id j.user j.part j.width j.limit j.nice j.after (holdN j.hold) j.state j.sent j.plan j.promise j.tries (wrap64 (nv j.black)) (wrap64 (nv j.nodes)) j.start j.fin k hk W)
  have hts : (jobN j).length = 17 := rfl
  have HTL := Lib.hid hts
  clear hts
  generalize jobN j = ts at *
  have hmx : Tryd.prog.follows .mixedOrders = true := by kernel_rfl
  have HLEN := Lib.hid (jobC_len j)
  have k0 : (jobC j).toArray[0]? = some (.int .i64 j.id) := rfl
  have k1 : (jobC j).toArray[1]? = some (.int .i64 j.user) := rfl
  have k2 : (jobC j).toArray[2]? = some (.int .i64 j.part) := rfl
  have k3 : (jobC j).toArray[3]? = some (.int .i64 j.width) := rfl
  have k4 : (jobC j).toArray[4]? = some (.int .i64 j.limit) := rfl
  have k5 : (jobC j).toArray[5]? = some (.int .i64 j.nice) := rfl
  have k6 : (jobC j).toArray[6]? = some (.int .i64 j.after) := rfl
  have k7 : (jobC j).toArray[7]? = some (.bool j.hold) := rfl
  have k8 : (jobC j).toArray[8]? = some (.int .i64 j.state) := rfl
  have k9 : (jobC j).toArray[9]? = some (.int .i64 j.sent) := rfl
  have k10 : (jobC j).toArray[10]? = some (.int .i64 j.plan) := rfl
  have k11 : (jobC j).toArray[11]? = some (.int .i64 j.promise) := rfl
  have k12 : (jobC j).toArray[12]? = some (.int .i64 j.tries) := rfl
  have k13 : (jobC j).toArray[13]? = some (.int .u64 (nv j.black)) := rfl
  have k14 : (jobC j).toArray[14]? = some (.int .u64 (nv j.nodes)) := rfl
  have k15 : (jobC j).toArray[15]? = some (.int .i64 j.start) := rfl
  have k16 : (jobC j).toArray[16]? = some (.int .i64 j.fin) := rfl
  generalize hl : jobC j = l at *
  clear hl
  go_enter Tryd.func7, Tryd.ntmps7
  go_upto_region 2 with fail
  have hC := World.alloc_heap_new w (.cells l.toArray 26)
  have HB := Lib.hid (below_alloc (Below.refl _ w) (.cells l.toArray 26))
  have l0 : w.heap.size < (w.alloc (.cells l.toArray 26)).heap.size := by simp
  generalize w.alloc (.cells l.toArray 26) = U at *
  have c0 := cell_of_block (o := 0) hC k0
  have c1 := cell_of_block (o := 1) hC k1
  have c2 := cell_of_block (o := 2) hC k2
  have c3 := cell_of_block (o := 3) hC k3
  have c4 := cell_of_block (o := 4) hC k4
  have c5 := cell_of_block (o := 5) hC k5
  have c6 := cell_of_block (o := 6) hC k6
  have c7 := cell_of_block (o := 7) hC k7
  have c8 := cell_of_block (o := 8) hC k8
  have c9 := cell_of_block (o := 9) hC k9
  have c10 := cell_of_block (o := 10) hC k10
  have c11 := cell_of_block (o := 11) hC k11
  have c12 := cell_of_block (o := 12) hC k12
  have c13 := cell_of_block (o := 13) hC k13
  have c14 := cell_of_block (o := 14) hC k14
  have c15 := cell_of_block (o := 15) hC k15
  have c16 := cell_of_block (o := 16) hC k16
  have HC := Lib.hid hC
  have L0 := Lib.hid l0
  have HK0 := Lib.hid k0
  have HK1 := Lib.hid k1
  have HK2 := Lib.hid k2
  have HK3 := Lib.hid k3
  have HK4 := Lib.hid k4
  have HK5 := Lib.hid k5
  have HK6 := Lib.hid k6
  have HK7 := Lib.hid k7
  have HK8 := Lib.hid k8
  have HK9 := Lib.hid k9
  have HK10 := Lib.hid k10
  have HK11 := Lib.hid k11
  have HK12 := Lib.hid k12
  have HK13 := Lib.hid k13
  have HK14 := Lib.hid k14
  have HK15 := Lib.hid k15
  have HK16 := Lib.hid k16
  clear hC k0 k1 k2 k3 k4 k5 k6 k7 k8 k9 k10 k11 k12 k13 k14 k15 k16
  have hb := HB.out
  cases hh : j.hold with
  | false =>
    rw [hh] at c7 HIX
    have HIY := Lib.hid (HIX.out 0 rfl)
    clear HIX hb
    go_wp2_with fail
    go_loopw [6, 47] (fun b i wr => ∃ (k : Nat) (au : Option Addr) (m cu : Nat), k ≤ 17 ∧ b = .slice au m cu ∧ i = .int .i64 k ∧ OwnTxt wr w.heap.size (.slice au m cu) ((ts.take k).flatMap putI) ∧ Below w.heap.size w wr) (fun _ i _ => 17 - (intOf i).toNat)
    case atStart => exact ⟨0, none, 0, 0, Nat.zero_le _, rfl, rfl, OwnTxt.nil, HB.out⟩
    case round =>
      obtain ⟨k, au, m, cu, hk, rfl, rfl, ho, hb⟩ := hrel
      have HO := Lib.hid ho
      have HB2 := Lib.hid hb
      clear ho hb
      by_cases hlt : k < 17
      · have hd : decide ((k : Int) < 17) = true := decide_eq_true (by omega)
        have hkl : k < ts.length := by rw [HTL.out]; exact hlt
        have htk : ts.take (k + 1) = ts.take k ++ [ts.getD k 0] := by
          rw [List.take_add_one]; simp [List.getD, hkl]
        have hmem : ts.getD k 0 ∈ ts := by simp [List.getD, hkl]
        have hix := HIY.out k hlt wr
        have hlen : ((ts.take k).flatMap putI).length ≤ 1099511627776 := by
          have := flat_le (ts.take k) (fun x hx => HIN.out x (List.mem_of_mem_take hx))
          have h2 : (ts.take k).length ≤ 17 := by simp; omega
          omega
        have KP := Lib.hid (putint_any HO.out.at hlen (HIN.out _ hmem))
        have HTK := Lib.hid (show (ts.take (k + 1)).flatMap putI = (ts.take k).flatMap putI ++ putI (ts.getD k 0) by rw [htk, List.flatMap_append]; simp)
        clear htk hlen hkl hmem
        generalize ts.getD k 0 = x at *
        go_wp2_with fail
        ((with_reducible refine KP.out.mono ?_))
        rintro e w4 ⟨u4, rfl, ho4, hb4⟩
        obtain ⟨au4, m4, cu4, rfl, hm4⟩ := ho4.slice
        clear hm4
        have HO4 := Lib.hid ho4
        have HB4 := Lib.hid (below_next HB2.out hb4)
        clear ho4 hb4 hix
        go_wp2_with fail
        go_roundw
        case rel => exact ⟨k + 1, au4, m4, cu4, by omega, rfl, by go_num, by rw [HTK.out]; exact HO4.out.base' HB2.out.size, HB4.out⟩
        case measure => simp [intOf]; omega
      · have hd : decide ((k : Int) < 17) = false := decide_eq_false (by omega)
        have HE := Lib.hid (show (ts.take k).flatMap putI = putJ j by rw [List.take_of_length_le (by rw [HTL.out]; omega), HPJ.out])
        have HLJ := Lib.hid (show (putJ j).length ≤ 170 from putJ_len hj)
        have HO2 := Lib.hid (HE.out ▸ HO.out)
        have HT2 := Lib.hid (HT.out.below HB2.out)
        have hnn : n ≤ 1099511627776 := by rw [HN.out]; exact HL.out
        have HNN := Lib.hid hnn
        clear HIY HIN HO hk hlt
        go_upto_region 10 with fail
        obtain ⟨i0, hi, hz0, hz1, hz2⟩ := info_parts info_u8
        obtain ⟨_, _, _, he1, hm⟩ := HO2.out.slice
        cases he1
        have hml : m ≤ 170 := by rw [hm]; exact HLJ.out
        have HM := Lib.hid hm
        clear hm
        have hwr : IntKind.i64.wrap ((n : Int) + (m : Int)) = (n : Int) + (m : Int) := by rw [IntKind.wrap_i64]; omega
        refine wp_region_lit ?_
        refine wpList_yield (w' := wr) (v := .slice ad n c) rfl (by first | (go_simp; done) | (go_simp; rfl)) ?_
        refine wpList_yield (w' := wr) (v := .int .i64 (n : Int)) rfl (by first | (go_simp; done) | (go_simp; rfl)) ?_
        refine wpList_yield (w' := wr) (v := .slice au m cu) rfl (by first | (go_simp; done) | (go_simp; rfl)) ?_
        refine wpList_yield (w' := wr) (v := .int .i64 (m : Int)) rfl (by first | (go_simp; done) | (go_simp; rfl)) ?_
        refine wpList_yield (w' := wr) (v := .int .i64 ((n : Int) + (m : Int))) rfl (by first | (go_simp; done) | (go_simp; rfl)) ?_
        refine wpList_make_own wr rfl _ _ 27 rfl wr.heap.size 5 i0 (.int .u8 0) 1 Tryd.underlying27 hi hz0 hz1 .i64 .i64 ((n : Int) + (m : Int)) (n + m) (by go_simp) (by go_simp) (by omega) (by rw [hz2]; omega) (by unfold maxLen; omega) (Nat.le_refl _) ?_
        intro w5 ho5 hg5
        have hb25 : Below wr.heap.size wr w5 := Below.grown (Below.refl _ _) hg5 (Nat.le_refl _) (fun k hk => by cases hk)
        have HT5 := Lib.hid (HT2.out.below hb25)
        have HB25 := Lib.hid hb25
        have HR5 := Lib.hid (OwnTxt.make ho5)
        clear hb25 ho5 hg5
        refine wpList_yield (w' := w5) (v := .slice ad n c) rfl (by first | (go_simp; done) | (go_simp; rfl)) ?_
        refine wpList_append_txt rfl _ _ rfl wr.heap.size _ [] (by go_simp) HR5.out _ xs (by go_simp) HT5.out (by have := HL.out; simp; omega) HB25.out.size ?_
        intro ad6 n6 c6 w6 ho6 hb6 hg6
        have HB26 := Lib.hid (HB25.out.trans hb6)
        have HO6 := Lib.hid ho6
        have HU6 := Lib.hid (HO2.out.at.below HB26.out)
        clear ho6 hb6 hg6
        refine wpList_yield (w' := w6) (v := .slice au m cu) rfl (by first | (go_simp; done) | (go_simp; rfl)) ?_
        refine wpList_append_txt rfl _ _ rfl wr.heap.size _ xs (by go_simp) HO6.out _ (putJ j) (by go_simp) HU6.out (by have := HL.out; have := HLJ.out; omega) HB26.out.size ?_
        intro ad7 n7 c7' w7 ho7 hb7 hg7
        have HO7 := Lib.hid (ho7.base' HB2.out.size)
        have HB7 := Lib.hid (below_next HB2.out (HB26.out.trans hb7))
        clear ho7 hb7 hg7
        go_wp2
        go_ret
        exact ⟨_, rfl, HO7.out, HB7.out⟩
  | true =>
    rw [hh] at c7 HIX
    have HIY := Lib.hid (HIX.out 1 rfl)
    clear HIX hb
    go_wp2_with fail
    go_loopw [6, 47] (fun b i wr => ∃ (k : Nat) (au : Option Addr) (m cu : Nat), k ≤ 17 ∧ b = .slice au m cu ∧ i = .int .i64 k ∧ OwnTxt wr w.heap.size (.slice au m cu) ((ts.take k).flatMap putI) ∧ Below w.heap.size w wr) (fun _ i _ => 17 - (intOf i).toNat)
    case atStart => exact ⟨0, none, 0, 0, Nat.zero_le _, rfl, rfl, OwnTxt.nil, HB.out⟩
    case round =>
      obtain ⟨k, au, m, cu, hk, rfl, rfl, ho, hb⟩ := hrel
      have HO := Lib.hid ho
      have HB2 := Lib.hid hb
      clear ho hb
      by_cases hlt : k < 17
      · have hd : decide ((k : Int) < 17) = true := decide_eq_true (by omega)
        have hkl : k < ts.length := by rw [HTL.out]; exact hlt
        have htk : ts.take (k + 1) = ts.take k ++ [ts.getD k 0] := by
          rw [List.take_add_one]; simp [List.getD, hkl]
        have hmem : ts.getD k 0 ∈ ts := by simp [List.getD, hkl]
        have hix := HIY.out k hlt wr
        have hlen : ((ts.take k).flatMap putI).length ≤ 1099511627776 := by
          have := flat_le (ts.take k) (fun x hx => HIN.out x (List.mem_of_mem_take hx))
          have h2 : (ts.take k).length ≤ 17 := by simp; omega
          omega
        have KP := Lib.hid (putint_any HO.out.at hlen (HIN.out _ hmem))
        have HTK := Lib.hid (show (ts.take (k + 1)).flatMap putI = (ts.take k).flatMap putI ++ putI (ts.getD k 0) by rw [htk, List.flatMap_append]; simp)
        clear htk hlen hkl hmem
        generalize ts.getD k 0 = x at *
        go_wp2_with fail
        ((with_reducible refine KP.out.mono ?_))
        rintro e w4 ⟨u4, rfl, ho4, hb4⟩
        obtain ⟨au4, m4, cu4, rfl, hm4⟩ := ho4.slice
        clear hm4
        have HO4 := Lib.hid ho4
        have HB4 := Lib.hid (below_next HB2.out hb4)
        clear ho4 hb4 hix
        go_wp2_with fail
        go_roundw
        case rel => exact ⟨k + 1, au4, m4, cu4, by omega, rfl, by go_num, by rw [HTK.out]; exact HO4.out.base' HB2.out.size, HB4.out⟩
        case measure => simp [intOf]; omega
      · have hd : decide ((k : Int) < 17) = false := decide_eq_false (by omega)
        have HE := Lib.hid (show (ts.take k).flatMap putI = putJ j by rw [List.take_of_length_le (by rw [HTL.out]; omega), HPJ.out])
        have HLJ := Lib.hid (show (putJ j).length ≤ 170 from putJ_len hj)
        have HO2 := Lib.hid (HE.out ▸ HO.out)
        have HT2 := Lib.hid (HT.out.below HB2.out)
        have hnn : n ≤ 1099511627776 := by rw [HN.out]; exact HL.out
        have HNN := Lib.hid hnn
        clear HIY HIN HO hk hlt
        go_upto_region 10 with fail
        obtain ⟨i0, hi, hz0, hz1, hz2⟩ := info_parts info_u8
        obtain ⟨_, _, _, he1, hm⟩ := HO2.out.slice
        cases he1
        have hml : m ≤ 170 := by rw [hm]; exact HLJ.out
        have HM := Lib.hid hm
        clear hm
        have hwr : IntKind.i64.wrap ((n : Int) + (m : Int)) = (n : Int) + (m : Int) := by rw [IntKind.wrap_i64]; omega
        refine wp_region_lit ?_
        refine wpList_yield (w' := wr) (v := .slice ad n c) rfl (by first | (go_simp; done) | (go_simp; rfl)) ?_
        refine wpList_yield (w' := wr) (v := .int .i64 (n : Int)) rfl (by first | (go_simp; done) | (go_simp; rfl)) ?_
        refine wpList_yield (w' := wr) (v := .slice au m cu) rfl (by first | (go_simp; done) | (go_simp; rfl)) ?_
        refine wpList_yield (w' := wr) (v := .int .i64 (m : Int)) rfl (by first | (go_simp; done) | (go_simp; rfl)) ?_
        refine wpList_yield (w' := wr) (v := .int .i64 ((n : Int) + (m : Int))) rfl (by first | (go_simp; done) | (go_simp; rfl)) ?_
        refine wpList_make_own wr rfl _ _ 27 rfl wr.heap.size 5 i0 (.int .u8 0) 1 Tryd.underlying27 hi hz0 hz1 .i64 .i64 ((n : Int) + (m : Int)) (n + m) (by go_simp) (by go_simp) (by omega) (by rw [hz2]; omega) (by unfold maxLen; omega) (Nat.le_refl _) ?_
        intro w5 ho5 hg5
        have hb25 : Below wr.heap.size wr w5 := Below.grown (Below.refl _ _) hg5 (Nat.le_refl _) (fun k hk => by cases hk)
        have HT5 := Lib.hid (HT2.out.below hb25)
        have HB25 := Lib.hid hb25
        have HR5 := Lib.hid (OwnTxt.make ho5)
        clear hb25 ho5 hg5
        refine wpList_yield (w' := w5) (v := .slice ad n c) rfl (by first | (go_simp; done) | (go_simp; rfl)) ?_
        refine wpList_append_txt rfl _ _ rfl wr.heap.size _ [] (by go_simp) HR5.out _ xs (by go_simp) HT5.out (by have := HL.out; simp; omega) HB25.out.size ?_
        intro ad6 n6 c6 w6 ho6 hb6 hg6
        have HB26 := Lib.hid (HB25.out.trans hb6)
        have HO6 := Lib.hid ho6
        have HU6 := Lib.hid (HO2.out.at.below HB26.out)
        clear ho6 hb6 hg6
        refine wpList_yield (w' := w6) (v := .slice au m cu) rfl (by first | (go_simp; done) | (go_simp; rfl)) ?_
        refine wpList_append_txt rfl _ _ rfl wr.heap.size _ xs (by go_simp) HO6.out _ (putJ j) (by go_simp) HU6.out (by have := HL.out; have := HLJ.out; omega) HB26.out.size ?_
        intro ad7 n7 c7' w7 ho7 hb7 hg7
        have HO7 := Lib.hid (ho7.base' HB2.out.size)
        have HB7 := Lib.hid (below_next HB2.out (HB26.out.trans hb7))
        clear ho7 hb7 hg7
        go_wp2
        go_ret
        exact ⟨_, rfl, HO7.out, HB7.out⟩
end Go.Proofs.YtgeldpfojmkdbaaDoor
namespace Go.Proofs.YtgeldpfojmkdbaaDoor
set_option linter.unusedVariables false
open Go.ChangeShapes Go.WideShapes Go.ChangeAt Go.RowKit
attribute [local go_sem ↓] Go.wp_at_zero Go.wp_at_succ comesTo_value_eq comesTo_skip_eq comesTo_enter_eq Rl.comesToR_value_eq Rl.comesToR_skip_eq Rl.comesToR_enter_eq

/-- a number as a set -/
def setOf (x : Int) : NSet := BitVec.ofInt 64 x
theorem nv_setOf (x : Int) : nv (setOf x) = IntKind.u64.wrap x := by
  unfold nv setOf
  rw [BitVec.toNat_ofInt, IntKind.wrap_u64]
  omega
/-- what is read: what is left, and a job -/
def readJ (bs : List Int) : CS × JobV :=
  let a0 := intF ⟨bs, 0⟩
  let a1 := intF a0.1
  let a2 := intF a1.1
  let a3 := intF a2.1
  let a4 := intF a3.1
  let a5 := intF a4.1
  let a6 := intF a5.1
  let a7 := smallF a6.1 1
  let a8 := intF a7.1
  let a9 := intF a8.1
  let a10 := intF a9.1
  let a11 := intF a10.1
  let a12 := intF a11.1
  let a13 := intF a12.1
  let a14 := intF a13.1
  let a15 := intF a14.1
  let a16 := intF a15.1
  (a16.1, ⟨a0.2, a1.2, a2.2, a3.2, a4.2, a5.2, a6.2, a7.2 == 1, a8.2, a9.2, a10.2, a11.2, a12.2, setOf a13.2, setOf a14.2, a15.2, a16.2⟩)
def okJ (bs : List Int) : Bool := ((readJ bs).1.bad == 0) && rightB (readJ bs).2
def gotJ (bs : List Int) : JobV := if okJ bs then (readJ bs).2 else job0
def cntJ (bs : List Int) : Int := if okJ bs then (bs.length : Int) - ((readJ bs).1.xs.length : Int) else 0
def codeJ (bs : List Int) : Int := if okJ bs then 0 else 11
/-- a reading under way: the cursor, the result's box, the pointer's, the job's -/
structure RdS (w W : World) (C P Q : Nat) (st : CS) (l : List Value) : Prop where
  cur : Cur W C (fun b => w.heap.size + 1 ≤ b ∧ b < P) st
  res : W.heap[w.heap.size]? = some (.cells #[.int .i64 0, .int .i64 0, .int .i64 0, .int .i64 0, .int .i64 0, .int .i64 0, .int .i64 0, .bool false, .int .i64 0, .int .i64 0, .int .i64 0, .int .i64 0, .int .i64 0, .int .u64 0, .int .u64 0, .int .i64 0, .int .i64 0] 26 (0, 0))
  ptr : W.heap[P]? = some (.cells #[.pointer (some ⟨C, 0, none⟩)] 50 (0, 0))
  job : W.heap[Q]? = some (.cells l.toArray 26 (0, 0))
  bel : Below w.heap.size w W
  hi : P < Q
theorem RdS.fr {w W W' : World} {C P Q : Nat} {st st' : CS} {l : List Value} (h : RdS w W C P Q st l) (hf : Fr (fun j => j = C) W W') (hc : Cur W' C (fun b => w.heap.size + 1 ≤ b ∧ b < P) st') : RdS w W' C P Q st' l := by
  have hm := h.cur.mem
  have h1 := (Array.getElem?_eq_some_iff.1 h.res).1
  have h2 := (Array.getElem?_eq_some_iff.1 h.ptr).1
  have h3 := (Array.getElem?_eq_some_iff.1 h.job).1
  have h4 := h.hi
  exact ⟨hc, (hf.block _ h1 (by omega)).trans h.res, (hf.block _ h2 (by omega)).trans h.ptr, (hf.block _ h3 (by omega)).trans h.job, h.bel.trans (hf.below h.bel.size fun b hb => by subst hb; omega), h.hi⟩
theorem RdS.below {w W W' : World} {C P Q : Nat} {st : CS} {l : List Value} (h : RdS w W C P Q st l) (hb : Below W.heap.size W W') : RdS w W' C P Q st l :=
  ⟨h.cur.below hb, (hb.block _ (Array.getElem?_eq_some_iff.1 h.res).1).trans h.res, (hb.block _ (Array.getElem?_eq_some_iff.1 h.ptr).1).trans h.ptr, (hb.block _ (Array.getElem?_eq_some_iff.1 h.job).1).trans h.job, below_next h.bel hb, h.hi⟩
theorem RdS.set {w W : World} {C P Q : Nat} {st : CS} {l : List Value} (h : RdS w W C P Q st l) (k : Nat) (v : Value) : RdS w (W.setCell ⟨Q, k, none⟩ v) C P Q st (l.set k v) := by
  have hw := (wrote_refl h.job).set k v
  have hm := h.cur.mem
  have h4 := h.hi
  refine ⟨Fr.cur (G := fun b => b = Q) h.cur ((Fr.refl (fun b => b = Q) W).set (show (fun b => b = Q) Q from rfl) _ _) (fun b hb _ he => by have := hb.2; omega), (hw.rest _ (by omega)).trans h.res, (hw.rest _ (by omega)).trans h.ptr, ?_, hw.below h.bel (by omega), h.hi⟩
  have := hw.there
  rwa [List.setIfInBounds_toArray] at this
set_option maxRecDepth 100000 in
set_option maxHeartbeats 4000000 in
theorem num_rds {w W : World} {C P Q : Nat} {st st' : CS} {x : Int} {l : List Value} (h : RdS w W C P Q st l) (e : intF st = (st', x)) : Calls Tryd.prog 19 #[.pointer (some ⟨P, 0, none⟩)] W fun r w' => r = .returned (.int .i64 x) ∧ RdS w w' C P Q st' l := by
  have K := Lib.hid (int_cur h.cur)
  rw [e] at K
  have c0 := cell_of_block (o := 0) h.ptr rfl
  have HS := Lib.hid h
  clear h
  go_enter Tryd.func19, Tryd.ntmps19
  go_wp2_with (go_at_call 20; ((with_reducible refine K.out.mono ?_)); rintro r w' ⟨rfl, hc, hf⟩)
  go_ret
  exact ⟨rfl, HS.out.fr hf hc⟩
set_option maxRecDepth 100000 in
set_option maxHeartbeats 4000000 in
theorem mom_rds {w W : World} {C P Q : Nat} {st st' : CS} {x : Int} {l : List Value} (h : RdS w W C P Q st l) (e : intF st = (st', x)) : Calls Tryd.prog 21 #[.pointer (some ⟨P, 0, none⟩)] W fun r w' => r = .returned (.int .i64 x) ∧ RdS w w' C P Q st' l := by
  have K := Lib.hid (int_cur h.cur)
  rw [e] at K
  have c0 := cell_of_block (o := 0) h.ptr rfl
  have HS := Lib.hid h
  clear h
  go_enter Tryd.func21, Tryd.ntmps21
  go_wp2_with (go_at_call 20; ((with_reducible refine K.out.mono ?_)); rintro r w' ⟨rfl, hc, hf⟩)
  go_ret
  exact ⟨rfl, HS.out.fr hf hc⟩
theorem int_rds {w W : World} {C P Q : Nat} {st st' : CS} {x : Int} {l : List Value} (h : RdS w W C P Q st l) (e : intF st = (st', x)) : Calls Tryd.prog 20 #[.pointer (some ⟨C, 0, none⟩)] W fun r w' => r = .returned (.int .i64 x) ∧ RdS w w' C P Q st' l := by
  have K := int_cur h.cur
  rw [e] at K
  exact K.mono fun r w' ⟨h1, hc, hf⟩ => ⟨h1, h.fr hf hc⟩
theorem small_rds {w W : World} {C P Q : Nat} {st st' : CS} {x : Int} {l : List Value} (h : RdS w W C P Q st l) (e : smallF st 1 = (st', x)) : Calls Tryd.prog 22 #[.pointer (some ⟨C, 0, none⟩), .int .i64 1] W fun r w' => r = .returned (.int .i64 x) ∧ RdS w w' C P Q st' l := by
  have K := small_cur h.cur 1
  rw [e] at K
  exact K.mono fun r w' ⟨h1, hc, hf⟩ => ⟨h1, h.fr hf hc⟩
theorem comesTo_load_all {P : Program} {o : Oper} {a : Act} {W : World} {S : World → Prop} (ty : TypeId) (x : Operand) (ho : o.op = .load ty x) (b : Nat) {T : TypeId} (hx : a.eval x = .pointer (some ⟨b, 0, none⟩)) (l : List Value) (d : TypeDesc)
    (hb : W.heap[b]? = some (.cells l.toArray T (0, 0))) (hu : P.underlying ty = some d) (hd : d.isRow = true) (hi : (P.info? ty).map (·.size) = some l.length) (h : S W) : comesTo P S (.agg l.toArray) ((execOp a.eval o).run P W) := by
  unfold execOp
  simp only [ho, hx, Instr.loadAt, Instr.sureAddr, Sem.run_bind, Sem.run_pure, Result.andThen_ok, run_loadVar_mid W b 0 ty l d (range_of_block hb) hu hd hi]
  exact ⟨rfl, h⟩
theorem exec_store_all {P : Program} {op : Oper} {ρ : Operand → Value} {w : World} (ty : TypeId) (x y : Operand) (ho : op.op = .store ty x y) (b : Nat) {T : TypeId} {cs : Array Value} (l : List Value) (hx : ρ x = .pointer (some ⟨b, 0, none⟩)) (hy : ρ y = .agg l.toArray)
    (hb : w.heap[b]? = some (.cells cs T (0, 0))) (hl : l.length = cs.size) (hi : (P.info? ty).map (·.size) = some l.length) (h1 : l.all (·.oneCell') = true) : (execOp ρ op).run P w = .ok .skip (w.setCells b 0 l) := by
  unfold execOp
  simp only [ho, hx, hy, Instr.storeAt, Instr.sureAddr, Sem.run_bind, Sem.run_pure, Result.andThen_ok, run_storeVar_mid w b 0 ty l.toArray (there_of_block hb (by simp; omega)) (by simpa using hi) (by simpa using h1)]
theorem results_all3 {P : Program} {w : World} {fn : Func} {p q r : Tmp} {ty T : TypeId} {tmps : Array Value} {b : Nat} (l : List Value) (d : TypeDesc) (h : fn.results = #[.cell p ty, .tmp q, .tmp r]) (hp : tmps.getD p undef = .pointer (some ⟨b, 0, none⟩)) (hb : w.heap[b]? = some (.cells l.toArray T (0, 0)))
    (hu : P.underlying ty = some d) (hd : d.isRow = true) (hi : (P.info? ty).map (·.size) = some l.length) : (results fn tmps).run P w = .ok (.tuple #[.agg l.toArray, tmps.getD q undef, tmps.getD r undef]) w := by
  have hp' : tmps[p]?.getD undef = .pointer (some ⟨b, 0, none⟩) := by simpa using hp
  simp [results, h, hp', asAddr, run_loadVar_mid w b 0 ty l d (range_of_block hb) hu hd hi]
set_option maxRecDepth 100000 in
set_option maxHeartbeats 4000000 in
theorem jread_any {ad : Option Addr} {n c : Nat} {bs : List Int} {w : World} (ht : TxtAt w (.slice ad n c) bs) (hl : bs.length ≤ 1099511627775) (hE : ErrAt w) : Calls Tryd.prog 5 #[.slice ad n c] w fun e w' => e = .returned (.tuple #[.agg (jobC (gotJ bs)).toArray, .int .i64 (cntJ bs), .int .i64 (codeJ bs)]) ∧ Below w.heap.size w w' := by
  have hmx : Tryd.prog.follows .mixedOrders = true := by kernel_rfl
  have HN := Lib.hid ht.form.1
  have HLB := Lib.hid hl
  have hA0 := below_alloc (Below.refl _ w) (.cells #[.int .i64 0, .int .i64 0, .int .i64 0, .int .i64 0, .int .i64 0, .int .i64 0, .int .i64 0, .bool false, .int .i64 0, .int .i64 0, .int .i64 0, .int .i64 0, .int .i64 0, .int .u64 0, .int .u64 0, .int .i64 0, .int .i64 0] 26)
  obtain ⟨s1, x0, e0⟩ : ∃ s x, intF (⟨bs, 0⟩ : CS) = (s, x) := ⟨_, _, rfl⟩
  obtain ⟨s2, x1, e1⟩ : ∃ s x, intF s1 = (s, x) := ⟨_, _, rfl⟩
  obtain ⟨s3, x2, e2⟩ : ∃ s x, intF s2 = (s, x) := ⟨_, _, rfl⟩
  obtain ⟨s4, x3, e3⟩ : ∃ s x, intF s3 = (s, x) := ⟨_, _, rfl⟩
  obtain ⟨s5, x4, e4⟩ : ∃ s x, intF s4 = (s, x) := ⟨_, _, rfl⟩
  obtain ⟨s6, x5, e5⟩ : ∃ s x, intF s5 = (s, x) := ⟨_, _, rfl⟩
  obtain ⟨s7, x6, e6⟩ : ∃ s x, intF s6 = (s, x) := ⟨_, _, rfl⟩
  obtain ⟨s8, x7, e7⟩ : ∃ s x, smallF s7 1 = (s, x) := ⟨_, _, rfl⟩
  obtain ⟨s9, x8, e8⟩ : ∃ s x, intF s8 = (s, x) := ⟨_, _, rfl⟩
  obtain ⟨s10, x9, e9⟩ : ∃ s x, intF s9 = (s, x) := ⟨_, _, rfl⟩
  obtain ⟨s11, x10, e10⟩ : ∃ s x, intF s10 = (s, x) := ⟨_, _, rfl⟩
  obtain ⟨s12, x11, e11⟩ : ∃ s x, intF s11 = (s, x) := ⟨_, _, rfl⟩
  obtain ⟨s13, x12, e12⟩ : ∃ s x, intF s12 = (s, x) := ⟨_, _, rfl⟩
  obtain ⟨s14, x13, e13⟩ : ∃ s x, intF s13 = (s, x) := ⟨_, _, rfl⟩
  obtain ⟨s15, x14, e14⟩ : ∃ s x, intF s14 = (s, x) := ⟨_, _, rfl⟩
  obtain ⟨s16, x15, e15⟩ : ∃ s x, intF s15 = (s, x) := ⟨_, _, rfl⟩
  obtain ⟨s17, x16, e16⟩ : ∃ s x, intF s16 = (s, x) := ⟨_, _, rfl⟩
  have hrd : readJ bs = (s17, ⟨x0, x1, x2, x3, x4, x5, x6, x7 == 1, x8, x9, x10, x11, x12, setOf x13, setOf x14, x15, x16⟩) := by simp only [readJ, e0, e1, e2, e3, e4, e5, e6, e7, e8, e9, e10, e11, e12, e13, e14, e15, e16]
  have HRD := Lib.hid hrd
  clear hrd
  have E0 := Lib.hid e0
  have E1 := Lib.hid e1
  have E2 := Lib.hid e2
  have E3 := Lib.hid e3
  have E4 := Lib.hid e4
  have E5 := Lib.hid e5
  have E6 := Lib.hid e6
  have E7 := Lib.hid e7
  have E8 := Lib.hid e8
  have E9 := Lib.hid e9
  have E10 := Lib.hid e10
  have E11 := Lib.hid e11
  have E12 := Lib.hid e12
  have E13 := Lib.hid e13
  have E14 := Lib.hid e14
  have E15 := Lib.hid e15
  have E16 := Lib.hid e16
  clear e0 e1 e2 e3 e4 e5 e6 e7 e8 e9 e10 e11 e12 e13 e14 e15 e16
  go_enter Tryd.func5, Tryd.ntmps5
  go_upto_region 1 with fail
  have hR0 := World.alloc_heap_new w (.cells #[.int .i64 0, .int .i64 0, .int .i64 0, .int .i64 0, .int .i64 0, .int .i64 0, .int .i64 0, .bool false, .int .i64 0, .int .i64 0, .int .i64 0, .int .i64 0, .int .i64 0, .int .u64 0, .int .u64 0, .int .i64 0, .int .i64 0] 26)
  have hsU : (w.alloc (.cells #[.int .i64 0, .int .i64 0, .int .i64 0, .int .i64 0, .int .i64 0, .int .i64 0, .int .i64 0, .bool false, .int .i64 0, .int .i64 0, .int .i64 0, .int .i64 0, .int .i64 0, .int .u64 0, .int .u64 0, .int .i64 0, .int .i64 0] 26)).heap.size = w.heap.size + 1 := by simp
  generalize w.alloc (.cells #[.int .i64 0, .int .i64 0, .int .i64 0, .int .i64 0, .int .i64 0, .int .i64 0, .int .i64 0, .bool false, .int .i64 0, .int .i64 0, .int .i64 0, .int .i64 0, .int .i64 0, .int .u64 0, .int .u64 0, .int .i64 0, .int .i64 0] 26) = U at *
  have KR := Lib.hid (read_cur (ht.below hA0) hl)
  have HSU := Lib.hid hsU
  have HA0 := Lib.hid hA0
  have HR0 := Lib.hid hR0
  have HE := Lib.hid hE
  clear ht hl hA0 hsU hR0 hE
  refine wp_region_lit ?_
  refine wpList_yield (w' := U) (v := .slice ad n c) rfl (by go_simp) ?_
  refine wpList_enter rfl (by go_simp) KR.out ?_
  rintro e w1 ⟨C, rfl, hc, hb⟩
  refine ⟨_, rfl, ?_⟩
  have HB1 := Lib.hid (below_next HA0.out hb)
  have HR1 := Lib.hid ((hb.block w.heap.size (by have := HSU.out; omega)).trans HR0.out)
  have HS1 := Lib.hid (show w.heap.size + 1 ≤ w1.heap.size by have := hb.size; have := HSU.out; omega)
  have HC1 := Lib.hid hc.tight
  clear hb hc KR HA0 HR0
  go_upto_region 5 with fail
  have hV : RdS w ((w1.alloc (.cells #[.pointer (some ⟨C, 0, none⟩)] 50)).alloc (.cells #[.int .i64 0, .int .i64 0, .int .i64 0, .int .i64 0, .int .i64 0, .int .i64 0, .int .i64 0, .bool false, .int .i64 0, .int .i64 0, .int .i64 0, .int .i64 0, .int .i64 0, .int .u64 0, .int .u64 0, .int .i64 0, .int .i64 0] 26)) C w1.heap.size (w1.heap.size + 1) ⟨bs, 0⟩ [.int .i64 0, .int .i64 0, .int .i64 0, .int .i64 0, .int .i64 0, .int .i64 0, .int .i64 0, .bool false, .int .i64 0, .int .i64 0, .int .i64 0, .int .i64 0, .int .i64 0, .int .u64 0, .int .u64 0, .int .i64 0, .int .i64 0] := by
    have a1 := below_alloc (Below.refl _ w1) (.cells #[.pointer (some ⟨C, 0, none⟩)] 50)
    have a2 := below_alloc (Below.refl _ (w1.alloc (.cells #[.pointer (some ⟨C, 0, none⟩)] 50))) (.cells #[.int .i64 0, .int .i64 0, .int .i64 0, .int .i64 0, .int .i64 0, .int .i64 0, .int .i64 0, .bool false, .int .i64 0, .int .i64 0, .int .i64 0, .int .i64 0, .int .i64 0, .int .u64 0, .int .u64 0, .int .i64 0, .int .i64 0] 26)
    have a := below_next a1 a2
    refine ⟨(HC1.out.below a).more (fun b hb => by have := HSU.out; omega), (a.block _ (by have := HS1.out; omega)).trans HR1.out, (a2.block _ (by simp)).trans (World.alloc_heap_new w1 _), ?_, below_next HB1.out a, by omega⟩
    have := World.alloc_heap_new (w1.alloc (.cells #[.pointer (some ⟨C, 0, none⟩)] 50)) (.cells #[.int .i64 0, .int .i64 0, .int .i64 0, .int .i64 0, .int .i64 0, .int .i64 0, .int .i64 0, .bool false, .int .i64 0, .int .i64 0, .int .i64 0, .int .i64 0, .int .i64 0, .int .u64 0, .int .u64 0, .int .i64 0, .int .i64 0] 26)
    rwa [show (w1.alloc (.cells #[.pointer (some ⟨C, 0, none⟩)] 50)).heap.size = w1.heap.size + 1 by simp] at this
  have HSa := Lib.hid hV
  have HE1 := Lib.hid HE.out
  clear hV HC1 HB1 HR1 HSU HS1 HE1
  generalize (w1.alloc (.cells #[.pointer (some ⟨C, 0, none⟩)] 50)).alloc (.cells #[.int .i64 0, .int .i64 0, .int .i64 0, .int .i64 0, .int .i64 0, .int .i64 0, .int .i64 0, .bool false, .int .i64 0, .int .i64 0, .int .i64 0, .int .i64 0, .int .i64 0, .int .u64 0, .int .u64 0, .int .i64 0, .int .i64 0] 26) = Wa at *
  generalize w1.heap.size = P at *
  refine wp_region_lit ?_
  refine wpList_yield (w' := Wa) (v := .func (.func 19) #[] #[.pointer (some ⟨P, 0, none⟩)]) rfl (by go_simp) ?_
  refine wpList_enter rfl (by go_simp) (num_rds HSa.out E0.out) ?_
  rintro e W2 ⟨rfl, hs⟩
  refine ⟨_, rfl, ?_⟩
  have HS2 := Lib.hid hs
  clear hs HSa
  refine wpList_yield (w' := W2) (v := .func (.func 19) #[] #[.pointer (some ⟨P, 0, none⟩)]) rfl (by go_simp) ?_
  refine wpList_enter rfl (by go_simp) (num_rds HS2.out E1.out) ?_
  rintro e W3 ⟨rfl, hs⟩
  refine ⟨_, rfl, ?_⟩
  have HS3 := Lib.hid hs
  clear hs HS2
  refine wpList_yield (w' := W3) (v := .func (.func 19) #[] #[.pointer (some ⟨P, 0, none⟩)]) rfl (by go_simp) ?_
  refine wpList_enter rfl (by go_simp) (num_rds HS3.out E2.out) ?_
  rintro e W4 ⟨rfl, hs⟩
  refine ⟨_, rfl, ?_⟩
  have HS4 := Lib.hid hs
  clear hs HS3
  refine wpList_yield (w' := W4) (v := .func (.func 19) #[] #[.pointer (some ⟨P, 0, none⟩)]) rfl (by go_simp) ?_
  refine wpList_enter rfl (by go_simp) (num_rds HS4.out E3.out) ?_
  rintro e W5 ⟨rfl, hs⟩
  refine ⟨_, rfl, ?_⟩
  have HS5 := Lib.hid hs
  clear hs HS4
  have c0 := cell_of_block (o := 0) HS5.out.job rfl
  have f0 := free_of_block 0 HS5.out.job
  have c1 := cell_of_block (o := 1) HS5.out.job rfl
  have f1 := free_of_block 1 HS5.out.job
  have c2 := cell_of_block (o := 2) HS5.out.job rfl
  have f2 := free_of_block 2 HS5.out.job
  have c3 := cell_of_block (o := 3) HS5.out.job rfl
  have f3 := free_of_block 3 HS5.out.job
  go_upto_region 6 with fail
  have HS6 := Lib.hid (show RdS w (((((W5).setCell ⟨P + 1, 0, none⟩ (.int .i64 x0)).setCell ⟨P + 1, 1, none⟩ (.int .i64 x1)).setCell ⟨P + 1, 2, none⟩ (.int .i64 x2)).setCell ⟨P + 1, 3, none⟩ (.int .i64 x3)) C P (P + 1) s4 [.int .i64 x0, .int .i64 x1, .int .i64 x2, .int .i64 x3, .int .i64 0, .int .i64 0, .int .i64 0, .bool false, .int .i64 0, .int .i64 0, .int .i64 0, .int .i64 0, .int .i64 0, .int .u64 0, .int .u64 0, .int .i64 0, .int .i64 0] from ((((HS5.out).set 0 (.int .i64 x0)).set 1 (.int .i64 x1)).set 2 (.int .i64 x2)).set 3 (.int .i64 x3))
  clear HS5 c0 f0 c1 f1 c2 f2 c3 f3
  generalize ((((W5).setCell ⟨P + 1, 0, none⟩ (.int .i64 x0)).setCell ⟨P + 1, 1, none⟩ (.int .i64 x1)).setCell ⟨P + 1, 2, none⟩ (.int .i64 x2)).setCell ⟨P + 1, 3, none⟩ (.int .i64 x3) = W6 at *
  refine wp_region_lit ?_
  refine wpList_yield (w' := W6) (v := .func (.func 21) #[] #[.pointer (some ⟨P, 0, none⟩)]) rfl (by go_simp) ?_
  refine wpList_enter rfl (by go_simp) (mom_rds HS6.out E4.out) ?_
  rintro e W7 ⟨rfl, hs⟩
  refine ⟨_, rfl, ?_⟩
  have HS7 := Lib.hid hs
  clear hs HS6
  refine wpList_yield (w' := W7) (v := .func (.func 19) #[] #[.pointer (some ⟨P, 0, none⟩)]) rfl (by go_simp) ?_
  refine wpList_enter rfl (by go_simp) (num_rds HS7.out E5.out) ?_
  rintro e W8 ⟨rfl, hs⟩
  refine ⟨_, rfl, ?_⟩
  have HS8 := Lib.hid hs
  clear hs HS7
  refine wpList_yield (w' := W8) (v := .func (.func 19) #[] #[.pointer (some ⟨P, 0, none⟩)]) rfl (by go_simp) ?_
  refine wpList_enter rfl (by go_simp) (num_rds HS8.out E6.out) ?_
  rintro e W9 ⟨rfl, hs⟩
  refine ⟨_, rfl, ?_⟩
  have HS9 := Lib.hid hs
  clear hs HS8
  have c4 := cell_of_block (o := 4) HS9.out.job rfl
  have f4 := free_of_block 4 HS9.out.job
  have c5 := cell_of_block (o := 5) HS9.out.job rfl
  have f5 := free_of_block 5 HS9.out.job
  have c6 := cell_of_block (o := 6) HS9.out.job rfl
  have f6 := free_of_block 6 HS9.out.job
  go_upto_region 7 with fail
  have HS10 := Lib.hid (show RdS w ((((W9).setCell ⟨P + 1, 4, none⟩ (.int .i64 x4)).setCell ⟨P + 1, 5, none⟩ (.int .i64 x5)).setCell ⟨P + 1, 6, none⟩ (.int .i64 x6)) C P (P + 1) s7 [.int .i64 x0, .int .i64 x1, .int .i64 x2, .int .i64 x3, .int .i64 x4, .int .i64 x5, .int .i64 x6, .bool false, .int .i64 0, .int .i64 0, .int .i64 0, .int .i64 0, .int .i64 0, .int .u64 0, .int .u64 0, .int .i64 0, .int .i64 0] from (((HS9.out).set 4 (.int .i64 x4)).set 5 (.int .i64 x5)).set 6 (.int .i64 x6))
  clear HS9 c4 f4 c5 f5 c6 f6
  generalize (((W9).setCell ⟨P + 1, 4, none⟩ (.int .i64 x4)).setCell ⟨P + 1, 5, none⟩ (.int .i64 x5)).setCell ⟨P + 1, 6, none⟩ (.int .i64 x6) = W10 at *
  have cp := cell_of_block (o := 0) HS10.out.ptr rfl
  refine wp_region_lit ?_
  refine wpList_yield (w' := W10) (v := .pointer (some ⟨C, 0, none⟩)) rfl (by go_simp) ?_
  refine wpList_enter rfl (by go_simp) (small_rds HS10.out E7.out) ?_
  rintro e W11 ⟨rfl, hs⟩
  refine ⟨_, rfl, ?_⟩
  have HS11 := Lib.hid hs
  clear hs cp HS10
  have c7 := cell_of_block (o := 7) HS11.out.job rfl
  have f7 := free_of_block 7 HS11.out.job
  go_upto_region 8 with fail
  have HS12 := Lib.hid (show RdS w ((W11).setCell ⟨P + 1, 7, none⟩ (.bool (x7 == 1))) C P (P + 1) s8 [.int .i64 x0, .int .i64 x1, .int .i64 x2, .int .i64 x3, .int .i64 x4, .int .i64 x5, .int .i64 x6, .bool (x7 == 1), .int .i64 0, .int .i64 0, .int .i64 0, .int .i64 0, .int .i64 0, .int .u64 0, .int .u64 0, .int .i64 0, .int .i64 0] from (HS11.out).set 7 (.bool (x7 == 1)))
  clear HS11 c7 f7
  generalize (W11).setCell ⟨P + 1, 7, none⟩ (.bool (x7 == 1)) = W12 at *
  refine wp_region_lit ?_
  refine wpList_yield (w' := W12) (v := .func (.func 19) #[] #[.pointer (some ⟨P, 0, none⟩)]) rfl (by go_simp) ?_
  refine wpList_enter rfl (by go_simp) (num_rds HS12.out E8.out) ?_
  rintro e W13 ⟨rfl, hs⟩
  refine ⟨_, rfl, ?_⟩
  have HS13 := Lib.hid hs
  clear hs HS12
  have c8 := cell_of_block (o := 8) HS13.out.job rfl
  have f8 := free_of_block 8 HS13.out.job
  go_upto_region 9 with fail
  have HS14 := Lib.hid (show RdS w ((W13).setCell ⟨P + 1, 8, none⟩ (.int .i64 x8)) C P (P + 1) s9 [.int .i64 x0, .int .i64 x1, .int .i64 x2, .int .i64 x3, .int .i64 x4, .int .i64 x5, .int .i64 x6, .bool (x7 == 1), .int .i64 x8, .int .i64 0, .int .i64 0, .int .i64 0, .int .i64 0, .int .u64 0, .int .u64 0, .int .i64 0, .int .i64 0] from (HS13.out).set 8 (.int .i64 x8))
  clear HS13 c8 f8
  generalize (W13).setCell ⟨P + 1, 8, none⟩ (.int .i64 x8) = W14 at *
  refine wp_region_lit ?_
  refine wpList_yield (w' := W14) (v := .func (.func 21) #[] #[.pointer (some ⟨P, 0, none⟩)]) rfl (by go_simp) ?_
  refine wpList_enter rfl (by go_simp) (mom_rds HS14.out E9.out) ?_
  rintro e W15 ⟨rfl, hs⟩
  refine ⟨_, rfl, ?_⟩
  have HS15 := Lib.hid hs
  clear hs HS14
  refine wpList_yield (w' := W15) (v := .func (.func 21) #[] #[.pointer (some ⟨P, 0, none⟩)]) rfl (by go_simp) ?_
  refine wpList_enter rfl (by go_simp) (mom_rds HS15.out E10.out) ?_
  rintro e W16 ⟨rfl, hs⟩
  refine ⟨_, rfl, ?_⟩
  have HS16 := Lib.hid hs
  clear hs HS15
  refine wpList_yield (w' := W16) (v := .func (.func 21) #[] #[.pointer (some ⟨P, 0, none⟩)]) rfl (by go_simp) ?_
  refine wpList_enter rfl (by go_simp) (mom_rds HS16.out E11.out) ?_
  rintro e W17 ⟨rfl, hs⟩
  refine ⟨_, rfl, ?_⟩
  have HS17 := Lib.hid hs
  clear hs HS16
  have c9 := cell_of_block (o := 9) HS17.out.job rfl
  have f9 := free_of_block 9 HS17.out.job
  have c10 := cell_of_block (o := 10) HS17.out.job rfl
  have f10 := free_of_block 10 HS17.out.job
  have c11 := cell_of_block (o := 11) HS17.out.job rfl
  have f11 := free_of_block 11 HS17.out.job
  go_upto_region 10 with fail
  have HS18 := Lib.hid (show RdS w ((((W17).setCell ⟨P + 1, 9, none⟩ (.int .i64 x9)).setCell ⟨P + 1, 10, none⟩ (.int .i64 x10)).setCell ⟨P + 1, 11, none⟩ (.int .i64 x11)) C P (P + 1) s12 [.int .i64 x0, .int .i64 x1, .int .i64 x2, .int .i64 x3, .int .i64 x4, .int .i64 x5, .int .i64 x6, .bool (x7 == 1), .int .i64 x8, .int .i64 x9, .int .i64 x10, .int .i64 x11, .int .i64 0, .int .u64 0, .int .u64 0, .int .i64 0, .int .i64 0] from (((HS17.out).set 9 (.int .i64 x9)).set 10 (.int .i64 x10)).set 11 (.int .i64 x11))
  clear HS17 c9 f9 c10 f10 c11 f11
  generalize (((W17).setCell ⟨P + 1, 9, none⟩ (.int .i64 x9)).setCell ⟨P + 1, 10, none⟩ (.int .i64 x10)).setCell ⟨P + 1, 11, none⟩ (.int .i64 x11) = W18 at *
  refine wp_region_lit ?_
  refine wpList_yield (w' := W18) (v := .func (.func 19) #[] #[.pointer (some ⟨P, 0, none⟩)]) rfl (by go_simp) ?_
  refine wpList_enter rfl (by go_simp) (num_rds HS18.out E12.out) ?_
  rintro e W19 ⟨rfl, hs⟩
  refine ⟨_, rfl, ?_⟩
  have HS19 := Lib.hid hs
  clear hs HS18
  have c12 := cell_of_block (o := 12) HS19.out.job rfl
  have f12 := free_of_block 12 HS19.out.job
  go_upto_region 11 with fail
  have HS20 := Lib.hid (show RdS w ((W19).setCell ⟨P + 1, 12, none⟩ (.int .i64 x12)) C P (P + 1) s13 [.int .i64 x0, .int .i64 x1, .int .i64 x2, .int .i64 x3, .int .i64 x4, .int .i64 x5, .int .i64 x6, .bool (x7 == 1), .int .i64 x8, .int .i64 x9, .int .i64 x10, .int .i64 x11, .int .i64 x12, .int .u64 0, .int .u64 0, .int .i64 0, .int .i64 0] from (HS19.out).set 12 (.int .i64 x12))
  clear HS19 c12 f12
  generalize (W19).setCell ⟨P + 1, 12, none⟩ (.int .i64 x12) = W20 at *
  have HSd := Lib.hid (HS20.out.below (show Below (W20).heap.size W20 (W20).drew from (Below.refl _ _).drew))
  clear HS20
  refine wp_region_held (S := fun X => X.cell? ⟨P, 0, none⟩ = some (.pointer (some ⟨C, 0, none⟩))) hmx ?_
  have hcp := cell_of_block (o := 0) HSd.out.ptr rfl
  change wpAnyH _ _ _ _ _ 10 _ _ (W20).drew
  generalize (W20).drew = Wd at *
  refine wpAnyH_take (i := 0) (v := .pointer (some ⟨C, 0, none⟩)) rfl (by decide +kernel) (by decide +kernel) (by decide +kernel) (fun _ _ _ h => h) (.inl ⟨by first | rfl | (go_simp; done), fun X hX => by first | (go_simp; done) | (go_simp; rfl)⟩) hcp ?_
  refine wpAnyH_take (i := 3) (v := .pointer (some ⟨C, 0, none⟩)) rfl (by decide +kernel) (by decide +kernel) (by decide +kernel) (fun _ _ _ h => h) (.inl ⟨by first | rfl | (go_simp; done), fun X hX => by first | (go_simp; done) | (go_simp; rfl)⟩) hcp ?_
  refine anyH_call (i := 1) (by decide +kernel) rfl (by first | rfl | (go_simp; done)) (by go_simp) (int_rds HSd.out E13.out) ?_
  rintro e We ⟨rfl, hs⟩
  have HSe := Lib.hid hs
  clear hs hcp HSd
  have hcp := cell_of_block (o := 0) HSe.out.ptr rfl
  refine ⟨_, rfl, hcp, ?_⟩
  refine wpAnyH_take (i := 2) (v := .int .u64 (IntKind.u64.wrap x13)) rfl (by decide +kernel) (by decide +kernel) (by decide +kernel) (fun _ _ _ h => h) (.inl ⟨by first | rfl | (go_simp; done), fun X hX => by first | (go_simp; done) | (go_simp; rfl)⟩) hcp ?_
  refine wpAnyH_take (i := 6) (v := .pointer (some ⟨P + 1, 13, none⟩)) rfl (by decide +kernel) (by decide +kernel) (by decide +kernel) (fun _ _ _ h => h) (.inl ⟨by first | rfl | (go_simp; done), fun X hX => by first | (go_simp; done) | (go_simp; rfl)⟩) hcp ?_
  refine anyH_call (i := 4) (by decide +kernel) rfl (by first | rfl | (go_simp; done)) (by go_simp) (int_rds HSe.out E14.out) ?_
  rintro e Wf ⟨rfl, hs⟩
  have HSf := Lib.hid hs
  clear hs hcp HSe
  have hcp := cell_of_block (o := 0) HSf.out.ptr rfl
  refine ⟨_, rfl, hcp, ?_⟩
  refine wpAnyH_take (i := 5) (v := .int .u64 (IntKind.u64.wrap x14)) rfl (by decide +kernel) (by decide +kernel) (by decide +kernel) (fun _ _ _ h => h) (.inl ⟨by first | rfl | (go_simp; done), fun X hX => by first | (go_simp; done) | (go_simp; rfl)⟩) hcp ?_
  have c0 := cell_of_block (o := 13) HSf.out.job rfl
  have f0 := free_of_block 13 HSf.out.job
  have HSg := Lib.hid (show RdS w ((Wf).setCell ⟨P + 1, 13, none⟩ (.int .u64 (IntKind.u64.wrap x13))) C P (P + 1) s15 [.int .i64 x0, .int .i64 x1, .int .i64 x2, .int .i64 x3, .int .i64 x4, .int .i64 x5, .int .i64 x6, .bool (x7 == 1), .int .i64 x8, .int .i64 x9, .int .i64 x10, .int .i64 x11, .int .i64 x12, .int .u64 (IntKind.u64.wrap x13), .int .u64 0, .int .i64 0, .int .i64 0] from HSf.out.set 13 (.int .u64 (IntKind.u64.wrap x13)))
  refine anyH_store (i := 7) (w' := (Wf).setCell ⟨P + 1, 13, none⟩ (.int .u64 (IntKind.u64.wrap x13))) (by decide +kernel) rfl (by first | rfl | (go_simp; done)) (by go_simp) (cell_of_block (o := 0) HSg.out.ptr rfl) ?_
  clear c0 f0 HSf
  generalize (Wf).setCell ⟨P + 1, 13, none⟩ (.int .u64 (IntKind.u64.wrap x13)) = Wg at *
  clear hcp
  have hcp := cell_of_block (o := 0) HSg.out.ptr rfl
  refine wpAnyH_take (i := 8) (v := .pointer (some ⟨P + 1, 14, none⟩)) rfl (by decide +kernel) (by decide +kernel) (by decide +kernel) (fun _ _ _ h => h) (.inl ⟨by first | rfl | (go_simp; done), fun X hX => by first | (go_simp; done) | (go_simp; rfl)⟩) hcp ?_
  have c0 := cell_of_block (o := 14) HSg.out.job rfl
  have f0 := free_of_block 14 HSg.out.job
  have HSh := Lib.hid (show RdS w ((Wg).setCell ⟨P + 1, 14, none⟩ (.int .u64 (IntKind.u64.wrap x14))) C P (P + 1) s15 [.int .i64 x0, .int .i64 x1, .int .i64 x2, .int .i64 x3, .int .i64 x4, .int .i64 x5, .int .i64 x6, .bool (x7 == 1), .int .i64 x8, .int .i64 x9, .int .i64 x10, .int .i64 x11, .int .i64 x12, .int .u64 (IntKind.u64.wrap x13), .int .u64 (IntKind.u64.wrap x14), .int .i64 0, .int .i64 0] from HSg.out.set 14 (.int .u64 (IntKind.u64.wrap x14)))
  refine anyH_store (i := 9) (w' := (Wg).setCell ⟨P + 1, 14, none⟩ (.int .u64 (IntKind.u64.wrap x14))) (by decide +kernel) rfl (by first | rfl | (go_simp; done)) (by go_simp) (cell_of_block (o := 0) HSh.out.ptr rfl) ?_
  clear c0 f0 HSg
  generalize (Wg).setCell ⟨P + 1, 14, none⟩ (.int .u64 (IntKind.u64.wrap x14)) = Wh at *
  refine wpAnyH_done (by decide +kernel) ?_ _
  clear hcp
  go_upto_region 12 with fail
  refine wp_region_lit ?_
  refine wpList_yield (w' := Wh) (v := .func (.func 21) #[] #[.pointer (some ⟨P, 0, none⟩)]) rfl (by go_simp) ?_
  refine wpList_enter rfl (by go_simp) (mom_rds HSh.out E15.out) ?_
  rintro e W21 ⟨rfl, hs⟩
  refine ⟨_, rfl, ?_⟩
  have HS21 := Lib.hid hs
  clear hs HSh
  refine wpList_yield (w' := W21) (v := .func (.func 21) #[] #[.pointer (some ⟨P, 0, none⟩)]) rfl (by go_simp) ?_
  refine wpList_enter rfl (by go_simp) (mom_rds HS21.out E16.out) ?_
  rintro e W22 ⟨rfl, hs⟩
  refine ⟨_, rfl, ?_⟩
  have HS22 := Lib.hid hs
  clear hs HS21
  have c15 := cell_of_block (o := 15) HS22.out.job rfl
  have f15 := free_of_block 15 HS22.out.job
  have c16 := cell_of_block (o := 16) HS22.out.job rfl
  have f16 := free_of_block 16 HS22.out.job
  go_upto_region 13 with fail
  have HS23 := Lib.hid (show RdS w (((W22).setCell ⟨P + 1, 15, none⟩ (.int .i64 x15)).setCell ⟨P + 1, 16, none⟩ (.int .i64 x16)) C P (P + 1) s17 [.int .i64 x0, .int .i64 x1, .int .i64 x2, .int .i64 x3, .int .i64 x4, .int .i64 x5, .int .i64 x6, .bool (x7 == 1), .int .i64 x8, .int .i64 x9, .int .i64 x10, .int .i64 x11, .int .i64 x12, .int .u64 (IntKind.u64.wrap x13), .int .u64 (IntKind.u64.wrap x14), .int .i64 x15, .int .i64 x16] from ((HS22.out).set 15 (.int .i64 x15)).set 16 (.int .i64 x16))
  clear HS22 c15 f15 c16 f16
  generalize ((W22).setCell ⟨P + 1, 15, none⟩ (.int .i64 x15)).setCell ⟨P + 1, 16, none⟩ (.int .i64 x16) = W23 at *
  have hjv := HS23.out
  rw [← nv_setOf x13, ← nv_setOf x14] at hjv
  obtain ⟨jv, hjv1⟩ : ∃ jv : JobV, jv = ⟨x0, x1, x2, x3, x4, x5, x6, x7 == 1, x8, x9, x10, x11, x12, setOf x13, setOf x14, x15, x16⟩ := ⟨_, rfl⟩
  have HSj := Lib.hid (show RdS w W23 C P (P + 1) s17 (jobC jv) from hjv1 ▸ hjv)
  have HRJ := Lib.hid (show readJ bs = (s17, jv) from hjv1 ▸ HRD.out)
  clear hjv hjv1 HRD HS23
  have cp := cell_of_block (o := 0) HSj.out.ptr rfl
  have HEW := Lib.hid (HE.out.below HSj.out.bel)
  have KB := Lib.hid (bad_cur HSj.out.cur HEW.out)
  have HOK := Lib.hid (show ∀ b, ((s17.bad == 0) && rightB jv) = b → okJ bs = b from fun b hb => by unfold okJ; rw [HRJ.out]; exact hb)
  have HNO := Lib.hid (show okJ bs = false → gotJ bs = job0 ∧ cntJ bs = 0 ∧ codeJ bs = 11 from fun h => by unfold gotJ cntJ codeJ; rw [h]; exact ⟨rfl, rfl, rfl⟩)
  have HYES := Lib.hid (show okJ bs = true → gotJ bs = jv ∧ cntJ bs = (n : Int) - (s17.xs.length : Int) ∧ codeJ bs = 0 from fun h => by unfold gotJ cntJ codeJ; rw [h, HRJ.out, HN.out]; exact ⟨rfl, rfl, rfl⟩)
  have HLJ := Lib.hid (jobC_len jv)
  have HJ1 := Lib.hid (jobC_one jv)
  have hrj : rightB jv = true ∨ rightB jv = false := by cases rightB jv; exact .inr rfl; exact .inl rfl
  have KRj := Lib.hid (fun b (h : rightB jv = b) X => right_is h X)
  have hft := HSj.out.cur.fits
  have hln : n ≤ 1099511627775 := by rw [HN.out]; exact HLB.out
  clear HEW
  generalize hcj : jobC jv = lj at *
  have HCJ := Lib.hid hcj
  clear hcj
  refine wp_region_lit ?_
  refine wpList_yield (w' := W23) (v := .pointer (some ⟨C, 0, none⟩)) rfl (by go_simp) ?_
  refine wpList_enter rfl (by go_simp) KB.out ?_
  rintro e Wk ⟨rfl, hbk⟩
  refine ⟨_, rfl, ?_⟩
  have HSk := Lib.hid (HSj.out.below hbk)
  clear cp hbk HSj KB
  generalize hbd : s17.bad = bd at *
  cases hb : (bd == 0) with
  | false =>
    have hb' : (bd != 0) = true := by unfold bne; rw [hb]; rfl
    have E := HNO.out (HOK.out false (by rw [hb]; rfl))
    have E := Lib.hid E
    go_upto_region 14 with fail
    refine wp_region_lit ?_
    refine wpList_yield (w' := Wk) (v := .agg (jobC job0).toArray) rfl (by go_simp; rfl) ?_
    refine wpList_store_all rfl 26 _ _ rfl w.heap.size (T := 26) (jobC job0) (by go_simp) (by go_simp) HSk.out.res rfl (by kernel_rfl) rfl ?_
    intro w9 hw9
    have HW9 := Lib.hid hw9.there
    have HB9 := Lib.hid (hw9.below HSk.out.bel (Nat.le_refl _))
    clear hw9
    go_wp2_with fail
    exact bodyPost_ret (results_all3 (jobC job0) _ Tryd.results5 (by go_simp) HW9.out Tryd.underlying26 rfl (by kernel_rfl)) rfl ⟨by rw [E.out.1, E.out.2.1, E.out.2.2]; first | done | rfl, HB9.out⟩
  | true =>
    have hb' : (bd != 0) = false := by unfold bne; rw [hb]; rfl
    refine wpList_yield (w' := Wk) (v := .bool false) rfl (by first | (go_simp; done) | (go_simp; rfl)) ?_
    refine wpList_yield (w' := Wk) (v := .bool false) rfl (by first | (go_simp; done) | (go_simp; rfl)) ?_
    refine wpList_load_all_w (by first | (go_simp; done) | (go_simp; rfl)) 26 _ rfl (P + 1) lj _ (by go_simp) HSk.out.job Tryd.underlying26 rfl (by rw [HLJ.out]; kernel_rfl) ?_
    rcases hrj with hr | hr
    · refine wpList_enter_w (by first | (go_simp; done) | (go_simp; rfl)) (by go_simp) (KRj.out true hr Wk) ?_
      rintro e Wl ⟨rfl, hbl⟩
      refine ⟨_, rfl, ?_⟩
      have HSl := Lib.hid (HSk.out.below hbl)
      clear hbl HSk
      have E := Lib.hid (HYES.out (HOK.out true (by rw [hb, hr]; rfl)))
      go_upto_region 15 with fail
      have HSm := Lib.hid (HSl.out.below (show Below Wl.heap.size Wl Wl.drew from (Below.refl _ _).drew))
      have hsub : IntKind.i64.wrap ((n : Int) - (s17.xs.length : Int)) = (n : Int) - (s17.xs.length : Int) := by rw [IntKind.wrap_i64]; omega
      have cp := cell_of_block (o := 0) HSm.out.ptr rfl
      refine wp_region_held (S := fun X => X.heap[P + 1]? = some (.cells lj.toArray 26 (0, 0)) ∧ X.cell? ⟨P, 0, none⟩ = some (.pointer (some ⟨C, 0, none⟩))) hmx ?_
      change wpAnyH _ _ _ _ _ 9 _ _ Wl.drew
      generalize Wl.drew = Wn at *
      have hSS : Wn.heap[P + 1]? = some (.cells lj.toArray 26 (0, 0)) ∧ Wn.cell? ⟨P, 0, none⟩ = some (.pointer (some ⟨C, 0, none⟩)) := ⟨HSm.out.job, cp⟩
      clear cp
      refine wpAnyH_take (i := 0) (v := .agg lj.toArray) rfl (by decide +kernel) (by decide +kernel) (by decide +kernel) (fun _ _ _ h => h) (yieldsIf_load_mid (by first | rfl | (go_simp; done)) 26 _ rfl (P + 1) 0 (by go_simp) lj _ (fun X hX => range_of_block hX.1) Tryd.underlying26 rfl (by rw [HLJ.out]; kernel_rfl)) hSS ?_
      refine wpAnyH_take (i := 1) (v := .slice ad n c) rfl (by decide +kernel) (by decide +kernel) (by decide +kernel) (fun _ _ _ h => h) (.inl ⟨by first | rfl | (go_simp; done), fun X hX => by have hx2 := hX.2; clear hX; first | (go_simp; done) | (go_simp; rfl)⟩) hSS ?_
      refine wpAnyH_take (i := 2) (v := .int .i64 (n : Int)) rfl (by decide +kernel) (by decide +kernel) (by decide +kernel) (fun _ _ _ h => h) (.inl ⟨by first | rfl | (go_simp; done), fun X hX => by have hx2 := hX.2; clear hX; first | (go_simp; done) | (go_simp; rfl)⟩) hSS ?_
      refine wpAnyH_take (i := 3) (v := .pointer (some ⟨C, 0, none⟩)) rfl (by decide +kernel) (by decide +kernel) (by decide +kernel) (fun _ _ _ h => h) (.inl ⟨by first | rfl | (go_simp; done), fun X hX => by have hx2 := hX.2; clear hX; first | (go_simp; done) | (go_simp; rfl)⟩) hSS ?_
      refine anyH_call (i := 4) (by decide +kernel) rfl (by first | rfl | (go_simp; done)) (by go_simp) (rest_cur HSm.out.cur) ?_
      rintro e Wo ⟨rfl, rfl⟩
      refine ⟨_, rfl, hSS, ?_⟩
      refine wpAnyH_take (i := 5) (v := .int .i64 ((n : Int) - (s17.xs.length : Int))) rfl (by decide +kernel) (by decide +kernel) (by decide +kernel) (fun _ _ _ h => h) (.inl ⟨by first | rfl | (go_simp; done), fun X hX => by have hx2 := hX.2; clear hX; first | (go_simp; done) | (go_simp; rfl)⟩) hSS ?_
      have hPP : w.heap.size < P := by have := HSm.out.cur.mem; omega
      have hw9 := wrote_all HSm.out.res (l := lj) (by rw [HLJ.out]; rfl)
      have hS9 : (Wn.setCells w.heap.size 0 lj).heap[P + 1]? = some (.cells lj.toArray 26 (0, 0)) ∧ (Wn.setCells w.heap.size 0 lj).cell? ⟨P, 0, none⟩ = some (.pointer (some ⟨C, 0, none⟩)) := ⟨(hw9.rest _ (by omega)).trans hSS.1, cell_of_block (o := 0) ((hw9.rest _ (by omega)).trans HSm.out.ptr) rfl⟩
      refine anyH_store (i := 6) (by decide +kernel) rfl (by first | rfl | (go_simp; done)) (exec_store_all 26 _ _ rfl w.heap.size lj (by go_simp) (by go_simp) HSm.out.res (by rw [HLJ.out]; rfl) (by rw [HLJ.out]; kernel_rfl) HJ1.out) hS9 ?_
      have HW9 := Lib.hid hw9.there
      have HB9 := Lib.hid (hw9.below HSm.out.bel (Nat.le_refl _))
      clear hw9 hSS hPP
      generalize Wn.setCells w.heap.size 0 lj = w9 at *
      refine wpAnyH_take (i := 7) (v := .int .i64 ((n : Int) - (s17.xs.length : Int))) rfl (by decide +kernel) (by decide +kernel) (by decide +kernel) (fun _ _ _ h => h) (.inl ⟨by first | rfl | (go_simp; done), fun X hX => by have hx2 := hX.2; clear hX; first | (go_simp; done) | (go_simp; rfl)⟩) hS9 ?_
      refine wpAnyH_take (i := 8) (v := .int .i64 0) rfl (by decide +kernel) (by decide +kernel) (by decide +kernel) (fun _ _ _ h => h) (.inl ⟨by first | rfl | (go_simp; done), fun X hX => by have hx2 := hX.2; clear hX; first | (go_simp; done) | (go_simp; rfl)⟩) hS9 ?_
      refine wpAnyH_done (by decide +kernel) ?_ _
      clear hS9
      go_wp2_with fail
      exact bodyPost_ret (results_all3 lj _ Tryd.results5 (by go_simp) HW9.out Tryd.underlying26 rfl (by rw [HLJ.out]; kernel_rfl)) rfl ⟨by rw [E.out.1, E.out.2.1, E.out.2.2, HCJ.out]; first | done | (go_simp; done) | kernel_rfl, HB9.out⟩
    · refine wpList_enter_w (by first | (go_simp; done) | (go_simp; rfl)) (by go_simp) (KRj.out false hr Wk) ?_
      rintro e Wl ⟨rfl, hbl⟩
      refine ⟨_, rfl, ?_⟩
      have HSl := Lib.hid (HSk.out.below hbl)
      clear hbl HSk
      have E := Lib.hid (HNO.out (HOK.out false (by rw [hb, hr]; rfl)))
      go_upto_region 14 with fail
      refine wp_region_lit ?_
      refine wpList_yield (w' := Wl) (v := .agg (jobC job0).toArray) rfl (by go_simp; rfl) ?_
      refine wpList_store_all rfl 26 _ _ rfl w.heap.size (T := 26) (jobC job0) (by go_simp) (by go_simp) HSl.out.res rfl (by kernel_rfl) rfl ?_
      intro w9 hw9
      have HW9 := Lib.hid hw9.there
      have HB9 := Lib.hid (hw9.below HSl.out.bel (Nat.le_refl _))
      clear hw9
      go_wp2_with fail
      exact bodyPost_ret (results_all3 (jobC job0) _ Tryd.results5 (by go_simp) HW9.out Tryd.underlying26 rfl (by kernel_rfl)) rfl ⟨by rw [E.out.1, E.out.2.1, E.out.2.2]; first | done | rfl, HB9.out⟩
end Go.Proofs.YtgeldpfojmkdbaaDoor
namespace Go.Proofs.YtgeldpfojmkdbaaDoor
set_option linter.unusedVariables false
open Go.ChangeShapes Go.WideShapes Go.ChangeAt Go.RowKit

theorem setOf_wrap (s : NSet) : setOf (wrap64 (nv s)) = s := by
  apply nv_inj
  rw [nv_setOf, IntKind.wrap_u64]
  have := nv_lo s
  have := nv_hi s
  unfold wrap64
  omega
theorem holdN_one (b : Bool) : (holdN b == 1) = b := by cases b <;> rfl
theorem putJ_flat (j : JobV) (ys : List Int) : putJ j ++ ys = putI j.id ++ (putI j.user ++ (putI j.part ++ (putI j.width ++ (putI j.limit ++ (putI j.nice ++ (putI j.after ++ (putI (holdN j.hold) ++ (putI j.state ++ (putI j.sent ++ (putI j.plan ++ (putI j.promise ++ (putI j.tries ++ (putI (wrap64 (nv j.black)) ++ (putI (wrap64 (nv j.nodes)) ++ (putI j.start ++ (putI j.fin ++ ys)))))))))))))))) := by
  unfold putJ jobN
  simp only [List.flatMap_cons, List.flatMap_nil, List.append_assoc, List.nil_append]
theorem read_put {j : JobV} (h : j.Ok) (ys : List Int) : readJ (putJ j ++ ys) = (⟨ys, 0⟩, j) := by
  have hi := jobN_in h
  unfold jobN at hi
  simp only [List.mem_cons, List.not_mem_nil, or_false, forall_eq_or_imp, forall_eq] at hi
  obtain ⟨h0, h1, h2, h3, h4, h5, h6, h7, h8, h9, h10, h11, h12, h13, h14, h15, h16⟩ := hi
  have hs0 : 0 ≤ holdN j.hold := by unfold holdN; split <;> omega
  have hs1 : holdN j.hold ≤ 1 := by unfold holdN; split <;> omega
  rw [putJ_flat]
  unfold readJ
  simp only [intF_put h0, intF_put h1, intF_put h2, intF_put h3, intF_put h4, intF_put h5, intF_put h6, smallF_put hs0 hs1 h7.2, intF_put h8, intF_put h9, intF_put h10, intF_put h11, intF_put h12, intF_put h13, intF_put h14, intF_put h15, intF_put h16, setOf_wrap, holdN_one]
theorem ok_of {k : JobV} (h : ∀ x ∈ k.ints, -9223372036854775808 ≤ x ∧ x ≤ 9223372036854775807) : k.Ok := ⟨h⟩
theorem begin_ok {j : JobV} (h : j.Ok) {now : Int} (hn : -9223372036854775808 ≤ now ∧ now ≤ 9223372036854775807) (n : NSet) : (beginJ j now n).1.Ok := by
  by_cases hr : rightB j = true
  · have htr := (rightB_iff.1 hr).tries
    have hi := h.inb
    unfold JobV.ints at hi
    simp only [List.mem_cons, List.not_mem_nil, or_false, forall_eq_or_imp, forall_eq] at hi
    unfold beginJ
    repeat' split
    all_goals first
      | exact job0_ok
      | (refine ⟨?_⟩
         unfold JobV.ints
         simp only [List.mem_cons, List.not_mem_nil, or_false, forall_eq_or_imp, forall_eq]
         omega)
  · have : rightB j = false := by simpa using hr
    unfold beginJ
    rw [this]
    exact job0_ok
theorem end_ok {j : JobV} (h : j.Ok) {now how : Int} (hn : -9223372036854775808 ≤ now ∧ now ≤ 9223372036854775807) (hw : -9223372036854775808 ≤ how ∧ how ≤ 9223372036854775807) : (endJ j now how).Ok := by
  have hi := h.inb
  unfold JobV.ints at hi
  simp only [List.mem_cons, List.not_mem_nil, or_false, forall_eq_or_imp, forall_eq] at hi
  unfold endJ
  repeat' split
  all_goals
    refine ⟨?_⟩
    unfold JobV.ints
    simp only [List.mem_cons, List.not_mem_nil, or_false, forall_eq_or_imp, forall_eq]
    omega
theorem stop_ok {j : JobV} (h : j.Ok) {now how : Int} (hn : -9223372036854775808 ≤ now ∧ now ≤ 9223372036854775807) (hw : -9223372036854775808 ≤ how ∧ how ≤ 9223372036854775807) : (stopJ j now how).1.Ok := by
  unfold stopJ
  repeat' split
  all_goals first
    | exact job0_ok
    | exact end_ok h hn hw
theorem lose_ok {j : JobV} (h : j.Ok) {now node retries : Int} (hn : -9223372036854775808 ≤ now ∧ now ≤ 9223372036854775807) : (loseJ j now node retries).1.Ok := by
  have hi := h.inb
  unfold JobV.ints at hi
  simp only [List.mem_cons, List.not_mem_nil, or_false, forall_eq_or_imp, forall_eq] at hi
  unfold loseJ
  repeat' split
  all_goals first
    | exact job0_ok
    | exact end_ok h hn (by omega)
    | (refine ⟨?_⟩
       unfold JobV.ints
       simp only [List.mem_cons, List.not_mem_nil, or_false, forall_eq_or_imp, forall_eq]
       omega)
end Go.Proofs.YtgeldpfojmkdbaaDoor
namespace Go.Proofs.YtgeldpfojmkdbaaDoor
set_option linter.unusedVariables false
open Go.ChangeShapes Go.WideShapes Go.ChangeAt Go.RowKit
attribute [local go_sem ↓] Go.wp_at_zero Go.wp_at_succ comesTo_value_eq comesTo_skip_eq comesTo_enter_eq

/-- a job in its block -/
structure J17 (U : World) (q : Nat) (v0 v1 v2 v3 v4 v5 v6 v7 v8 v9 v10 v11 v12 v13 v14 v15 v16 : Value) : Prop where
  c0 : U.cell? ⟨q, 0, none⟩ = some v0
  c1 : U.cell? ⟨q, 1, none⟩ = some v1
  c2 : U.cell? ⟨q, 2, none⟩ = some v2
  c3 : U.cell? ⟨q, 3, none⟩ = some v3
  c4 : U.cell? ⟨q, 4, none⟩ = some v4
  c5 : U.cell? ⟨q, 5, none⟩ = some v5
  c6 : U.cell? ⟨q, 6, none⟩ = some v6
  c7 : U.cell? ⟨q, 7, none⟩ = some v7
  c8 : U.cell? ⟨q, 8, none⟩ = some v8
  c9 : U.cell? ⟨q, 9, none⟩ = some v9
  c10 : U.cell? ⟨q, 10, none⟩ = some v10
  c11 : U.cell? ⟨q, 11, none⟩ = some v11
  c12 : U.cell? ⟨q, 12, none⟩ = some v12
  c13 : U.cell? ⟨q, 13, none⟩ = some v13
  c14 : U.cell? ⟨q, 14, none⟩ = some v14
  c15 : U.cell? ⟨q, 15, none⟩ = some v15
  c16 : U.cell? ⟨q, 16, none⟩ = some v16
  f0 : U.frozen? ⟨q, 0, none⟩ = false
  f1 : U.frozen? ⟨q, 1, none⟩ = false
  f2 : U.frozen? ⟨q, 2, none⟩ = false
  f3 : U.frozen? ⟨q, 3, none⟩ = false
  f4 : U.frozen? ⟨q, 4, none⟩ = false
  f5 : U.frozen? ⟨q, 5, none⟩ = false
  f6 : U.frozen? ⟨q, 6, none⟩ = false
  f7 : U.frozen? ⟨q, 7, none⟩ = false
  f8 : U.frozen? ⟨q, 8, none⟩ = false
  f9 : U.frozen? ⟨q, 9, none⟩ = false
  f10 : U.frozen? ⟨q, 10, none⟩ = false
  f11 : U.frozen? ⟨q, 11, none⟩ = false
  f12 : U.frozen? ⟨q, 12, none⟩ = false
  f13 : U.frozen? ⟨q, 13, none⟩ = false
  f14 : U.frozen? ⟨q, 14, none⟩ = false
  f15 : U.frozen? ⟨q, 15, none⟩ = false
  f16 : U.frozen? ⟨q, 16, none⟩ = false
theorem J17.lt {U : World} {q : Nat} {v0 v1 v2 v3 v4 v5 v6 v7 v8 v9 v10 v11 v12 v13 v14 v15 v16 : Value} (h : J17 U q v0 v1 v2 v3 v4 v5 v6 v7 v8 v9 v10 v11 v12 v13 v14 v15 v16) : q < U.heap.size := World.block_lt_of_cell? U _ h.c0
theorem J17.below {U U' : World} {q : Nat} {v0 v1 v2 v3 v4 v5 v6 v7 v8 v9 v10 v11 v12 v13 v14 v15 v16 : Value} (h : J17 U q v0 v1 v2 v3 v4 v5 v6 v7 v8 v9 v10 v11 v12 v13 v14 v15 v16) (hb : Below U.heap.size U U') : J17 U' q v0 v1 v2 v3 v4 v5 v6 v7 v8 v9 v10 v11 v12 v13 v14 v15 v16 := by
  obtain ⟨hc, hf⟩ := bcell hb
  have l := h.lt
  exact ⟨(hc _ 0 l).trans h.c0, (hc _ 1 l).trans h.c1, (hc _ 2 l).trans h.c2, (hc _ 3 l).trans h.c3, (hc _ 4 l).trans h.c4, (hc _ 5 l).trans h.c5, (hc _ 6 l).trans h.c6, (hc _ 7 l).trans h.c7, (hc _ 8 l).trans h.c8, (hc _ 9 l).trans h.c9, (hc _ 10 l).trans h.c10, (hc _ 11 l).trans h.c11, (hc _ 12 l).trans h.c12, (hc _ 13 l).trans h.c13, (hc _ 14 l).trans h.c14, (hc _ 15 l).trans h.c15, (hc _ 16 l).trans h.c16, (hf _ 0 l).trans h.f0, (hf _ 1 l).trans h.f1, (hf _ 2 l).trans h.f2, (hf _ 3 l).trans h.f3, (hf _ 4 l).trans h.f4, (hf _ 5 l).trans h.f5, (hf _ 6 l).trans h.f6, (hf _ 7 l).trans h.f7, (hf _ 8 l).trans h.f8, (hf _ 9 l).trans h.f9, (hf _ 10 l).trans h.f10, (hf _ 11 l).trans h.f11, (hf _ 12 l).trans h.f12, (hf _ 13 l).trans h.f13, (hf _ 14 l).trans h.f14, (hf _ 15 l).trans h.f15, (hf _ 16 l).trans h.f16⟩
theorem J17.new {U : World} {q : Nat} {T : TypeId} {v0 v1 v2 v3 v4 v5 v6 v7 v8 v9 v10 v11 v12 v13 v14 v15 v16 : Value} (h : U.heap[q]? = some (.cells #[v0, v1, v2, v3, v4, v5, v6, v7, v8, v9, v10, v11, v12, v13, v14, v15, v16] T (0, 0))) : J17 U q v0 v1 v2 v3 v4 v5 v6 v7 v8 v9 v10 v11 v12 v13 v14 v15 v16 :=
  ⟨cell_of_block (o := 0) h rfl, cell_of_block (o := 1) h rfl, cell_of_block (o := 2) h rfl, cell_of_block (o := 3) h rfl, cell_of_block (o := 4) h rfl, cell_of_block (o := 5) h rfl, cell_of_block (o := 6) h rfl, cell_of_block (o := 7) h rfl, cell_of_block (o := 8) h rfl, cell_of_block (o := 9) h rfl, cell_of_block (o := 10) h rfl, cell_of_block (o := 11) h rfl, cell_of_block (o := 12) h rfl, cell_of_block (o := 13) h rfl, cell_of_block (o := 14) h rfl, cell_of_block (o := 15) h rfl, cell_of_block (o := 16) h rfl, free_of_block 0 h, free_of_block 1 h, free_of_block 2 h, free_of_block 3 h, free_of_block 4 h, free_of_block 5 h, free_of_block 6 h, free_of_block 7 h, free_of_block 8 h, free_of_block 9 h, free_of_block 10 h, free_of_block 11 h, free_of_block 12 h, free_of_block 13 h, free_of_block 14 h, free_of_block 15 h, free_of_block 16 h⟩
theorem blk_new (w : World) (cs : Array Value) (T : TypeId) : (w.alloc (.cells cs T)).heap[w.heap.size]? = some (.cells cs T (0, 0)) := by show (w.heap.push _)[w.heap.size]? = _; simp
theorem blk_old (w : World) (o : Obj) (q : Nat) (hq : q < w.heap.size) : (w.alloc o).heap[q]? = w.heap[q]? := by show (w.heap.push _)[q]? = _; rw [Array.getElem?_push]; simp [Nat.ne_of_lt hq]
/-- a whole job is stored -/
def put17 (U : World) (q : Nat) (u0 u1 u2 u3 u4 u5 u6 u7 u8 u9 u10 u11 u12 u13 u14 u15 u16 : Value) : World := (((((((((((((((((U.setCell ⟨q, 0, none⟩ u0).setCell ⟨q, 1, none⟩ u1).setCell ⟨q, 2, none⟩ u2).setCell ⟨q, 3, none⟩ u3).setCell ⟨q, 4, none⟩ u4).setCell ⟨q, 5, none⟩ u5).setCell ⟨q, 6, none⟩ u6).setCell ⟨q, 7, none⟩ u7).setCell ⟨q, 8, none⟩ u8).setCell ⟨q, 9, none⟩ u9).setCell ⟨q, 10, none⟩ u10).setCell ⟨q, 11, none⟩ u11).setCell ⟨q, 12, none⟩ u12).setCell ⟨q, 13, none⟩ u13).setCell ⟨q, 14, none⟩ u14).setCell ⟨q, 15, none⟩ u15).setCell ⟨q, 16, none⟩ u16)
theorem J17.put {U : World} {q : Nat} {v0 v1 v2 v3 v4 v5 v6 v7 v8 v9 v10 v11 v12 v13 v14 v15 v16 u0 u1 u2 u3 u4 u5 u6 u7 u8 u9 u10 u11 u12 u13 u14 u15 u16 : Value} (h : J17 U q v0 v1 v2 v3 v4 v5 v6 v7 v8 v9 v10 v11 v12 v13 v14 v15 v16) : J17 (put17 U q u0 u1 u2 u3 u4 u5 u6 u7 u8 u9 u10 u11 u12 u13 u14 u15 u16) q u0 u1 u2 u3 u4 u5 u6 u7 u8 u9 u10 u11 u12 u13 u14 u15 u16 := by
  obtain ⟨c0, c1, c2, c3, c4, c5, c6, c7, c8, c9, c10, c11, c12, c13, c14, c15, c16, f0, f1, f2, f3, f4, f5, f6, f7, f8, f9, f10, f11, f12, f13, f14, f15, f16⟩ := h
  unfold put17
  exact ⟨by go_simp, by go_simp, by go_simp, by go_simp, by go_simp, by go_simp, by go_simp, by go_simp, by go_simp, by go_simp, by go_simp, by go_simp, by go_simp, by go_simp, by go_simp, by go_simp, by go_simp, by go_simp, by go_simp, by go_simp, by go_simp, by go_simp, by go_simp, by go_simp, by go_simp, by go_simp, by go_simp, by go_simp, by go_simp, by go_simp, by go_simp, by go_simp, by go_simp, by go_simp⟩
theorem below_put {w U : World} {q : Nat} (u0 u1 u2 u3 u4 u5 u6 u7 u8 u9 u10 u11 u12 u13 u14 u15 u16 : Value) (h : Below w.heap.size w U) (hq : w.heap.size ≤ q) : Below w.heap.size w (put17 U q u0 u1 u2 u3 u4 u5 u6 u7 u8 u9 u10 u11 u12 u13 u14 u15 u16) := by
  unfold put17
  exact ((((((((((((((((h.setCell hq _).setCell hq _).setCell hq _).setCell hq _).setCell hq _).setCell hq _).setCell hq _).setCell hq _).setCell hq _).setCell hq _).setCell hq _).setCell hq _).setCell hq _).setCell hq _).setCell hq _).setCell hq _).setCell hq _
theorem put17_fold (U : World) (q : Nat) (u0 u1 u2 u3 u4 u5 u6 u7 u8 u9 u10 u11 u12 u13 u14 u15 u16 : Value) : (((((((((((((((((U.setCell ⟨q, 0, none⟩ u0).setCell ⟨q, 1, none⟩ u1).setCell ⟨q, 2, none⟩ u2).setCell ⟨q, 3, none⟩ u3).setCell ⟨q, 4, none⟩ u4).setCell ⟨q, 5, none⟩ u5).setCell ⟨q, 6, none⟩ u6).setCell ⟨q, 7, none⟩ u7).setCell ⟨q, 8, none⟩ u8).setCell ⟨q, 9, none⟩ u9).setCell ⟨q, 10, none⟩ u10).setCell ⟨q, 11, none⟩ u11).setCell ⟨q, 12, none⟩ u12).setCell ⟨q, 13, none⟩ u13).setCell ⟨q, 14, none⟩ u14).setCell ⟨q, 15, none⟩ u15).setCell ⟨q, 16, none⟩ u16) = put17 U q u0 u1 u2 u3 u4 u5 u6 u7 u8 u9 u10 u11 u12 u13 u14 u15 u16 := rfl
theorem J17.s8 {U : World} {q : Nat} {v0 v1 v2 v3 v4 v5 v6 v7 v8 v9 v10 v11 v12 v13 v14 v15 v16 : Value} (h : J17 U q v0 v1 v2 v3 v4 v5 v6 v7 v8 v9 v10 v11 v12 v13 v14 v15 v16) (x : Value) : J17 (U.setCell ⟨q, 8, none⟩ x) q v0 v1 v2 v3 v4 v5 v6 v7 x v9 v10 v11 v12 v13 v14 v15 v16 := by
  obtain ⟨c0, c1, c2, c3, c4, c5, c6, c7, c8, c9, c10, c11, c12, c13, c14, c15, c16, f0, f1, f2, f3, f4, f5, f6, f7, f8, f9, f10, f11, f12, f13, f14, f15, f16⟩ := h
  exact ⟨(World.cell?_setCell_other _ _ _ _ (by intro h; cases h)).trans c0, (World.cell?_setCell_other _ _ _ _ (by intro h; cases h)).trans c1, (World.cell?_setCell_other _ _ _ _ (by intro h; cases h)).trans c2, (World.cell?_setCell_other _ _ _ _ (by intro h; cases h)).trans c3, (World.cell?_setCell_other _ _ _ _ (by intro h; cases h)).trans c4, (World.cell?_setCell_other _ _ _ _ (by intro h; cases h)).trans c5, (World.cell?_setCell_other _ _ _ _ (by intro h; cases h)).trans c6, (World.cell?_setCell_other _ _ _ _ (by intro h; cases h)).trans c7, World.cell?_setCell_same _ _ _ c8, (World.cell?_setCell_other _ _ _ _ (by intro h; cases h)).trans c9, (World.cell?_setCell_other _ _ _ _ (by intro h; cases h)).trans c10, (World.cell?_setCell_other _ _ _ _ (by intro h; cases h)).trans c11, (World.cell?_setCell_other _ _ _ _ (by intro h; cases h)).trans c12, (World.cell?_setCell_other _ _ _ _ (by intro h; cases h)).trans c13, (World.cell?_setCell_other _ _ _ _ (by intro h; cases h)).trans c14, (World.cell?_setCell_other _ _ _ _ (by intro h; cases h)).trans c15, (World.cell?_setCell_other _ _ _ _ (by intro h; cases h)).trans c16, (World.frozen?_setCell _ _ _ _).trans f0, (World.frozen?_setCell _ _ _ _).trans f1, (World.frozen?_setCell _ _ _ _).trans f2, (World.frozen?_setCell _ _ _ _).trans f3, (World.frozen?_setCell _ _ _ _).trans f4, (World.frozen?_setCell _ _ _ _).trans f5, (World.frozen?_setCell _ _ _ _).trans f6, (World.frozen?_setCell _ _ _ _).trans f7, (World.frozen?_setCell _ _ _ _).trans f8, (World.frozen?_setCell _ _ _ _).trans f9, (World.frozen?_setCell _ _ _ _).trans f10, (World.frozen?_setCell _ _ _ _).trans f11, (World.frozen?_setCell _ _ _ _).trans f12, (World.frozen?_setCell _ _ _ _).trans f13, (World.frozen?_setCell _ _ _ _).trans f14, (World.frozen?_setCell _ _ _ _).trans f15, (World.frozen?_setCell _ _ _ _).trans f16⟩
theorem J17.s12 {U : World} {q : Nat} {v0 v1 v2 v3 v4 v5 v6 v7 v8 v9 v10 v11 v12 v13 v14 v15 v16 : Value} (h : J17 U q v0 v1 v2 v3 v4 v5 v6 v7 v8 v9 v10 v11 v12 v13 v14 v15 v16) (x : Value) : J17 (U.setCell ⟨q, 12, none⟩ x) q v0 v1 v2 v3 v4 v5 v6 v7 v8 v9 v10 v11 x v13 v14 v15 v16 := by
  obtain ⟨c0, c1, c2, c3, c4, c5, c6, c7, c8, c9, c10, c11, c12, c13, c14, c15, c16, f0, f1, f2, f3, f4, f5, f6, f7, f8, f9, f10, f11, f12, f13, f14, f15, f16⟩ := h
  exact ⟨(World.cell?_setCell_other _ _ _ _ (by intro h; cases h)).trans c0, (World.cell?_setCell_other _ _ _ _ (by intro h; cases h)).trans c1, (World.cell?_setCell_other _ _ _ _ (by intro h; cases h)).trans c2, (World.cell?_setCell_other _ _ _ _ (by intro h; cases h)).trans c3, (World.cell?_setCell_other _ _ _ _ (by intro h; cases h)).trans c4, (World.cell?_setCell_other _ _ _ _ (by intro h; cases h)).trans c5, (World.cell?_setCell_other _ _ _ _ (by intro h; cases h)).trans c6, (World.cell?_setCell_other _ _ _ _ (by intro h; cases h)).trans c7, (World.cell?_setCell_other _ _ _ _ (by intro h; cases h)).trans c8, (World.cell?_setCell_other _ _ _ _ (by intro h; cases h)).trans c9, (World.cell?_setCell_other _ _ _ _ (by intro h; cases h)).trans c10, (World.cell?_setCell_other _ _ _ _ (by intro h; cases h)).trans c11, World.cell?_setCell_same _ _ _ c12, (World.cell?_setCell_other _ _ _ _ (by intro h; cases h)).trans c13, (World.cell?_setCell_other _ _ _ _ (by intro h; cases h)).trans c14, (World.cell?_setCell_other _ _ _ _ (by intro h; cases h)).trans c15, (World.cell?_setCell_other _ _ _ _ (by intro h; cases h)).trans c16, (World.frozen?_setCell _ _ _ _).trans f0, (World.frozen?_setCell _ _ _ _).trans f1, (World.frozen?_setCell _ _ _ _).trans f2, (World.frozen?_setCell _ _ _ _).trans f3, (World.frozen?_setCell _ _ _ _).trans f4, (World.frozen?_setCell _ _ _ _).trans f5, (World.frozen?_setCell _ _ _ _).trans f6, (World.frozen?_setCell _ _ _ _).trans f7, (World.frozen?_setCell _ _ _ _).trans f8, (World.frozen?_setCell _ _ _ _).trans f9, (World.frozen?_setCell _ _ _ _).trans f10, (World.frozen?_setCell _ _ _ _).trans f11, (World.frozen?_setCell _ _ _ _).trans f12, (World.frozen?_setCell _ _ _ _).trans f13, (World.frozen?_setCell _ _ _ _).trans f14, (World.frozen?_setCell _ _ _ _).trans f15, (World.frozen?_setCell _ _ _ _).trans f16⟩
theorem J17.s14 {U : World} {q : Nat} {v0 v1 v2 v3 v4 v5 v6 v7 v8 v9 v10 v11 v12 v13 v14 v15 v16 : Value} (h : J17 U q v0 v1 v2 v3 v4 v5 v6 v7 v8 v9 v10 v11 v12 v13 v14 v15 v16) (x : Value) : J17 (U.setCell ⟨q, 14, none⟩ x) q v0 v1 v2 v3 v4 v5 v6 v7 v8 v9 v10 v11 v12 v13 x v15 v16 := by
  obtain ⟨c0, c1, c2, c3, c4, c5, c6, c7, c8, c9, c10, c11, c12, c13, c14, c15, c16, f0, f1, f2, f3, f4, f5, f6, f7, f8, f9, f10, f11, f12, f13, f14, f15, f16⟩ := h
  exact ⟨(World.cell?_setCell_other _ _ _ _ (by intro h; cases h)).trans c0, (World.cell?_setCell_other _ _ _ _ (by intro h; cases h)).trans c1, (World.cell?_setCell_other _ _ _ _ (by intro h; cases h)).trans c2, (World.cell?_setCell_other _ _ _ _ (by intro h; cases h)).trans c3, (World.cell?_setCell_other _ _ _ _ (by intro h; cases h)).trans c4, (World.cell?_setCell_other _ _ _ _ (by intro h; cases h)).trans c5, (World.cell?_setCell_other _ _ _ _ (by intro h; cases h)).trans c6, (World.cell?_setCell_other _ _ _ _ (by intro h; cases h)).trans c7, (World.cell?_setCell_other _ _ _ _ (by intro h; cases h)).trans c8, (World.cell?_setCell_other _ _ _ _ (by intro h; cases h)).trans c9, (World.cell?_setCell_other _ _ _ _ (by intro h; cases h)).trans c10, (World.cell?_setCell_other _ _ _ _ (by intro h; cases h)).trans c11, (World.cell?_setCell_other _ _ _ _ (by intro h; cases h)).trans c12, (World.cell?_setCell_other _ _ _ _ (by intro h; cases h)).trans c13, World.cell?_setCell_same _ _ _ c14, (World.cell?_setCell_other _ _ _ _ (by intro h; cases h)).trans c15, (World.cell?_setCell_other _ _ _ _ (by intro h; cases h)).trans c16, (World.frozen?_setCell _ _ _ _).trans f0, (World.frozen?_setCell _ _ _ _).trans f1, (World.frozen?_setCell _ _ _ _).trans f2, (World.frozen?_setCell _ _ _ _).trans f3, (World.frozen?_setCell _ _ _ _).trans f4, (World.frozen?_setCell _ _ _ _).trans f5, (World.frozen?_setCell _ _ _ _).trans f6, (World.frozen?_setCell _ _ _ _).trans f7, (World.frozen?_setCell _ _ _ _).trans f8, (World.frozen?_setCell _ _ _ _).trans f9, (World.frozen?_setCell _ _ _ _).trans f10, (World.frozen?_setCell _ _ _ _).trans f11, (World.frozen?_setCell _ _ _ _).trans f12, (World.frozen?_setCell _ _ _ _).trans f13, (World.frozen?_setCell _ _ _ _).trans f14, (World.frozen?_setCell _ _ _ _).trans f15, (World.frozen?_setCell _ _ _ _).trans f16⟩
theorem J17.s15 {U : World} {q : Nat} {v0 v1 v2 v3 v4 v5 v6 v7 v8 v9 v10 v11 v12 v13 v14 v15 v16 : Value} (h : J17 U q v0 v1 v2 v3 v4 v5 v6 v7 v8 v9 v10 v11 v12 v13 v14 v15 v16) (x : Value) : J17 (U.setCell ⟨q, 15, none⟩ x) q v0 v1 v2 v3 v4 v5 v6 v7 v8 v9 v10 v11 v12 v13 v14 x v16 := by
  obtain ⟨c0, c1, c2, c3, c4, c5, c6, c7, c8, c9, c10, c11, c12, c13, c14, c15, c16, f0, f1, f2, f3, f4, f5, f6, f7, f8, f9, f10, f11, f12, f13, f14, f15, f16⟩ := h
  exact ⟨(World.cell?_setCell_other _ _ _ _ (by intro h; cases h)).trans c0, (World.cell?_setCell_other _ _ _ _ (by intro h; cases h)).trans c1, (World.cell?_setCell_other _ _ _ _ (by intro h; cases h)).trans c2, (World.cell?_setCell_other _ _ _ _ (by intro h; cases h)).trans c3, (World.cell?_setCell_other _ _ _ _ (by intro h; cases h)).trans c4, (World.cell?_setCell_other _ _ _ _ (by intro h; cases h)).trans c5, (World.cell?_setCell_other _ _ _ _ (by intro h; cases h)).trans c6, (World.cell?_setCell_other _ _ _ _ (by intro h; cases h)).trans c7, (World.cell?_setCell_other _ _ _ _ (by intro h; cases h)).trans c8, (World.cell?_setCell_other _ _ _ _ (by intro h; cases h)).trans c9, (World.cell?_setCell_other _ _ _ _ (by intro h; cases h)).trans c10, (World.cell?_setCell_other _ _ _ _ (by intro h; cases h)).trans c11, (World.cell?_setCell_other _ _ _ _ (by intro h; cases h)).trans c12, (World.cell?_setCell_other _ _ _ _ (by intro h; cases h)).trans c13, (World.cell?_setCell_other _ _ _ _ (by intro h; cases h)).trans c14, World.cell?_setCell_same _ _ _ c15, (World.cell?_setCell_other _ _ _ _ (by intro h; cases h)).trans c16, (World.frozen?_setCell _ _ _ _).trans f0, (World.frozen?_setCell _ _ _ _).trans f1, (World.frozen?_setCell _ _ _ _).trans f2, (World.frozen?_setCell _ _ _ _).trans f3, (World.frozen?_setCell _ _ _ _).trans f4, (World.frozen?_setCell _ _ _ _).trans f5, (World.frozen?_setCell _ _ _ _).trans f6, (World.frozen?_setCell _ _ _ _).trans f7, (World.frozen?_setCell _ _ _ _).trans f8, (World.frozen?_setCell _ _ _ _).trans f9, (World.frozen?_setCell _ _ _ _).trans f10, (World.frozen?_setCell _ _ _ _).trans f11, (World.frozen?_setCell _ _ _ _).trans f12, (World.frozen?_setCell _ _ _ _).trans f13, (World.frozen?_setCell _ _ _ _).trans f14, (World.frozen?_setCell _ _ _ _).trans f15, (World.frozen?_setCell _ _ _ _).trans f16⟩
theorem J17.s16 {U : World} {q : Nat} {v0 v1 v2 v3 v4 v5 v6 v7 v8 v9 v10 v11 v12 v13 v14 v15 v16 : Value} (h : J17 U q v0 v1 v2 v3 v4 v5 v6 v7 v8 v9 v10 v11 v12 v13 v14 v15 v16) (x : Value) : J17 (U.setCell ⟨q, 16, none⟩ x) q v0 v1 v2 v3 v4 v5 v6 v7 v8 v9 v10 v11 v12 v13 v14 v15 x := by
  obtain ⟨c0, c1, c2, c3, c4, c5, c6, c7, c8, c9, c10, c11, c12, c13, c14, c15, c16, f0, f1, f2, f3, f4, f5, f6, f7, f8, f9, f10, f11, f12, f13, f14, f15, f16⟩ := h
  exact ⟨(World.cell?_setCell_other _ _ _ _ (by intro h; cases h)).trans c0, (World.cell?_setCell_other _ _ _ _ (by intro h; cases h)).trans c1, (World.cell?_setCell_other _ _ _ _ (by intro h; cases h)).trans c2, (World.cell?_setCell_other _ _ _ _ (by intro h; cases h)).trans c3, (World.cell?_setCell_other _ _ _ _ (by intro h; cases h)).trans c4, (World.cell?_setCell_other _ _ _ _ (by intro h; cases h)).trans c5, (World.cell?_setCell_other _ _ _ _ (by intro h; cases h)).trans c6, (World.cell?_setCell_other _ _ _ _ (by intro h; cases h)).trans c7, (World.cell?_setCell_other _ _ _ _ (by intro h; cases h)).trans c8, (World.cell?_setCell_other _ _ _ _ (by intro h; cases h)).trans c9, (World.cell?_setCell_other _ _ _ _ (by intro h; cases h)).trans c10, (World.cell?_setCell_other _ _ _ _ (by intro h; cases h)).trans c11, (World.cell?_setCell_other _ _ _ _ (by intro h; cases h)).trans c12, (World.cell?_setCell_other _ _ _ _ (by intro h; cases h)).trans c13, (World.cell?_setCell_other _ _ _ _ (by intro h; cases h)).trans c14, (World.cell?_setCell_other _ _ _ _ (by intro h; cases h)).trans c15, World.cell?_setCell_same _ _ _ c16, (World.frozen?_setCell _ _ _ _).trans f0, (World.frozen?_setCell _ _ _ _).trans f1, (World.frozen?_setCell _ _ _ _).trans f2, (World.frozen?_setCell _ _ _ _).trans f3, (World.frozen?_setCell _ _ _ _).trans f4, (World.frozen?_setCell _ _ _ _).trans f5, (World.frozen?_setCell _ _ _ _).trans f6, (World.frozen?_setCell _ _ _ _).trans f7, (World.frozen?_setCell _ _ _ _).trans f8, (World.frozen?_setCell _ _ _ _).trans f9, (World.frozen?_setCell _ _ _ _).trans f10, (World.frozen?_setCell _ _ _ _).trans f11, (World.frozen?_setCell _ _ _ _).trans f12, (World.frozen?_setCell _ _ _ _).trans f13, (World.frozen?_setCell _ _ _ _).trans f14, (World.frozen?_setCell _ _ _ _).trans f15, (World.frozen?_setCell _ _ _ _).trans f16⟩
theorem J17.range {U : World} {q : Nat} {v0 v1 v2 v3 v4 v5 v6 v7 v8 v9 v10 v11 v12 v13 v14 v15 v16 : Value} (h : J17 U q v0 v1 v2 v3 v4 v5 v6 v7 v8 v9 v10 v11 v12 v13 v14 v15 v16) : U.rangeAt q 0 [v0, v1, v2, v3, v4, v5, v6, v7, v8, v9, v10, v11, v12, v13, v14, v15, v16] := by
  intro j v hv
  rw [Nat.zero_add]
  match j, hv with
  | 0, hv => exact Option.some.inj hv ▸ h.c0
  | 1, hv => exact Option.some.inj hv ▸ h.c1
  | 2, hv => exact Option.some.inj hv ▸ h.c2
  | 3, hv => exact Option.some.inj hv ▸ h.c3
  | 4, hv => exact Option.some.inj hv ▸ h.c4
  | 5, hv => exact Option.some.inj hv ▸ h.c5
  | 6, hv => exact Option.some.inj hv ▸ h.c6
  | 7, hv => exact Option.some.inj hv ▸ h.c7
  | 8, hv => exact Option.some.inj hv ▸ h.c8
  | 9, hv => exact Option.some.inj hv ▸ h.c9
  | 10, hv => exact Option.some.inj hv ▸ h.c10
  | 11, hv => exact Option.some.inj hv ▸ h.c11
  | 12, hv => exact Option.some.inj hv ▸ h.c12
  | 13, hv => exact Option.some.inj hv ▸ h.c13
  | 14, hv => exact Option.some.inj hv ▸ h.c14
  | 15, hv => exact Option.some.inj hv ▸ h.c15
  | 16, hv => exact Option.some.inj hv ▸ h.c16
  | n + 17, hv => exact absurd hv (by simp)
theorem J17.there {U : World} {q : Nat} {v0 v1 v2 v3 v4 v5 v6 v7 v8 v9 v10 v11 v12 v13 v14 v15 v16 : Value} (h : J17 U q v0 v1 v2 v3 v4 v5 v6 v7 v8 v9 v10 v11 v12 v13 v14 v15 v16) : U.there q 0 17 := by
  intro j hv
  rw [Nat.zero_add]
  match j, hv with
  | 0, _ => exact ⟨by rw [h.c0]; rfl, h.f0⟩
  | 1, _ => exact ⟨by rw [h.c1]; rfl, h.f1⟩
  | 2, _ => exact ⟨by rw [h.c2]; rfl, h.f2⟩
  | 3, _ => exact ⟨by rw [h.c3]; rfl, h.f3⟩
  | 4, _ => exact ⟨by rw [h.c4]; rfl, h.f4⟩
  | 5, _ => exact ⟨by rw [h.c5]; rfl, h.f5⟩
  | 6, _ => exact ⟨by rw [h.c6]; rfl, h.f6⟩
  | 7, _ => exact ⟨by rw [h.c7]; rfl, h.f7⟩
  | 8, _ => exact ⟨by rw [h.c8]; rfl, h.f8⟩
  | 9, _ => exact ⟨by rw [h.c9]; rfl, h.f9⟩
  | 10, _ => exact ⟨by rw [h.c10]; rfl, h.f10⟩
  | 11, _ => exact ⟨by rw [h.c11]; rfl, h.f11⟩
  | 12, _ => exact ⟨by rw [h.c12]; rfl, h.f12⟩
  | 13, _ => exact ⟨by rw [h.c13]; rfl, h.f13⟩
  | 14, _ => exact ⟨by rw [h.c14]; rfl, h.f14⟩
  | 15, _ => exact ⟨by rw [h.c15]; rfl, h.f15⟩
  | 16, _ => exact ⟨by rw [h.c16]; rfl, h.f16⟩
  | n + 17, hv => exact absurd hv (by omega)
theorem below_setCells {n b : Nat} {w : World} (hn : n ≤ b) : ∀ (l : List Value) (o : Nat) (w' : World), Below n w w' → Below n w (w'.setCells b o l)
  | [], _, _, h => h
  | v :: l, o, _, h => below_setCells hn l (o + 1) _ (h.setCell hn v)
theorem results_cell_tmp {P : Program} {fn : Func} {p t : Tmp} {ty : TypeId} {tmps : Array Value} {w : World} {ad : Addr} {x y : Value} (h : fn.results = #[.cell p ty, .tmp t]) (hp : tmps.getD p undef = .pointer (some ad)) (ht : tmps.getD t undef = y)
    (hl : (loadVar ty ad).run P w = .ok x w) : (results fn tmps).run P w = .ok (.tuple #[x, y]) w := by
  have hp' : tmps[p]?.getD undef = .pointer (some ad) := by simpa using hp
  have ht' : tmps[t]?.getD undef = y := by simpa using ht
  simp [results, h, hp', ht', asAddr, hl]
theorem J17.ne {U : World} {q p o : Nat} {v0 v1 v2 v3 v4 v5 v6 v7 v8 v9 v10 v11 v12 v13 v14 v15 v16 : Value} (h : J17 U q v0 v1 v2 v3 v4 v5 v6 v7 v8 v9 v10 v11 v12 v13 v14 v15 v16) (x : Value) (hp : p ≠ q) : J17 (U.setCell ⟨p, o, none⟩ x) q v0 v1 v2 v3 v4 v5 v6 v7 v8 v9 v10 v11 v12 v13 v14 v15 v16 := by
  obtain ⟨c0, c1, c2, c3, c4, c5, c6, c7, c8, c9, c10, c11, c12, c13, c14, c15, c16, f0, f1, f2, f3, f4, f5, f6, f7, f8, f9, f10, f11, f12, f13, f14, f15, f16⟩ := h
  have k : ∀ m, (⟨p, o, none⟩ : Addr) ≠ ⟨q, m, none⟩ := fun m e => hp (congrArg Addr.block e)
  exact ⟨(World.cell?_setCell_other _ _ _ _ (k 0)).trans c0, (World.cell?_setCell_other _ _ _ _ (k 1)).trans c1, (World.cell?_setCell_other _ _ _ _ (k 2)).trans c2, (World.cell?_setCell_other _ _ _ _ (k 3)).trans c3, (World.cell?_setCell_other _ _ _ _ (k 4)).trans c4, (World.cell?_setCell_other _ _ _ _ (k 5)).trans c5, (World.cell?_setCell_other _ _ _ _ (k 6)).trans c6, (World.cell?_setCell_other _ _ _ _ (k 7)).trans c7, (World.cell?_setCell_other _ _ _ _ (k 8)).trans c8, (World.cell?_setCell_other _ _ _ _ (k 9)).trans c9, (World.cell?_setCell_other _ _ _ _ (k 10)).trans c10, (World.cell?_setCell_other _ _ _ _ (k 11)).trans c11, (World.cell?_setCell_other _ _ _ _ (k 12)).trans c12, (World.cell?_setCell_other _ _ _ _ (k 13)).trans c13, (World.cell?_setCell_other _ _ _ _ (k 14)).trans c14, (World.cell?_setCell_other _ _ _ _ (k 15)).trans c15, (World.cell?_setCell_other _ _ _ _ (k 16)).trans c16, (World.frozen?_setCell _ _ _ _).trans f0, (World.frozen?_setCell _ _ _ _).trans f1, (World.frozen?_setCell _ _ _ _).trans f2, (World.frozen?_setCell _ _ _ _).trans f3, (World.frozen?_setCell _ _ _ _).trans f4, (World.frozen?_setCell _ _ _ _).trans f5, (World.frozen?_setCell _ _ _ _).trans f6, (World.frozen?_setCell _ _ _ _).trans f7, (World.frozen?_setCell _ _ _ _).trans f8, (World.frozen?_setCell _ _ _ _).trans f9, (World.frozen?_setCell _ _ _ _).trans f10, (World.frozen?_setCell _ _ _ _).trans f11, (World.frozen?_setCell _ _ _ _).trans f12, (World.frozen?_setCell _ _ _ _).trans f13, (World.frozen?_setCell _ _ _ _).trans f14, (World.frozen?_setCell _ _ _ _).trans f15, (World.frozen?_setCell _ _ _ _).trans f16⟩
def jJ : JobV := ⟨1, 1, 0, 2, 5, 0, 0, false, 0, 0, 3, 0, 0, 0#64, 0#64, 0, 0⟩
def jK : JobV := ⟨1, 1, 0, 2, 5, 0, 0, false, 1, 0, 3, 0, 1, 0#64, 17#64, 3, 0⟩
def jD : JobV := ⟨1, 1, 0, 2, 5, 0, 0, false, 2, 0, 3, 0, 1, 0#64, 17#64, 3, 7⟩
theorem begin_j (w : World) : Calls Tryd.prog 12 #[.agg #[.int .i64 1, .int .i64 1, .int .i64 0, .int .i64 2, .int .i64 5, .int .i64 0, .int .i64 0, .bool false, .int .i64 0, .int .i64 0, .int .i64 3, .int .i64 0, .int .i64 0, .int .u64 0, .int .u64 0, .int .i64 0, .int .i64 0], .int .i64 3, .int .u64 (nv 17#64)] w fun e w' => e = .returned (.tuple #[.agg #[.int .i64 1, .int .i64 1, .int .i64 0, .int .i64 2, .int .i64 5, .int .i64 0, .int .i64 0, .bool false, .int .i64 1, .int .i64 0, .int .i64 3, .int .i64 0, .int .i64 1, .int .u64 0, .int .u64 (nv 17#64), .int .i64 3, .int .i64 0], .int .i64 0]) ∧ Below w.heap.size w w' := by
  have h := begin_any jJ 3 17#64 w
  rw [show beginJ jJ 3 17#64 = (jK, 0) by kernel_rfl] at h
  exact h
theorem stop_k (w : World) : Calls Tryd.prog 13 #[.agg #[.int .i64 1, .int .i64 1, .int .i64 0, .int .i64 2, .int .i64 5, .int .i64 0, .int .i64 0, .bool false, .int .i64 1, .int .i64 0, .int .i64 3, .int .i64 0, .int .i64 1, .int .u64 0, .int .u64 (nv 17#64), .int .i64 3, .int .i64 0], .int .i64 7, .int .i64 2] w fun e w' => e = .returned (.tuple #[.agg #[.int .i64 1, .int .i64 1, .int .i64 0, .int .i64 2, .int .i64 5, .int .i64 0, .int .i64 0, .bool false, .int .i64 2, .int .i64 0, .int .i64 3, .int .i64 0, .int .i64 1, .int .u64 0, .int .u64 (nv 17#64), .int .i64 3, .int .i64 7], .int .i64 0]) ∧ Below w.heap.size w w' := by
  have h := stop_any jK 7 2 w
  rw [show stopJ jK 7 2 = (jD, 0) by kernel_rfl] at h
  exact h
theorem until_k (w : World) : Calls Tryd.prog 31 #[.agg #[.int .i64 1, .int .i64 1, .int .i64 0, .int .i64 2, .int .i64 5, .int .i64 0, .int .i64 0, .bool false, .int .i64 1, .int .i64 0, .int .i64 3, .int .i64 0, .int .i64 1, .int .u64 0, .int .u64 (nv 17#64), .int .i64 3, .int .i64 0]] w fun e w' => e = .returned (.int .i64 8) ∧ Below w.heap.size w w' := by
  have h := until_any jK w
  rw [show untilJ jK = 8 by kernel_rfl] at h
  exact h
theorem over_d (w : World) : Calls Tryd.prog 17 #[.agg #[.int .i64 1, .int .i64 1, .int .i64 0, .int .i64 2, .int .i64 5, .int .i64 0, .int .i64 0, .bool false, .int .i64 2, .int .i64 0, .int .i64 3, .int .i64 0, .int .i64 1, .int .u64 0, .int .u64 (nv 17#64), .int .i64 3, .int .i64 7]] w fun e w' => e = .returned (.bool true) ∧ Below w.heap.size w w' := by
  have h := over_any jD w
  rw [show overB jD = true by kernel_rfl] at h
  exact h
theorem right_j (w : World) : Calls Tryd.prog 11 #[.agg #[.int .i64 1, .int .i64 1, .int .i64 0, .int .i64 2, .int .i64 5, .int .i64 0, .int .i64 0, .bool false, .int .i64 0, .int .i64 0, .int .i64 3, .int .i64 0, .int .i64 0, .int .u64 0, .int .u64 0, .int .i64 0, .int .i64 0]] w fun e w' => e = .returned (.bool true) ∧ Below w.heap.size w w' := by
  have h := right_any jJ w
  rw [show rightB jJ = true by kernel_rfl] at h
  exact h
end Go.Proofs.YtgeldpfojmkdbaaDoor
namespace Go.Proofs.YtgeldpfojmkdbaaDoor
set_option linter.unusedVariables false
open Go.ChangeShapes Go.WideShapes Go.ChangeAt Go.RowKit
attribute [local go_sem ↓] Go.wp_at_zero Go.wp_at_succ comesTo_value_eq comesTo_skip_eq comesTo_enter_eq

theorem wrote_cells {w0 : World} {b : Nat} {T : TypeId} : ∀ (l : List Value) (o : Nat) (w' : World) (cs : List Value), WroteTo b T cs.toArray w0 w' → o + l.length = cs.length → WroteTo b T (cs.take o ++ l).toArray w0 (w'.setCells b o l)
  | [], o, w', cs, h, hl => by
    rw [List.append_nil, List.take_of_length_le (by simpa using Nat.le_of_eq hl.symm)]
    exact h
  | v :: l, o, w', cs, h, hl => by
    have h1 := h.set o v
    rw [List.setIfInBounds_toArray] at h1
    have h2 := wrote_cells l (o + 1) _ _ h1 (by simp at hl ⊢; omega)
    have ho : o < cs.length := by simp at hl; omega
    have e : (cs.set o v).take (o + 1) ++ l = cs.take o ++ v :: l := by
      rw [List.take_succ_eq_append_getElem (by simpa using ho), List.take_set_of_le (Nat.le_refl _), List.getElem_set_self, List.append_assoc]
      rfl
    rw [e] at h2
    exact h2
theorem wrote_17 {w : World} {b : Nat} {T : TypeId} {v0 v1 v2 v3 v4 v5 v6 v7 v8 v9 v10 v11 v12 v13 v14 v15 v16 u0 u1 u2 u3 u4 u5 u6 u7 u8 u9 u10 u11 u12 u13 u14 u15 u16 : Value} (h : w.heap[b]? = some (.cells #[v0, v1, v2, v3, v4, v5, v6, v7, v8, v9, v10, v11, v12, v13, v14, v15, v16] T (0, 0))) : WroteTo b T #[u0, u1, u2, u3, u4, u5, u6, u7, u8, u9, u10, u11, u12, u13, u14, u15, u16] w (w.setCells b 0 [u0, u1, u2, u3, u4, u5, u6, u7, u8, u9, u10, u11, u12, u13, u14, u15, u16]) :=
  wrote_cells [u0, u1, u2, u3, u4, u5, u6, u7, u8, u9, u10, u11, u12, u13, u14, u15, u16] 0 w [v0, v1, v2, v3, v4, v5, v6, v7, v8, v9, v10, v11, v12, v13, v14, v15, v16] (wrote_refl h) rfl
theorem exec_store_mid {P : Program} {op : Oper} {ρ : Operand → Value} {w : World} (ty : TypeId) (x y : Operand) (ho : op.op = .store ty x y) (b o : Nat) (cells : Array Value) (hx : ρ x = .pointer (some ⟨b, o, none⟩)) (hy : ρ y = .agg cells)
    (ht : w.there b o cells.size) (hi : (P.info? ty).map (·.size) = some cells.size) (h1 : cells.all (·.oneCell') = true) : (execOp ρ op).run P w = .ok .skip (w.setCells b o cells.toList) := by
  unfold execOp
  simp only [ho, hx, hy, Instr.storeAt, Instr.sureAddr, Sem.run_bind, Sem.run_pure, Result.andThen_ok, run_storeVar_mid w b o ty cells ht hi h1]
theorem wpList_val {P : Program} {ops : Array Oper} {rest : List Oper} {o : Oper} {a : Act} {w w' : World} {v : Value} {Q : Exit → Act → World → Prop} (hgd : o.guard = none) (h : (execOp a.eval o).run P w = .ok (.value v) w') (hr : wpList P ops Q rest (a.put o.dst v) w') : wpList P ops Q (o :: rest) a w :=
  wpList_plain hgd fun _ hK => by unfold Oper.wp; rw [h]; exact hK _ _ hr
theorem of04 (b : Nat) (W : World) (hb : W.heap[b]? = some (.cells #[.int .i64 0, .int .i64 4] 3 (0, 0))) : Calls Tryd.prog 30 #[.slice (some ⟨b, 0, none⟩) 2 2] W fun e w' => e = .returned (.int .u64 (nv 17#64)) ∧ Below W.heap.size W w' := of_block [0, 4] 17#64 (by decide) (by decide) b W hb
set_option maxRecDepth 100000 in
set_option maxHeartbeats 4000000 in
theorem job_one (w : World) : Calls Tryd.prog 10 #[] w fun e w' => e = .returned (.bool true) ∧ Below w.heap.size w w' := by
  go_enter Tryd.func10, Tryd.ntmps10
  go_upto_region 2 with fail
  generalize hW : w.alloc (.cells #[.int .i64 1, .int .i64 1, .int .i64 0, .int .i64 2, .int .i64 5, .int .i64 0, .int .i64 0, .bool false, .int .i64 0, .int .i64 0, .int .i64 3, .int .i64 0, .int .i64 0, .int .u64 0, .int .u64 0, .int .i64 0, .int .i64 0] 26) = U
  have hJ : J17 U w.heap.size (.int .i64 1) (.int .i64 1) (.int .i64 0) (.int .i64 2) (.int .i64 5) (.int .i64 0) (.int .i64 0) (.bool false) (.int .i64 0) (.int .i64 0) (.int .i64 3) (.int .i64 0) (.int .i64 0) (.int .u64 0) (.int .u64 0) (.int .i64 0) (.int .i64 0) := by rw [← hW]; exact J17.new (blk_new _ _ _)
  have HB := Lib.hid (show Below w.heap.size w U by rw [← hW]; exact (by repeat (first | exact Below.refl _ _ | assumption | refine below_drewN ?_ _ | refine Below.drew ?_ | refine below_alloc ?_ _ | refine Below.alloc ?_ (by first | omega | (simp; done) | (simp; omega)) _ | refine Below.setCell ?_ (Below.size (by assumption)) _ | refine Below.setCell ?_ (by first | omega | (simp; done) | (simp; omega)) _ | (refine Below.trans ?_ (Below.mono (by assumption) (by first | omega | (simp; done) | (simp; omega)))) | refine below_next ?_ (by assumption))))
  clear hW
  have l0 := hJ.lt
  have HJ := Lib.hid hJ
  obtain ⟨c0, c1, c2, c3, c4, c5, c6, c7, c8, c9, c10, c11, c12, c13, c14, c15, c16, f0, f1, f2, f3, f4, f5, f6, f7, f8, f9, f10, f11, f12, f13, f14, f15, f16⟩ := hJ
  refine Bld.wp_region_build U (by kernel_rfl) (by kernel_rfl) (Below.refl _ _) ?_
  (refine Bld.textB_det ?_ rfl rfl rfl ?_ (fun W hS => ?_) ?_; rotate_left; (focus go_simp); (focus (obtain ⟨hc, hf⟩ := bcell hS; go_simp; first | (refine ⟨?_, Below.refl _ _⟩; rfl) | rfl | exact Below.refl _ _)); (try go_simp))
  clear c0 c1 c2 c3 c4 c5 c6 c7 c8 c9 c10 c11 c12 c13 c14 c15 c16 f0 f1 f2 f3 f4 f5 f6 f7 f8 f9 f10 f11 f12 f13 f14 f15 f16
  (refine Bld.textB_al _ ((3), (#[.int .i64 0, .int .i64 4]), (some 2)) rfl rfl rfl rfl (fun W => ?_) ?_; (focus (first | rfl | (go_simp; done) | (go_simp; rfl))); (try go_simp))
  (refine Bld.textB_use ?_ (9) _ rfl rfl rfl rfl (fun b => ?_) (fun b W hS hB hb => ?_) ?_; rotate_left; (focus go_simp); (focus (go_simp; refine (of04 b W hb).mono ?_; rintro e w1 ⟨rfl, hbb⟩; refine ⟨?_, hbb⟩; rfl)); (try go_simp))
  (refine Bld.textB_det ?_ rfl rfl rfl ?_ (fun W hS => ?_) ?_; rotate_left; (focus go_simp); (focus (obtain ⟨hc, hf⟩ := bcell hS; go_simp; refine (begin_j _).mono ?_; rintro e w1 ⟨rfl, hb⟩; refine ⟨?_, hb⟩; rfl)); (try go_simp))
  (refine Bld.textB_det ?_ rfl rfl rfl ?_ (fun W hS => ?_) ?_; rotate_left; (focus go_simp); (focus (obtain ⟨hc, hf⟩ := bcell hS; go_simp; first | (refine ⟨?_, Below.refl _ _⟩; rfl) | rfl | exact Below.refl _ _)); (try go_simp))
  (refine Bld.textB_det ?_ rfl rfl rfl ?_ (fun W hS => ?_) ?_; rotate_left; (focus go_simp); (focus (obtain ⟨hc, hf⟩ := bcell hS; go_simp; first | (refine ⟨?_, Below.refl _ _⟩; rfl) | rfl | exact Below.refl _ _)); (try go_simp))
  (refine Bld.textB_det ?_ rfl rfl rfl ?_ (fun W hS => ?_) ?_; rotate_left; (focus go_simp); (focus (obtain ⟨hc, hf⟩ := bcell hS; go_simp; first | (refine ⟨?_, Below.refl _ _⟩; rfl) | rfl | exact Below.refl _ _)); (try go_simp))
  (refine Bld.textB_al _ ((26), (#[.int .i64 0, .int .i64 0, .int .i64 0, .int .i64 0, .int .i64 0, .int .i64 0, .int .i64 0, .bool false, .int .i64 0, .int .i64 0, .int .i64 0, .int .i64 0, .int .i64 0, .int .u64 0, .int .u64 0, .int .i64 0, .int .i64 0]), (none)) rfl rfl rfl rfl (fun W => ?_) ?_; (focus (first | rfl | (go_simp; done) | (go_simp; rfl))); (try go_simp))
  (refine Bld.textB_st _ _ (#[.int .i64 1, .int .i64 1, .int .i64 0, .int .i64 2, .int .i64 5, .int .i64 0, .int .i64 0, .bool false, .int .i64 1, .int .i64 0, .int .i64 3, .int .i64 0, .int .i64 1, .int .u64 0, .int .u64 (nv 17#64), .int .i64 3, .int .i64 0]) rfl rfl rfl rfl rfl (fun b W hb => ?_) ?_; (focus (refine ⟨_, ?_, wrote_17 hb⟩; exact exec_store_mid 26 _ _ rfl b 0 #[.int .i64 1, .int .i64 1, .int .i64 0, .int .i64 2, .int .i64 5, .int .i64 0, .int .i64 0, .bool false, .int .i64 1, .int .i64 0, .int .i64 3, .int .i64 0, .int .i64 1, .int .u64 0, .int .u64 (nv 17#64), .int .i64 3, .int .i64 0] (by first | (go_simp; done) | (go_simp; rfl)) (by first | (go_simp; done) | (go_simp; rfl)) (J17.there (J17.new hb)) (by kernel_rfl) (by first | kernel_rfl | (simp [Value.oneCell']; done)))); (try go_simp))
  (refine Bld.textB_det ?_ rfl rfl rfl ?_ (fun W hS => ?_) ?_; rotate_left; (focus go_simp); (focus (obtain ⟨hc, hf⟩ := bcell hS; go_simp; first | (refine ⟨?_, Below.refl _ _⟩; rfl) | rfl | exact Below.refl _ _)); (try go_simp))
  intro blk w1 hb1 hbx hbd
  have hk : J17 w1 (blk 2) (.int .i64 1) (.int .i64 1) (.int .i64 0) (.int .i64 2) (.int .i64 5) (.int .i64 0) (.int .i64 0) (.bool false) (.int .i64 1) (.int .i64 0) (.int .i64 3) (.int .i64 0) (.int .i64 1) (.int .u64 0) (.int .u64 (nv 17#64)) (.int .i64 3) (.int .i64 0) := J17.new (hbx _ List.mem_cons_self).2
  clear hbx hbd
  simp only [Bld.putZ, Bld.mkVal]
  generalize blk 2 = q2 at *
  generalize blk 9 = z9 at *
  clear blk l0
  have tJ := J17.below HJ.out hb1
  have HB1 := Lib.hid (below_next HB.out hb1)
  clear HJ hb1 HB
  have HJ := Lib.hid tJ
  have HK := Lib.hid hk
  clear tJ hk
  go_upto_region 3 with fail
  as_aux_lemma =>
  refine wp_region_lit ?_
  refine wpList_load_mid rfl 26 _ rfl q2 0 (by go_simp) [.int .i64 1, .int .i64 1, .int .i64 0, .int .i64 2, .int .i64 5, .int .i64 0, .int .i64 0, .bool false, .int .i64 1, .int .i64 0, .int .i64 3, .int .i64 0, .int .i64 1, .int .u64 0, .int .u64 (nv 17#64), .int .i64 3, .int .i64 0] _ (J17.range HK.out) Tryd.underlying26 rfl (by kernel_rfl) ?_
  go_wp2_with fail
  refine (stop_k _).mono ?_
  rintro e w2 ⟨rfl, hb2⟩
  have tHJ := J17.below HJ.out hb2
  have tHK := J17.below HK.out hb2
  have HB2 := Lib.hid (below_next HB1.out hb2)
  clear HJ HK hb2 HB1
  have HJ := Lib.hid tHJ
  clear tHJ
  have HK := Lib.hid tHK
  clear tHK
  rename_i hK
  refine hK _ _ ?_
  as_aux_lemma =>
  refine wpList_val (w' := w2) (v := .tuple #[.agg #[.int .i64 1, .int .i64 1, .int .i64 0, .int .i64 2, .int .i64 5, .int .i64 0, .int .i64 0, .bool false, .int .i64 2, .int .i64 0, .int .i64 3, .int .i64 0, .int .i64 1, .int .u64 0, .int .u64 (nv 17#64), .int .i64 3, .int .i64 7], .int .i64 0]) rfl (by first | (go_simp; done) | (go_simp; rfl)) ?_
  refine wpList_val (w' := w2) (v := .agg #[.int .i64 1, .int .i64 1, .int .i64 0, .int .i64 2, .int .i64 5, .int .i64 0, .int .i64 0, .bool false, .int .i64 2, .int .i64 0, .int .i64 3, .int .i64 0, .int .i64 1, .int .u64 0, .int .u64 (nv 17#64), .int .i64 3, .int .i64 7]) rfl (by first | (go_simp; done) | (go_simp; rfl)) ?_
  refine wpList_val (w' := w2) (v := .int .i64 0) rfl (by first | (go_simp; done) | (go_simp; rfl)) ?_
  refine wpList_val (w' := w2.alloc (.cells #[.int .i64 0, .int .i64 0, .int .i64 0, .int .i64 0, .int .i64 0, .int .i64 0, .int .i64 0, .bool false, .int .i64 0, .int .i64 0, .int .i64 0, .int .i64 0, .int .i64 0, .int .u64 0, .int .u64 0, .int .i64 0, .int .i64 0] 26)) (v := .pointer (some ⟨w2.heap.size, 0, none⟩)) rfl (by first | rfl | (go_simp; done) | (go_simp; rfl)) ?_
  have hn : (w2.alloc (.cells #[.int .i64 0, .int .i64 0, .int .i64 0, .int .i64 0, .int .i64 0, .int .i64 0, .int .i64 0, .bool false, .int .i64 0, .int .i64 0, .int .i64 0, .int .i64 0, .int .i64 0, .int .u64 0, .int .u64 0, .int .i64 0, .int .i64 0] 26)).heap[w2.heap.size]? = some (.cells #[.int .i64 0, .int .i64 0, .int .i64 0, .int .i64 0, .int .i64 0, .int .i64 0, .int .i64 0, .bool false, .int .i64 0, .int .i64 0, .int .i64 0, .int .i64 0, .int .i64 0, .int .u64 0, .int .u64 0, .int .i64 0, .int .i64 0] 26 (0, 0)) := blk_new _ _ _
  have hba : Below w2.heap.size w2 (w2.alloc (.cells #[.int .i64 0, .int .i64 0, .int .i64 0, .int .i64 0, .int .i64 0, .int .i64 0, .int .i64 0, .bool false, .int .i64 0, .int .i64 0, .int .i64 0, .int .i64 0, .int .i64 0, .int .u64 0, .int .u64 0, .int .i64 0, .int .i64 0] 26)) := below_alloc (Below.refl _ _) _
  generalize w2.alloc (.cells #[.int .i64 0, .int .i64 0, .int .i64 0, .int .i64 0, .int .i64 0, .int .i64 0, .int .i64 0, .bool false, .int .i64 0, .int .i64 0, .int .i64 0, .int .i64 0, .int .i64 0, .int .u64 0, .int .u64 0, .int .i64 0, .int .i64 0] 26) = w3 at *
  refine wpList_store_mid rfl 26 _ _ rfl w2.heap.size 0 #[.int .i64 1, .int .i64 1, .int .i64 0, .int .i64 2, .int .i64 5, .int .i64 0, .int .i64 0, .bool false, .int .i64 2, .int .i64 0, .int .i64 3, .int .i64 0, .int .i64 1, .int .u64 0, .int .u64 (nv 17#64), .int .i64 3, .int .i64 7] (by go_simp) (by go_simp) (J17.there (J17.new hn)) (by kernel_rfl) (by first | kernel_rfl | (simp [Value.oneCell']; done)) ?_
  have hd : J17 (w3.setCells w2.heap.size 0 [.int .i64 1, .int .i64 1, .int .i64 0, .int .i64 2, .int .i64 5, .int .i64 0, .int .i64 0, .bool false, .int .i64 2, .int .i64 0, .int .i64 3, .int .i64 0, .int .i64 1, .int .u64 0, .int .u64 (nv 17#64), .int .i64 3, .int .i64 7]) w2.heap.size (.int .i64 1) (.int .i64 1) (.int .i64 0) (.int .i64 2) (.int .i64 5) (.int .i64 0) (.int .i64 0) (.bool false) (.int .i64 2) (.int .i64 0) (.int .i64 3) (.int .i64 0) (.int .i64 1) (.int .u64 0) (.int .u64 (nv 17#64)) (.int .i64 3) (.int .i64 7) := J17.new (wrote_17 hn).there
  have hb3 := below_setCells (Nat.le_refl _) [.int .i64 1, .int .i64 1, .int .i64 0, .int .i64 2, .int .i64 5, .int .i64 0, .int .i64 0, .bool false, .int .i64 2, .int .i64 0, .int .i64 3, .int .i64 0, .int .i64 1, .int .u64 0, .int .u64 (nv 17#64), .int .i64 3, .int .i64 7] 0 _ hba
  change wpList _ _ _ _ _ (w3.setCells w2.heap.size 0 [.int .i64 1, .int .i64 1, .int .i64 0, .int .i64 2, .int .i64 5, .int .i64 0, .int .i64 0, .bool false, .int .i64 2, .int .i64 0, .int .i64 3, .int .i64 0, .int .i64 1, .int .u64 0, .int .u64 (nv 17#64), .int .i64 3, .int .i64 7])
  generalize w3.setCells w2.heap.size 0 [.int .i64 1, .int .i64 1, .int .i64 0, .int .i64 2, .int .i64 5, .int .i64 0, .int .i64 0, .bool false, .int .i64 2, .int .i64 0, .int .i64 3, .int .i64 0, .int .i64 1, .int .u64 0, .int .u64 (nv 17#64), .int .i64 3, .int .i64 7] = w4 at *
  clear hn hba
  have HD := Lib.hid hd
  clear hd
  generalize hq4 : w2.heap.size = q4 at *
  have hb3' : Below w2.heap.size w2 w4 := by rw [hq4]; exact hb3
  have tJ := J17.below HJ.out hb3'
  have tK := J17.below HK.out hb3'
  have HB4 := Lib.hid (below_next HB2.out hb3')
  clear HJ HK HB2 hb3 hb3' hq4
  have HJ := Lib.hid tJ
  have HK := Lib.hid tK
  clear tJ tK w3
  go_upto_region 4 with fail
  as_aux_lemma =>
  obtain ⟨c0, c1, c2, c3, c4, c5, c6, c7, c8, c9, c10, c11, c12, c13, c14, c15, c16, f0, f1, f2, f3, f4, f5, f6, f7, f8, f9, f10, f11, f12, f13, f14, f15, f16⟩ := HK.out
  go_wp2_with fail
  as_aux_lemma =>
  clear c0 c1 c2 c3 c4 c5 c6 c7 c8 c9 c10 c11 c12 c13 c14 c15 c16 f0 f1 f2 f3 f4 f5 f6 f7 f8 f9 f10 f11 f12 f13 f14 f15 f16
  refine (until_k _).mono ?_
  rintro e w5 ⟨rfl, hb5⟩
  have tHJ := J17.below HJ.out hb5
  have tHK := J17.below HK.out hb5
  have tHD := J17.below HD.out hb5
  have HB5 := Lib.hid (below_next HB4.out hb5)
  clear HJ HK HD hb5 HB4
  have HJ := Lib.hid tHJ
  clear tHJ
  have HK := Lib.hid tHK
  clear tHK
  have HD := Lib.hid tHD
  clear tHD
  rename_i hK
  refine hK _ _ ?_
  as_aux_lemma =>
  obtain ⟨c0, c1, c2, c3, c4, c5, c6, c7, c8, c9, c10, c11, c12, c13, c14, c15, c16, f0, f1, f2, f3, f4, f5, f6, f7, f8, f9, f10, f11, f12, f13, f14, f15, f16⟩ := HD.out
  go_wp2_with fail
  as_aux_lemma =>
  clear c0 c1 c2 c3 c4 c5 c6 c7 c8 c9 c10 c11 c12 c13 c14 c15 c16 f0 f1 f2 f3 f4 f5 f6 f7 f8 f9 f10 f11 f12 f13 f14 f15 f16
  refine (over_d _).mono ?_
  rintro e w6 ⟨rfl, hb6⟩
  have tHJ := J17.below HJ.out hb6
  have tHK := J17.below HK.out hb6
  have tHD := J17.below HD.out hb6
  have HB6 := Lib.hid (below_next HB5.out hb6)
  clear HJ HK HD hb6 HB5
  have HJ := Lib.hid tHJ
  clear tHJ
  have HK := Lib.hid tHK
  clear tHK
  have HD := Lib.hid tHD
  clear tHD
  rename_i hK
  refine hK _ _ ?_
  as_aux_lemma =>
  obtain ⟨c0, c1, c2, c3, c4, c5, c6, c7, c8, c9, c10, c11, c12, c13, c14, c15, c16, f0, f1, f2, f3, f4, f5, f6, f7, f8, f9, f10, f11, f12, f13, f14, f15, f16⟩ := HJ.out
  go_wp2_with fail
  as_aux_lemma =>
  clear c0 c1 c2 c3 c4 c5 c6 c7 c8 c9 c10 c11 c12 c13 c14 c15 c16 f0 f1 f2 f3 f4 f5 f6 f7 f8 f9 f10 f11 f12 f13 f14 f15 f16
  refine (right_j _).mono ?_
  rintro e w7 ⟨rfl, hb7⟩
  have tHJ := J17.below HJ.out hb7
  have tHK := J17.below HK.out hb7
  have tHD := J17.below HD.out hb7
  have HB7 := Lib.hid (below_next HB6.out hb7)
  clear HJ HK HD hb7 HB6
  have HJ := Lib.hid tHJ
  clear tHJ
  have HK := Lib.hid tHK
  clear tHK
  have HD := Lib.hid tHD
  clear tHD
  rename_i hK
  refine hK _ _ ?_
  go_wp2
  go_ret
  exact ⟨rfl, HB7.out⟩
end Go.Proofs.YtgeldpfojmkdbaaDoor
