/- A command's bytes (layer 22): Put walked. No condition. -/
import Derived.Test.YtlejicmpefdhpaaDoorCmdR
namespace Go.Proofs.YtlejicmpefdhpaaDoor
set_option linter.unusedVariables false
open Go.ChangeShapes Go.WideShapes Go.ChangeAt Go.RowKit
attribute [local go_sem ↓] Go.wp_at_zero Go.wp_at_succ comesTo_value_eq comesTo_skip_eq comesTo_enter_eq

theorem getD_mem12 {zs : List Int} {j : Nat} (h : j < zs.length) : zs.getD j 0 ∈ zs := by simp [List.getD, h]
theorem index12 {zs : List Int} (h : zs.length = 12) (j : Nat) (hj : j < 12) (w : World) : (Instr.index 55 (.agg (numC zs).toArray) (.int .i64 (j : Int))).run Tryd.prog w = .ok (.int .i64 (zs.getD j 0)) w := by
  obtain ⟨x0, x1, x2, x3, x4, x5, x6, x7, x8, x9, x10, x11, rfl⟩ := twelve h
  rcases (show j = 0 ∨ j = 1 ∨ j = 2 ∨ j = 3 ∨ j = 4 ∨ j = 5 ∨ j = 6 ∨ j = 7 ∨ j = 8 ∨ j = 9 ∨ j = 10 ∨ j = 11 by omega) with rfl | rfl | rfl | rfl | rfl | rfl | rfl | rfl | rfl | rfl | rfl | rfl <;> kernel_rfl
set_option maxRecDepth 100000 in
set_option maxHeartbeats 400000 in
theorem put_c {xs : List Int} (h : Cmd12 xs) (w : World) : Calls Tryd.prog 14 #[.agg (cmdC xs).toArray] w fun e w' => ∃ u, e = .returned u ∧ OwnTxt w' w.heap.size u (putC xs) ∧ Below w.heap.size w w' := by
  have KC := Lib.hid (fun W => clean_c h W)
  have KL := Lib.hid (fun W => laid_c (cleanL_cmd h) W)
  have HLEN := Lib.hid (cmdC_len h.len)
  have HZ := Lib.hid (cleanL_cmd h)
  have HPC := Lib.hid (show putC xs = (cleanL xs).flatMap putI from rfl)
  have HIX := Lib.hid (fun j hj W => index12 (cleanL_len xs) j hj W)
  generalize hl : cmdC xs = l at *
  generalize hm : numC (cleanL xs) = m at *
  generalize hz : cmdC (cleanL xs) = z at *
  generalize hzs : cleanL xs = zs at *
  clear hl hm hz hzs
  go_enter Tryd.func14, Tryd.ntmps14
  go_upto_region 2 with fail
  have hC := World.alloc_heap_new w (.cells l.toArray 24)
  have HB := Lib.hid (below_alloc (Below.refl _ w) (.cells l.toArray 24))
  generalize w.alloc (.cells l.toArray 24) = U at *
  have HC := Lib.hid hC
  clear hC
  refine wp_region_lit ?_
  refine wpList_load_all rfl 24 _ rfl w.heap.size l _ (by go_simp) HC.out Tryd.underlying24 rfl (by rw [HLEN.out]; kernel_rfl) ?_
  refine wpList_enter rfl (by go_simp) (KC.out U) ?_
  rintro e w2 ⟨rfl, hb2⟩
  refine ⟨_, rfl, ?_⟩
  refine wpList_enter rfl (by go_simp) (KL.out w2) ?_
  rintro e w3 ⟨rfl, hb3⟩
  refine ⟨_, rfl, ?_⟩
  have HB3 := Lib.hid (below_next (below_next HB.out hb2) hb3)
  clear hb2 hb3 HB HC KC KL
  go_wp2_with fail
  go_loopw [3, 9] (fun b i wr => ∃ (j : Nat) (u : Value), j ≤ 12 ∧ b = u ∧ i = .int .i64 j ∧ OwnTxt wr w.heap.size u ((zs.take j).flatMap putI) ∧ Below w.heap.size w wr) (fun _ i _ => 12 - (intOf i).toNat)
  case atStart => exact ⟨0, _, Nat.zero_le _, rfl, rfl, OwnTxt.nil, HB3.out⟩
  case round =>
    obtain ⟨j, u, hj, rfl, rfl, ho, hb⟩ := hrel
    have HO := Lib.hid ho
    have HB := Lib.hid hb
    clear ho hb
    by_cases hlt : j < 12
    · have hd : decide ((j : Int) < 12) = true := decide_eq_true (by omega)
      have hjz : j < zs.length := by rw [HZ.out.len]; exact hlt
      have htk : zs.take (j + 1) = zs.take j ++ [zs.getD j 0] := by
        rw [List.take_add_one]; simp [List.getD, hjz]
      have hix := HIX.out j hlt wr
      have hlen : ((zs.take j).flatMap putI).length ≤ 1099511627776 := by
        have := flat_len (zs.take j) (fun x hx => HZ.out.inb x (List.mem_of_mem_take hx))
        have h2 : (zs.take j).length ≤ 12 := by simp; omega
        omega
      have KP := Lib.hid (putint_any HO.out.at hlen (HZ.out.inb _ (getD_mem12 hjz)))
      have HTK := Lib.hid (show (zs.take (j + 1)).flatMap putI = (zs.take j).flatMap putI ++ putI (zs.getD j 0) by rw [htk, List.flatMap_append]; simp)
      clear htk hlen hjz
      generalize zs.getD j 0 = v at *
      go_wp2_with fail
      ((with_reducible refine KP.out.mono ?_))
      rintro e w4 ⟨u4, rfl, ho4, hb4⟩
      have HO4 := Lib.hid ho4
      have HB4 := Lib.hid (below_next HB.out hb4)
      clear ho4 hb4 hix
      go_wp2_with fail
      go_roundw
      case rel => exact ⟨j + 1, u4, by omega, rfl, by go_num, by rw [HTK.out]; exact HO4.out.base HB.out.size, HB4.out⟩
      case measure => simp [intOf]; omega
    · have hd : decide ((j : Int) < 12) = false := decide_eq_false (by omega)
      have HE := Lib.hid (show (zs.take j).flatMap putI = putC xs by rw [List.take_of_length_le (by rw [HZ.out.len]; omega), HPC.out])
      go_wp2
      go_ret
      exact ⟨_, rfl, by rw [← HE.out]; exact HO.out, HB.out⟩
end Go.Proofs.YtlejicmpefdhpaaDoor
