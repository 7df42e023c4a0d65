/- Layer 22's small play: it answers true. Its conditions: errors.errorType and cmd.names read as the program's text lays them. -/
import Derived.Test.YtlejicmpefdhpaaDoorCmdQ
namespace Go.Proofs.YtlejicmpefdhpaaDoor
set_option linter.unusedVariables false
open Go.ChangeShapes Go.WideShapes Go.ChangeAt Go.RowKit
attribute [local go_sem ↓] Go.wp_at_zero Go.wp_at_succ comesTo_value_eq comesTo_skip_eq comesTo_enter_eq Rl.comesToR_value_eq Rl.comesToR_skip_eq Rl.comesToR_enter_eq

theorem one_cmd : Cmd12 [2, 5, 3, 0, 0, 0, 0, 0, 0, 0, 0, 0] := ⟨rfl, .inl rfl, by decide⟩
theorem one_clean : cleanL [2, 5, 3, 0, 0, 0, 0, 0, 0, 0, 0, 0] = [2, 5, 0, 0, 0, 0, 0, 0, 0, 0, 0, 0] := by decide +kernel
theorem one_right : rightL [2, 5, 3, 0, 0, 0, 0, 0, 0, 0, 0, 0] = true := by decide +kernel
theorem one_ycmd : Cmd12 [2, 5, 0, 0, 0, 0, 0, 0, 0, 0, 0, 0] := ⟨rfl, .inl rfl, by decide⟩
set_option maxRecDepth 100000 in
set_option maxHeartbeats 1000000 in
theorem cmd_one (w : World) (hE : ErrAt w) (hN : CmdNamesAt w) : Calls Tryd.prog 16 #[] w fun e w' => e = .returned (.bool true) ∧ Below w.heap.size w w' := by
  have hmx : Tryd.prog.follows .mixedOrders = true := by kernel_rfl
  have hl1 : (Tryd.prog.info? 24).map (·.size) = some (cmdC [2, 5, 3, 0, 0, 0, 0, 0, 0, 0, 0, 0]).length := by kernel_rfl
  have hl2 : (Tryd.prog.info? 24).map (·.size) = some (cmdC [2, 5, 0, 0, 0, 0, 0, 0, 0, 0, 0, 0]).length := by kernel_rfl
  have HI1 := Lib.hid hl1
  have HI2 := Lib.hid hl2
  have HE := Lib.hid hE
  have HN := Lib.hid hN
  have KP := Lib.hid (fun W => put_c one_cmd W)
  have KC := Lib.hid (fun W => clean_c one_cmd W)
  have KR := Lib.hid (fun W => right_c one_cmd W)
  rw [one_right] at KR
  rw [one_clean] at KC
  have HEQ := Lib.hid (fun W => eqinC one_ycmd one_ycmd W)
  have HRD := Lib.hid (show readB (putC [2, 5, 3, 0, 0, 0, 0, 0, 0, 0, 0, 0]) = true by rw [readB_put one_cmd, one_right])
  have HGT := Lib.hid (show gotC (putC [2, 5, 3, 0, 0, 0, 0, 0, 0, 0, 0, 0]) = [2, 5, 0, 0, 0, 0, 0, 0, 0, 0, 0, 0] by rw [gotC_yes HRD.out, ysC_put one_cmd, one_clean])
  have HO1 := Lib.hid (cmdC_one [2, 5, 3, 0, 0, 0, 0, 0, 0, 0, 0, 0])
  have HO2 := Lib.hid (cmdC_one [2, 5, 0, 0, 0, 0, 0, 0, 0, 0, 0, 0])
  have HPL := Lib.hid (putC_le one_cmd)
  have hb1 : (Instr.build 24 #[(0, .int .i64 2), (1, .int .i64 5), (2, .int .i64 3)]).run Tryd.prog w = .ok (.agg (cmdC [2, 5, 3, 0, 0, 0, 0, 0, 0, 0, 0, 0]).toArray) w := run_build w _ _ _ (by kernel_rfl)
  have HB1 := Lib.hid hb1
  have HB2 := Lib.hid (fun (W : World) => (run_build W 24 #[(0, .int .i64 2), (1, .int .i64 5)] (cmdC [2, 5, 0, 0, 0, 0, 0, 0, 0, 0, 0, 0]).toArray (by kernel_rfl) : (Instr.build 24 #[(0, .int .i64 2), (1, .int .i64 5)]).run Tryd.prog W = .ok (.agg (cmdC [2, 5, 0, 0, 0, 0, 0, 0, 0, 0, 0, 0]).toArray) W))
  have hla : (cmdC [2, 5, 3, 0, 0, 0, 0, 0, 0, 0, 0, 0]).length = 12 := rfl
  have hlb : (cmdC [2, 5, 0, 0, 0, 0, 0, 0, 0, 0, 0, 0]).length = 12 := rfl
  have HLA := Lib.hid hla
  have HLB := Lib.hid hlb
  generalize hx1 : cmdC [2, 5, 3, 0, 0, 0, 0, 0, 0, 0, 0, 0] = l1 at *
  have HX1 := Lib.hid hx1
  generalize hx2 : cmdC [2, 5, 0, 0, 0, 0, 0, 0, 0, 0, 0, 0] = l2 at *
  have HX2 := Lib.hid hx2
  clear hl1 hl2 hE hN hb1 hla hlb hx1 hx2
  go_enter Tryd.func16, Tryd.ntmps16
  go_upto_region 1 with fail
  refine wp_region_lit ?_
  refine wpList_yield (w' := w) (v := .agg l1.toArray) rfl (by rw [← HX1.out]; go_simp; rfl) ?_
  refine wpList_yield (w' := w.alloc (.cells #[.int .i64 0, .int .i64 0, .int .i64 0, .int .i64 0, .int .i64 0, .int .i64 0, .int .i64 0, .int .i64 0, .int .i64 0, .int .i64 0, .int .i64 0, .bool false] 24)) (v := .pointer (some ⟨w.heap.size, 0, none⟩)) rfl (by go_simp) ?_
  refine wpList_store_all rfl 24 _ _ rfl w.heap.size (cs := #[.int .i64 0, .int .i64 0, .int .i64 0, .int .i64 0, .int .i64 0, .int .i64 0, .int .i64 0, .int .i64 0, .int .i64 0, .int .i64 0, .int .i64 0, .bool false]) (T := 24) l1 (by go_simp) (by go_simp) (World.alloc_heap_new _ _) (by rw [HLA.out]; rfl) HI1.out HO1.out ?_
  intro w1 hw1
  have HB1 := Lib.hid (hw1.below (below_alloc (Below.refl _ w) _) (Nat.le_refl _))
  have HL1 := Lib.hid hw1.there
  have HS1 := Lib.hid (show w1.heap.size = w.heap.size + 1 by rw [hw1.size]; simp)
  clear hw1
  go_upto_region 2 with fail
  refine wp_region_lit ?_
  refine wpList_load_all rfl 24 _ rfl w.heap.size l1 _ (by go_simp) HL1.out Tryd.underlying24 rfl HI1.out ?_
  refine wpList_enter rfl (by go_simp) (KP.out w1) ?_
  rintro e w2 ⟨u, rfl, ho, hb2⟩
  refine ⟨_, rfl, ?_⟩
  have HB2' := Lib.hid (below_next HB1.out hb2)
  have K := Lib.hid (read_c w2 ho.at (by have := HPL.out; omega) (HE.out.below HB2'.out))
  rw [HGT.out, codeC_yes HRD.out, HX2.out] at K
  refine wpList_enter rfl (by go_simp) K.out ?_
  rintro e w3 ⟨rfl, hb3⟩
  refine ⟨_, rfl, ?_⟩
  have HB3 := Lib.hid (below_next HB2'.out hb3)
  have HL3 := Lib.hid (((below_next hb2 hb3).block w.heap.size (by have := HS1.out; omega)).trans HL1.out)
  clear ho hb2 hb3
  refine wpList_yield (w' := w3) (v := .tuple #[.agg l2.toArray, .int .i64 0]) rfl (by go_simp) ?_
  refine wpList_yield (w' := w3) (v := .agg l2.toArray) rfl (by go_simp) ?_
  refine wpList_yield (w' := w3) (v := .int .i64 0) rfl (by go_simp) ?_
  refine wpList_yield (w' := w3.alloc (.cells #[.int .i64 0, .int .i64 0, .int .i64 0, .int .i64 0, .int .i64 0, .int .i64 0, .int .i64 0, .int .i64 0, .int .i64 0, .int .i64 0, .int .i64 0, .bool false] 24)) (v := .pointer (some ⟨w3.heap.size, 0, none⟩)) rfl (by go_simp) ?_
  refine wpList_store_all rfl 24 _ _ rfl w3.heap.size (cs := #[.int .i64 0, .int .i64 0, .int .i64 0, .int .i64 0, .int .i64 0, .int .i64 0, .int .i64 0, .int .i64 0, .int .i64 0, .int .i64 0, .int .i64 0, .bool false]) (T := 24) l2 (by go_simp) (by go_simp) (World.alloc_heap_new _ _) (by rw [HLB.out]; rfl) HI2.out HO2.out ?_
  intro w4 hw4
  have hb4 := hw4.below (below_alloc (Below.refl _ w3) _) (Nat.le_refl _)
  have HB4 := Lib.hid (below_next HB3.out hb4)
  have HL4 := Lib.hid ((hb4.block w.heap.size (Array.getElem?_eq_some_iff.1 HL3.out).1).trans HL3.out)
  have HM4 := Lib.hid hw4.there
  have HLD := Lib.hid (fun (W : World) (h : Below w4.heap.size w4 W) => (h.block _ (Array.getElem?_eq_some_iff.1 HL4.out).1).trans HL4.out)
  have HLM := Lib.hid (fun (W : World) (h : Below w4.heap.size w4 W) => (h.block _ (Array.getElem?_eq_some_iff.1 HM4.out).1).trans HM4.out)
  have KN := Lib.hid (fun (W : World) (h : Below w4.heap.size w4 W) => cmdname_at 11 (by decide) (by decide) W (HN.out.below (below_next HB4.out h)))
  rw [show cname 11 = ⟨#[116, 101, 108, 108]⟩ from rfl] at KN
  clear hw4 hb4
  generalize w3.heap.size = p at *
  have hqq : ([2, 5, 0, 0, 0, 0, 0, 0, 0, 0, 0, 0] == ([2, 5, 0, 0, 0, 0, 0, 0, 0, 0, 0, 0] : List Int)) = true := by decide
  rw [hqq] at HEQ
  clear hqq
  go_upto_region 3 with fail
  refine Rl.wp_region_rel (fun a b => Below a.heap.size a b) w4 (fun a b c h h' => below_next h h') (fun a => Below.refl _ _) hmx (by kernel_rfl) (Below.refl _ _).drew ?_
  refine Rl.textR_run (.agg l1.toArray) (fun ρ => ?_) (fun ρ W hS hd => ?_) ?_
  · go_simp
  · exact Rl.comesToR_load 24 _ rfl w.heap.size (by go_simp) _ _ (HLD.out W hS) Tryd.underlying24 rfl HI1.out ⟨rfl, Below.refl _ _⟩
  (try go_simp)
  (refine Rl.textR_run ?_ (fun ρ => ?_) (fun ρ W hS hd => ?_) ?_; rotate_left; (focus go_simp); (focus (obtain ⟨hc, hf⟩ := bcell hS; go_simp; refine (KC.out W).mono ?_; rintro e w1 ⟨rfl, hb⟩; refine ⟨_, rfl, ?_, hb⟩; rfl)); (try go_simp))
  refine Rl.textR_run (.agg l2.toArray) (fun ρ => ?_) (fun ρ W hS hd => ?_) ?_
  · go_simp
  · exact Rl.comesToR_ok (by rw [← HX2.out]; go_simp; rfl) ⟨rfl, Below.refl _ _⟩
  (try go_simp)
  refine Rl.textR_run (.bool true) (fun ρ => ?_) (fun ρ W hS hd => ?_) ?_
  · go_simp
  · exact Rl.comesToR_eql 24 _ _ _ rfl _ _ (by go_simp) (by go_simp) (by kernel_rfl) (HEQ.out W) ⟨rfl, Below.refl _ _⟩
  (try go_simp)
  iterate 5 (refine Rl.textR_run ?_ (fun ρ => ?_) (fun ρ W hS hd => ?_) ?_; rotate_left; (focus go_simp); (focus (obtain ⟨hc, hf⟩ := bcell hS; go_simp; first | exact ⟨rfl, Below.refl _ _⟩ | (refine ⟨?_, Below.refl _ _⟩; rfl))); (try go_simp))
  refine Rl.textR_run (.agg l2.toArray) (fun ρ => ?_) (fun ρ W hS hd => ?_) ?_
  · go_simp
  · exact Rl.comesToR_load 24 _ rfl p (by go_simp) _ _ (HLM.out W hS) Tryd.underlying24 rfl HI2.out ⟨rfl, Below.refl _ _⟩
  (try go_simp)
  refine Rl.textR_run (.agg l1.toArray) (fun ρ => ?_) (fun ρ W hS hd => ?_) ?_
  · go_simp
  · exact Rl.comesToR_load 24 _ rfl w.heap.size (by go_simp) _ _ (HLD.out W hS) Tryd.underlying24 rfl HI1.out ⟨rfl, Below.refl _ _⟩
  (try go_simp)
  (refine Rl.textR_run ?_ (fun ρ => ?_) (fun ρ W hS hd => ?_) ?_; rotate_left; (focus go_simp); (focus (obtain ⟨hc, hf⟩ := bcell hS; go_simp; refine (KC.out W).mono ?_; rintro e w1 ⟨rfl, hb⟩; refine ⟨_, rfl, ?_, hb⟩; rfl)); (try go_simp))
  refine Rl.textR_run (.bool true) (fun ρ => ?_) (fun ρ W hS hd => ?_) ?_
  · go_simp
  · exact Rl.comesToR_eql 24 _ _ _ rfl _ _ (by go_simp) (by go_simp) (by kernel_rfl) (HEQ.out W) ⟨rfl, Below.refl _ _⟩
  (try go_simp)
  iterate 2 (refine Rl.textR_run ?_ (fun ρ => ?_) (fun ρ W hS hd => ?_) ?_; rotate_left; (focus go_simp); (focus (obtain ⟨hc, hf⟩ := bcell hS; go_simp; first | exact ⟨rfl, Below.refl _ _⟩ | (refine ⟨?_, Below.refl _ _⟩; rfl))); (try go_simp))
  (refine Rl.textR_run ?_ (fun ρ => ?_) (fun ρ W hS hd => ?_) ?_; rotate_left; (focus go_simp); (focus (obtain ⟨hc, hf⟩ := bcell hS; go_simp; refine (KN.out W hS).mono ?_; rintro e w1 ⟨rfl, rfl⟩; refine ⟨_, rfl, ?_, Below.refl _ _⟩; rfl)); (try go_simp))
  iterate 3 (refine Rl.textR_run ?_ (fun ρ => ?_) (fun ρ W hS hd => ?_) ?_; rotate_left; (focus go_simp); (focus (obtain ⟨hc, hf⟩ := bcell hS; go_simp; first | exact ⟨rfl, Below.refl _ _⟩ | (refine ⟨?_, Below.refl _ _⟩; rfl))); (try go_simp))
  refine Rl.textR_run (.agg l1.toArray) (fun ρ => ?_) (fun ρ W hS hd => ?_) ?_
  · go_simp
  · exact Rl.comesToR_load 24 _ rfl w.heap.size (by go_simp) _ _ (HLD.out W hS) Tryd.underlying24 rfl HI1.out ⟨rfl, Below.refl _ _⟩
  (try go_simp)
  (refine Rl.textR_run ?_ (fun ρ => ?_) (fun ρ W hS hd => ?_) ?_; rotate_left; (focus go_simp); (focus (obtain ⟨hc, hf⟩ := bcell hS; go_simp; refine (KR.out W).mono ?_; rintro e w1 ⟨rfl, hb⟩; refine ⟨_, rfl, ?_, hb⟩; rfl)); (try go_simp))
  iterate 2 (refine Rl.textR_run ?_ (fun ρ => ?_) (fun ρ W hS hd => ?_) ?_; rotate_left; (focus go_simp); (focus (obtain ⟨hc, hf⟩ := bcell hS; go_simp; first | exact ⟨rfl, Below.refl _ _⟩ | (refine ⟨?_, Below.refl _ _⟩; rfl))); (try go_simp))
  refine Rl.textR_nil ?_
  intro ρ w5 hg hk
  have HG := Lib.hid (below_next HB4.out hg)
  clear hg hk
  dsimp only
  go_wp2_with fail
  go_ret
  exact ⟨rfl, HG.out⟩
end Go.Proofs.YtlejicmpefdhpaaDoor
