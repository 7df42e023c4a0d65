/- The document's disk: New, Fall; a disk held against the document's. No condition but the numbers' bounds. -/
import Derived.Test.YtemkjgohpihigaaRdA
import Derived.Test.YtemkjgohpihigaaRelT
import Derived.Test.YtemkjgohpihigaaDkKeepsW
namespace Go.Proofs.Ytemkjgohpihigaa
set_option linter.unusedVariables false
open Go.ChangeShapes Go.WideShapes Go.ChangeAt Go.RowKit
attribute [local go_sem ↓] Go.wp_at_zero Go.wp_at_succ comesTo_value_eq comesTo_skip_eq comesTo_enter_eq Rl.comesToR_value_eq Rl.comesToR_skip_eq Rl.comesToR_enter_eq

theorem rnew_c (w : World) : Calls Try.prog 5 #[] w fun e w' => e = .returned (.agg (rdC newF).toArray) ∧ Below w.heap.size w w' := by
  have HI := Lib.hid (show (Try.prog.info? 28).map (·.size) = some (rdC newF).length from by rw [rdC_len]; kernel_rfl)
  go_enter Try.func5, Try.ntmps5
  go_upto_region 1 with fail
  have hN := World.alloc_heap_new w (.cells #[.string ⟨#[]⟩, .string ⟨#[]⟩, .string ⟨#[]⟩, .string ⟨#[]⟩, .int .i64 0, .int .i64 0, .int .i64 0, .int .i64 0, .int .i64 0, .bool false] 28)
  have HB := Lib.hid (below_alloc (Below.refl _ w) (.cells #[.string ⟨#[]⟩, .string ⟨#[]⟩, .string ⟨#[]⟩, .string ⟨#[]⟩, .int .i64 0, .int .i64 0, .int .i64 0, .int .i64 0, .int .i64 0, .bool false] 28))
  generalize w.alloc (.cells #[.string ⟨#[]⟩, .string ⟨#[]⟩, .string ⟨#[]⟩, .string ⟨#[]⟩, .int .i64 0, .int .i64 0, .int .i64 0, .int .i64 0, .int .i64 0, .bool false] 28) = U at *
  have HN := Lib.hid hN
  clear hN
  refine wp_region_lit ?_
  refine wpList_yield (w' := U) (v := .agg (rdC newF).toArray) rfl (by go_simp; rfl) ?_
  refine wpList_store_all rfl 28 _ _ rfl w.heap.size (T := 28) (rdC newF) (by go_simp) (by go_simp) HN.out rfl HI.out rfl ?_
  intro w9 hw9
  have HW9 := Lib.hid hw9.there
  have HB9 := Lib.hid (hw9.below HB.out (Nat.le_refl _))
  clear hw9
  go_wp2_with fail
  exact bodyPost_ret (results_all (rdC newF) _ Try.results5 (by go_simp) HW9.out Try.underlying28 rfl HI.out) rfl ⟨rfl, HB9.out⟩
theorem rstr_take (xs : List Int) (m : Nat) : (strOfNums xs).extract 0 m = strOfNums (xs.take m) := by
  apply ByteArray.ext
  simp [strOfNums, List.map_take]
theorem DFit.fall {st : DS} (h : DFit st) (keep : Nat → Int) : DFit (fallF st keep) := by
  refine ⟨fun k hk => ?_, fun k hk => ?_, show -1 ≤ (-1 : Int) ∧ (-1 : Int) ≤ 9223372036854775807 by decide⟩
  · rw [fallF_b st keep hk, List.length_take]; have := h.fits k hk; omega
  · rw [fallF_b st keep hk, fallF_s st keep hk, List.length_take]; have := fallS_le (keep := keep) (h.safe k hk); omega
theorem cut_rest {st : DS} {keep : Nat → Int} {k : Nat} : (st.cut keep k).b k = st.b k ∧ (st.cut keep k).s k = st.s k := by
  unfold DS.cut
  exact ⟨if_neg (Nat.lt_irrefl _), if_neg (Nat.lt_irrefl _)⟩
set_option maxRecDepth 100000 in
set_option maxHeartbeats 1000000 in
theorem rfall_c {st : DS} (hst : DFit st) (keep : Nat → Int) (w : World) : Calls Try.prog 14 #[.agg (rdC st).toArray, .agg #[.int .i64 (keep 0), .int .i64 (keep 1), .int .i64 (keep 2), .int .i64 (keep 3)]] w fun e w' => e = .returned (.agg (rdC (fallF st keep)).toArray) ∧ Below w.heap.size w w' := by
  have hmx : Try.prog.follows .mixedOrders = true := by kernel_rfl
  have HI := Lib.hid (fun st' => show (Try.prog.info? 28).map (·.size) = some (rdC st').length from by rw [rdC_len]; kernel_rfl)
  have HO := Lib.hid (fun st' => rdC_one st')
  have HST := Lib.hid hst
  have HKC := Lib.hid (show ∀ k, k < 4 → (#[.int .i64 (keep 0), .int .i64 (keep 1), .int .i64 (keep 2), .int .i64 (keep 3)] : Array Value)[k]? = some (.int .i64 (keep k)) from fun k hk => by
    rcases (show k = 0 ∨ k = 1 ∨ k = 2 ∨ k = 3 by omega) with rfl | rfl | rfl | rfl <;> rfl)
  generalize hkk : (#[.int .i64 (keep 0), .int .i64 (keep 1), .int .i64 (keep 2), .int .i64 (keep 3)] : Array Value) = kp at *
  generalize hl : rdC st = l at *
  have HL := Lib.hid hl
  clear hl hst hkk
  go_enter Try.func14, Try.ntmps14
  go_upto_region 1 with fail
  generalize hW : ((w.alloc (.cells l.toArray 28)).alloc (.cells kp 26)).alloc (.cells #[.string ⟨#[]⟩, .string ⟨#[]⟩, .string ⟨#[]⟩, .string ⟨#[]⟩, .int .i64 0, .int .i64 0, .int .i64 0, .int .i64 0, .int .i64 0, .bool false] 28) = U
  have hs1 : (w.alloc (.cells l.toArray 28)).heap.size = w.heap.size + 1 := by simp
  have hs2 : ((w.alloc (.cells l.toArray 28)).alloc (.cells kp 26)).heap.size = w.heap.size + 2 := by simp
  have hC : U.heap[w.heap.size]? = some (.cells l.toArray 28 (0, 0)) := by rw [← hW]; exact ((below_alloc (below_alloc (Below.refl _ _) _) _).block _ (by simp)).trans (World.alloc_heap_new w _)
  have hK : U.heap[w.heap.size + 1]? = some (.cells kp 26 (0, 0)) := by
    rw [← hW]
    refine ((below_alloc (Below.refl _ _) _).block _ (by rw [hs2]; omega)).trans ?_
    have := World.alloc_heap_new (w.alloc (.cells l.toArray 28)) (.cells kp 26)
    rwa [hs1] at this
  have hZ : U.heap[w.heap.size + 2]? = some (.cells #[.string ⟨#[]⟩, .string ⟨#[]⟩, .string ⟨#[]⟩, .string ⟨#[]⟩, .int .i64 0, .int .i64 0, .int .i64 0, .int .i64 0, .int .i64 0, .bool false] 28 (0, 0)) := by
    rw [← hW]
    have := World.alloc_heap_new ((w.alloc (.cells l.toArray 28)).alloc (.cells kp 26)) (.cells #[.string ⟨#[]⟩, .string ⟨#[]⟩, .string ⟨#[]⟩, .string ⟨#[]⟩, .int .i64 0, .int .i64 0, .int .i64 0, .int .i64 0, .int .i64 0, .bool false] 28)
    rwa [hs2] at this
  have HB := Lib.hid (show Below w.heap.size w U by rw [← hW]; exact (by repeat (first | exact Below.refl _ _ | assumption | refine below_drewN ?_ _ | refine Below.drew ?_ | refine below_alloc ?_ _ | refine Below.alloc ?_ (by first | omega | (simp; done) | (simp; omega)) _ | refine Below.setCell ?_ (Below.size (by assumption)) _ | refine Below.setCell ?_ (by first | omega | (simp; done) | (simp; omega)) _ | (refine Below.trans ?_ (Below.mono (by assumption) (by first | omega | (simp; done) | (simp; omega)))) | refine below_next ?_ (by assumption))))
  have HC := Lib.hid hC
  have HK := Lib.hid hK
  have HZ := Lib.hid hZ
  clear hW hC hK hZ hs1 hs2
  go_wp2_with fail
  go_loopw [5] (fun i wr => ∃ k : Nat, k ≤ 4 ∧ i = .int .i64 k ∧ wr.heap[w.heap.size]? = some (.cells (rdC (st.cut keep k)).toArray 28 (0, 0)) ∧ (∀ b, b ≠ w.heap.size → wr.heap[b]? = U.heap[b]?) ∧ Below w.heap.size w wr) (fun i _ => 4 - (intOf i).toNat)
  case atStart => exact ⟨0, Nat.zero_le _, rfl, by rw [cut_zero, HL.out]; exact HC.out, fun _ _ => rfl, HB.out⟩
  case round =>
    obtain ⟨k, hk4, rfl, hp, hoth, hb⟩ := hrel
    have HP := Lib.hid hp
    have HOT := Lib.hid hoth
    have HBR := Lib.hid hb
    clear hp hoth hb
    by_cases hk : k < 4
    · have hd : decide ((k : Int) < 4) = true := decide_eq_true (by omega)
      have hki : (k : Int) < 4 := by omega
      have hfit := HST.out.fits k hk
      have hsaf := HST.out.safe k hk
      have HM := Lib.hid (fallS_le (keep := keep) hsaf)
      have HE := Lib.hid (fallS_eq (keep := keep) hsaf)
      have hcb := cell_of_block (o := k) HP.out (rdC_b _ hk)
      have hcs := cell_of_block (o := 4 + k) HP.out (rdC_s _ hk)
      rw [cut_rest.1] at hcb
      rw [cut_rest.2] at hcs
      have hck := cell_of_block (o := k) ((HOT.out (w.heap.size + 1) (by omega)).trans HK.out) (HKC.out k hk)
      have hfb := free_of_block k HP.out
      have hfs := free_of_block (4 + k) HP.out
      have hsz : (strOfNums (st.b k)).size = (st.b k).length := size_str _
      have hex := rstr_take (st.b k) (fallS st keep k)
      have hsz2 : (strOfNums ((st.b k).take (fallS st keep k))).size = fallS st keep k := by rw [size_str, List.length_take]; have := HM.out; omega
      have hW1 := ((wrote_refl HP.out).drew.drew).set k (.string (strOfNums ((st.b k).take (fallS st keep k))))
      rw [rdC_setB _ hk] at hW1
      have hW2 := (hW1).set (4 + k) (.int .i64 ((fallS st keep k : Nat) : Int))
      rw [rdC_setS _ hk] at hW2
      have HNX := Lib.hid (show ({ { st.cut keep k with b := upd (st.cut keep k).b k ((st.b k).take (fallS st keep k)) } with s := upd ({ st.cut keep k with b := upd (st.cut keep k).b k ((st.b k).take (fallS st keep k)) } : DS).s k (fallS st keep k) } : DS) = st.cut keep (k + 1) by
        have h1 := cut_b st keep k
        have h2 := cut_s st keep k
        unfold DS.cut at h1 h2 ⊢
        simp only at h1 h2 ⊢
        rw [← h1, ← h2])
      rw [HNX.out] at hW2
      have HW1 := Lib.hid hW1.there
      have HW2 := Lib.hid hW2
      clear hW1 hW2
      have hmf := HM.out
      have heq := HE.out
      have hsub : IntKind.i64.wrap (((st.b k).length : Int) - ((st.s k : Nat) : Int)) = ((st.b k).length : Int) - ((st.s k : Nat) : Int) := IntWalk.i64_in _ (by omega)
      generalize fallS st keep k = m at *
      generalize keep k = kk at *
      generalize strOfNums ((st.b k).take m) = SX at *
      generalize strOfNums (st.b k) = S at *
      generalize (st.b k).length = L at *
      generalize st.s k = sk at *
      have hcut : ∀ X : Prop, X ∨ ¬ X := fun X => Classical.em X
      clear hcut
      by_cases hlt : kk < (L : Int) - (sk : Int)
      · have hd1 : decide (kk < (L : Int) - (sk : Int)) = true := decide_eq_true hlt
        have hsum : (sk : Int) + max kk 0 = (m : Int) := by omega
        have hwm : IntKind.i64.wrap (m : Int) = (m : Int) := IntWalk.i64_in _ (by omega)
        clear hlt
        go_wp2_with fail
        refine wp_region_grow (fun w' => w' = wr.drew) hmx (by kernel_rfl) rfl ?_
        iterate 11 (refine textS_run ?_ ?_ (fun W hS => ?_) ?_; rotate_left; (focus go_simp); (focus (subst hS; go_simp; all_goals (first | exact ⟨rfl, rfl⟩ | rfl | (refine ⟨?_, rfl⟩; rfl)))); (try go_simp))
        refine textS_nil ?_
        go_wp2_with fail
        refine wp_region_grow_tail 14 (fun w' => w' = wr.drew.drew) hmx (by kernel_rfl) rfl ?_
        simp only [List.take_succ_cons, List.take_zero, List.drop_succ_cons, List.drop_zero]
        iterate 14 (refine textS_run ?_ ?_ (fun W hS => ?_) ?_; rotate_left; (focus go_simp); (focus (subst hS; go_simp; all_goals (first | exact ⟨rfl, rfl⟩ | rfl | (refine ⟨?_, rfl⟩; rfl)))); (try go_simp))
        refine textS_nil ?_
        go_wp2_with fail
        go_roundw
        case rel => exact ⟨k + 1, by omega, by go_num, HW2.out.there, fun b hb => (HW2.out.rest b hb).trans (HOT.out b hb), HW2.out.below HBR.out (Nat.le_refl _)⟩
        case measure => simp [intOf]; omega
      · have hd1 : decide (kk < (L : Int) - (sk : Int)) = false := decide_eq_false hlt
        have hsum : (sk : Int) + ((L : Int) - (sk : Int)) = (m : Int) := by omega
        have hwm : IntKind.i64.wrap (m : Int) = (m : Int) := IntWalk.i64_in _ (by omega)
        clear hlt
        go_wp2_with fail
        refine wp_region_grow (fun w' => w' = wr.drew) hmx (by kernel_rfl) rfl ?_
        iterate 11 (refine textS_run ?_ ?_ (fun W hS => ?_) ?_; rotate_left; (focus go_simp); (focus (subst hS; go_simp; all_goals (first | exact ⟨rfl, rfl⟩ | rfl | (refine ⟨?_, rfl⟩; rfl)))); (try go_simp))
        refine textS_nil ?_
        go_wp2_with fail
        refine wp_region_grow_tail 14 (fun w' => w' = wr.drew.drew) hmx (by kernel_rfl) rfl ?_
        simp only [List.take_succ_cons, List.take_zero, List.drop_succ_cons, List.drop_zero]
        iterate 14 (refine textS_run ?_ ?_ (fun W hS => ?_) ?_; rotate_left; (focus go_simp); (focus (subst hS; go_simp; all_goals (first | exact ⟨rfl, rfl⟩ | rfl | (refine ⟨?_, rfl⟩; rfl)))); (try go_simp))
        refine textS_nil ?_
        go_wp2_with fail
        go_roundw
        case rel => exact ⟨k + 1, by omega, by go_num, HW2.out.there, fun b hb => (HW2.out.rest b hb).trans (HOT.out b hb), HW2.out.below HBR.out (Nat.le_refl _)⟩
        case measure => simp [intOf]; omega
    · have hd : decide ((k : Int) < 4) = false := decide_eq_false (by omega)
      obtain rfl : k = 4 := by omega
      have hW1 := (wrote_refl HP.out).set 8 (.int .i64 (-1))
      rw [rdC_setL] at hW1
      have hW2 := hW1.set 9 (.bool false)
      rw [rdC_setD] at hW2
      have hW2 : WroteTo w.heap.size 28 (rdC (fallF st keep)).toArray wr _ := hW2
      have e8 := cell_of_block (o := 8) HP.out (rdC_left _)
      have e9 := cell_of_block (o := 9) HP.out (rdC_down _)
      have g8 := free_of_block 8 HP.out
      have g9 := free_of_block 9 HP.out
      have HW2 := Lib.hid hW2
      clear hW1 hW2
      go_upto_region 11 with fail
      clear e8 e9 g8 g9
      have HD := Lib.hid HW2.out.there
      have HZ9 := Lib.hid ((HW2.out.rest (w.heap.size + 2) (by omega)).trans ((HOT.out (w.heap.size + 2) (by omega)).trans HZ.out))
      have HB9 := Lib.hid (HW2.out.below HBR.out (Nat.le_refl _))
      generalize (wr.setCell ⟨w.heap.size, 8, none⟩ (.int .i64 (-1))).setCell ⟨w.heap.size, 9, none⟩ (.bool false) = w8 at *
      refine wp_region_lit ?_
      refine wpList_load_all rfl 28 _ rfl w.heap.size (rdC (fallF st keep)) _ (by go_simp) HD.out Try.underlying28 rfl (HI.out _) ?_
      refine wpList_store_all rfl 28 _ _ rfl (w.heap.size + 2) (T := 28) (rdC (fallF st keep)) (by go_simp) (by go_simp) HZ9.out rfl (HI.out _) (HO.out _) ?_
      intro w9 hw9
      have HW9 := Lib.hid hw9.there
      have HB10 := Lib.hid (hw9.below HB9.out (by omega))
      clear hw9
      go_wp2_with fail
      exact bodyPost_ret (results_all (rdC (fallF st keep)) _ Try.results14 (by go_simp) HW9.out Try.underlying28 rfl (HI.out _)) rfl ⟨rfl, HB10.out⟩
end Go.Proofs.Ytemkjgohpihigaa
