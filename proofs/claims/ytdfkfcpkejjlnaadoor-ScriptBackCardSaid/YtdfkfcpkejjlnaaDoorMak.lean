/- Laws that belong together: The statements' one; the steps of an argument (layer 28). Condition: the errors' table.; The law ScriptReads (layer 28). Condition: the errors' table.; The law ScriptBack (layer 28). Condition: the errors' table. -/
import Derived.Test.YtdfkfcpkejjlnaaDoorMScH
import Derived.Test.YtdfkfcpkejjlnaaDoorMScQ
import Derived.Lib.SmallJoins
import Derived.Laws.IdiomArrays
import Derived.ChangeMaps
import Derived.Laws.OwnMore
import Derived.Laws.MakeOwn
namespace Go.Proofs.YtdfkfcpkejjlnaaDoor
set_option linter.unusedVariables false
open Go.ChangeShapes Go.WideShapes Go.ChangeAt Go.RowKit Cs Rv
attribute [local go_sem ↓] Go.wp_at_zero Go.wp_at_succ comesTo_value_eq comesTo_skip_eq comesTo_enter_eq

def s45 : List SV := [⟨4, z12, eS, 0, z4⟩, ⟨5, z12, eS, 0, z4⟩]
theorem tidy45 : ∀ v ∈ s45, TidyS v := fun v hv => by
  simp only [s45, List.mem_cons, List.not_mem_nil, or_false] at hv
  rcases hv with rfl | rfl
  · exact ⟨good4 (by unfold i64S; omega), rfl, rfl⟩
  · exact ⟨good4 (by unfold i64S; omega), rfl, rfl⟩
theorem put45 : putS s45 = [8, 10] := by
  have h4 : putI 4 = [8] := by unfold putI; rw [show foldF 4 = 8 from rfl, putU_lt (by decide)]; rfl
  have h5 : putI 5 = [10] := by unfold putI; rw [show foldF 5 = 10 from rfl, putU_lt (by decide)]; rfl
  unfold s45
  rw [putS_cons rfl, putS_cons rfl]
  unfold bytesS
  simp [h4, h5, putS]
theorem read45 : readS [8, 10] = (s45, 0) := by rw [← put45]; exact readS_put tidy45 (by decide)
set_option maxRecDepth 100000 in
set_option maxHeartbeats 8000000 in
theorem one28 {w : World} (hE : ErrAt w) : Calls Tryd.prog 13 #[] w fun e w' => e = .returned (.bool true) ∧ Below w.heap.size w w' := by
  have HE := Lib.hid (fun X (hX : Below w.heap.size w X) => hE.below hX)
  have hb1 := below_alloc (Below.refl _ w) (.cells #[.int .u8 8, .int .u8 10] 5)
  have hn1 := World.alloc_heap_new w (.cells #[.int .u8 8, .int .u8 10] 5)
  have HT := Lib.hid (show TxtAt (w.alloc (.cells #[.int .u8 8, .int .u8 10] 5)) (.slice (some ⟨w.heap.size, 0, none⟩) 2 2) [8, 10] from .inl ⟨w.heap.size, 0, 2, rfl, by decide, ⟨fun k hk => by
    have hk2 : k = 0 ∨ k = 1 := by have : k < 2 := hk; omega
    rcases hk2 with rfl | rfl
    · exact cell_of_block hn1 rfl
    · exact cell_of_block hn1 rfl, fun k hk => by have hk2 : k = 0 ∨ k = 1 := by (have : k < 2 := hk; omega)
                                                  rcases hk2 with rfl | rfl <;> decide, fun k hk => by have hk2 : k = 0 ∨ k = 1 := by (have : k < 2 := hk; omega)
                                                                                                       rcases hk2 with rfl | rfl <;> decide, by decide⟩⟩)
  have HB1 := Lib.hid hb1
  clear hE hb1 hn1
  go_enter Tryd.func13, Tryd.ntmps13
  go_upto_region 1 with fail
  refine wp_region_lit (WL.out ?_)
  refine WL.yield (w' := w.alloc (.cells #[.int .u8 8, .int .u8 10] 5)) (v := .slice (some ⟨w.heap.size, 0, none⟩) 2 2) rfl (by first | (go_simp; done) | (go_simp; rfl)) ?_
  try go_simp
  generalize w.alloc (.cells #[.int .u8 8, .int .u8 10] 5) = W1 at *
  refine WL.enter rfl (by go_simp) (sread_any HT.out (fun x hx => by simp at hx; omega) (by decide) (HE.out _ HB1.out)) ?_
  rintro e w2 ⟨lv, rfl, ho, hb⟩
  rw [read45] at ho ⊢
  have HO2 := Lib.hid ho
  have HB2 := Lib.hid (below_next HB1.out hb)
  clear ho hb HT HB1
  refine ⟨_, rfl, ?_⟩
  try go_simp
  refine WL.yield (w' := w2) (v := .tuple #[lv, .int .i64 0]) rfl (by go_simp) ?_
  try go_simp
  refine WL.yield (w' := w2) (v := lv) rfl (by go_simp) ?_
  try go_simp
  refine WL.yield (w' := w2) (v := .int .i64 0) rfl (by go_simp) ?_
  try go_simp
  refine WL.yield (w' := w2) (v := lv) rfl (by go_simp) ?_
  try go_simp
  refine WL.yield (w' := w2) (v := .int .i64 0) rfl (by go_simp) ?_
  refine WL.nil ?_
  go_simp
  go_upto_region 2 with fail
  have hal := below_alloc (Below.refl _ w2) (.cells ((sC ⟨4, z12, eS, 0, z4⟩ ++ sC ⟨5, z12, eS, 0, z4⟩ : List Value).toArray) 29)
  have hnl := World.alloc_heap_new w2 (.cells ((sC ⟨4, z12, eS, 0, z4⟩ ++ sC ⟨5, z12, eS, 0, z4⟩ : List Value).toArray) 29)
  have HO3 := Lib.hid (HO2.out.below hal)
  have HB3 := Lib.hid (below_next HB2.out hal)
  have KP := Lib.hid (show Calls Tryd.prog 11 #[.slice (some ⟨w2.heap.size, 0, none⟩) 2 2] (w2.alloc (.cells ((sC ⟨4, z12, eS, 0, z4⟩ ++ sC ⟨5, z12, eS, 0, z4⟩ : List Value).toArray) 29)) _ from put_some (w := w2.alloc (.cells ((sC ⟨4, z12, eS, 0, z4⟩ ++ sC ⟨5, z12, eS, 0, z4⟩ : List Value).toArray) 29)) (rb := w2.heap.size) (off := 0) (rc := 2) (L := s45) (Nat.le_refl _) (Array.getElem?_eq_some_iff.1 hnl).1 (fun k l hk => by
    rcases k with _ | _ | k
    · injection hk with hk
      subst hk
      exact range_mid hnl 0 19 rfl
    · injection hk with hk
      subst hk
      exact range_mid hnl 19 19 rfl
    · cases hk) (fun v hv => (tidy45 v hv).good) (by decide))
  rw [put45] at KP
  clear hal hnl HO2 HB2
  refine wp_region_lit (WL.out ?_)
  refine WL.yield (w' := w2) (v := .agg #[.int .i64 4, .int .i64 0, .int .i64 0, .int .i64 0, .int .i64 0, .int .i64 0, .int .i64 0, .int .i64 0, .int .i64 0, .int .i64 0, .int .i64 0, .int .i64 0, .bool false, .string ⟨#[]⟩, .int .i64 0, .int .i64 0, .int .i64 0, .int .i64 0, .int .i64 0]) rfl (by first | (go_simp; done) | (go_simp; rfl)) ?_
  try go_simp
  refine WL.yield (w' := w2) (v := .agg #[.int .i64 5, .int .i64 0, .int .i64 0, .int .i64 0, .int .i64 0, .int .i64 0, .int .i64 0, .int .i64 0, .int .i64 0, .int .i64 0, .int .i64 0, .int .i64 0, .bool false, .string ⟨#[]⟩, .int .i64 0, .int .i64 0, .int .i64 0, .int .i64 0, .int .i64 0]) rfl (by first | (go_simp; done) | (go_simp; rfl)) ?_
  try go_simp
  refine WL.yield (w' := w2.alloc (.cells ((sC ⟨4, z12, eS, 0, z4⟩ ++ sC ⟨5, z12, eS, 0, z4⟩ : List Value).toArray) 29)) (v := .slice (some ⟨w2.heap.size, 0, none⟩) 2 2) rfl (by first | (go_simp; done) | (go_simp; rfl)) ?_
  try go_simp
  generalize w2.alloc (.cells ((sC ⟨4, z12, eS, 0, z4⟩ ++ sC ⟨5, z12, eS, 0, z4⟩ : List Value).toArray) 29) = W3 at *
  generalize w2.heap.size = p at *
  refine WL.enter rfl (by go_simp) KP.out ?_
  rintro e w4 ⟨u, rfl, hu, hb⟩
  have hcv := txt_conv hu.at w4 (Below.refl _ _)
  have hO4 := HO3.out.below hb
  have HB4 := Lib.hid (below_next HB3.out hb)
  have hrow := OwnV.row (fun l hl => by obtain ⟨v, hv, rfl⟩ := List.mem_map.1 hl; exact sC_len (tidy45 v hv).good) hO4
  obtain ⟨ra, rc, hlv, _, hr⟩ := hrow
  obtain ⟨rb, off, rfl, _, hr2⟩ := hr (by decide)
  have c1 : w4.cell? ⟨rb, off + 19, none⟩ = some (.int .i64 5) := hr2 1 (sC ⟨5, z12, eS, 0, z4⟩) rfl 0 (.int .i64 5) rfl
  have hlv2 : lv = .slice (some ⟨rb, off, none⟩) 2 rc := hlv
  clear hlv
  subst hlv2
  clear hu hb hO4 HO3 HB3 KP hr hr2
  refine ⟨_, rfl, ?_⟩
  try go_simp
  refine WL.yield (w' := w4) (v := .string ⟨#[8, 10]⟩) rfl (by rw [show (⟨#[8, 10]⟩ : ByteArray) = strOfNums [8, 10] from rfl]; first | (go_simp; done) | (go_simp; rfl)) ?_
  clear hcv
  try go_simp
  refine ⟨?_⟩
  have i1 : (1 : Int) < 2 := by decide
  go_simp
  go_wp2_with fail
  go_ret
  exact ⟨rfl, HB4.out⟩
/-! the steps of an argument -/
instance : Inhabited SV := ⟨⟨0, [], ⟨#[]⟩, 0, []⟩⟩
theorem cells_cmdS : Tryd.prog.cellsOf 26 = 12 := by kernel_rfl
theorem cells_stepS : Tryd.prog.cellsOf 29 = 19 := by kernel_rfl
set_option maxRecDepth 100000 in
set_option maxHeartbeats 2000000 in
theorem steps_open {H : Type} {enc : TypeId × Value → H} {W : World} {a : Option Addr} {len cap : Nat} {d : DataW H} {p : List MemPlace}
    (h : DataW.Trod enc Tryd.prog W 0 (fun _ => true) true 22 (.slice a len cap) d p) : ∃ L : List SV, RowS W (.slice a len cap) L ∧ L.length = len ∧ ∀ v ∈ L, GoodS v := by
  obtain ⟨fuel, hf⟩ := h
  rcases Go.Deep.open_slice Tryd.underlying22 hf with ⟨hcs, _⟩ | ⟨x, l, c, m, n, D, Pl, hcs, _, hl, hm, hmm, hd, hcell⟩
  · simp [Value.cells] at hcs
    obtain ⟨rfl, rfl, rfl⟩ := hcs
    exact ⟨[], RowV.nil, rfl, fun v hv => by cases hv⟩
  · simp [Value.cells] at hcs
    obtain ⟨rfl, rfl, rfl⟩ := hcs
    have hlm : len ≤ m := by rw [hmm]; split <;> omega
    rw [cells_stepS] at hcell
    by_cases h0 : len = 0
    · subst h0
      exact ⟨[], ⟨_, _, rfl, Nat.zero_le _, fun h => absurd h (by decide)⟩, rfl, fun v hv => by cases hv⟩
    obtain ⟨b, off, spot⟩ := x
    have hspot : spot = none := by
      obtain ⟨cs', h1, _⟩ := hcell 0 (by omega)
      obtain ⟨_, hlen, hc⟩ := World.cells?_some h1
      have := hc 0 (by omega)
      have hs : cs'[0]? = some cs'[0] := List.getElem?_eq_getElem (by omega)
      rw [hs] at this
      simpa [Addr.add] using World.cell?_spot this
    subst hspot
    have hplain : ∀ k, (⟨b, off, none⟩ : Addr).add k = ⟨b, off + k, none⟩ := fun k => by unfold Addr.add; split <;> simp_all
    have hplain2 : ∀ k j, ((⟨b, off, none⟩ : Addr).add k).add j = ⟨b, off + k + j, none⟩ := fun k j => by rw [Go.Deep.add_add, hplain, Nat.add_assoc]
    have each : ∀ i, i < len → ∃ q : SV, GoodS q ∧ W.rangeAt b (off + i * 19) (sC q) := by
      intro i hi
      obtain ⟨cs', h1, h2⟩ := hcell i (by omega)
      obtain ⟨_, hlen, hc⟩ := World.cells?_some h1
      obtain ⟨xs, k, hk, _, _, hxl, hff⟩ := DataW.trod_struct Tryd.underlying29 h2
      match xs, hxl, cs', hlen with
      | [y0, y1, y2, y3, y4], _, [v0, v1, v2, v3, v4, v5, v6, v7, v8, v9, v10, v11, v12, v13, v14, v15, v16, v17, v18], _ =>
        have g0 := hff 0 _ rfl
        have g1 := hff 1 _ rfl
        have g2 := hff 2 _ rfl
        have g3 := hff 3 _ rfl
        have g4 := hff 4 _ rfl
        have q1 : Tryd.prog.cellsOf 3 = 1 := by kernel_rfl
        have q2 : Tryd.prog.cellsOf 9 = 1 := by kernel_rfl
        have q3 : Tryd.prog.cellsOf 27 = 4 := by kernel_rfl
        have q4 : Tryd.prog.cellsOf 24 = 1 := by kernel_rfl
        have q5 : Tryd.prog.cellsOf 4 = 1 := by kernel_rfl
        simp [q1, q2, q3, cells_cmdS] at g0 g1 g2 g3 g4
        obtain ⟨ys, k2, hk2, _, _, hyl, hgg⟩ := DataW.trod_struct Tryd.underlying26 g1
        match ys, hyl with
        | [u0, u1, u2, u3, u4, u5, u6, u7, u8, u9, u10, u11], _ =>
          have e0 := hgg 0 _ rfl
          have e1 := hgg 1 _ rfl
          have e2 := hgg 2 _ rfl
          have e3 := hgg 3 _ rfl
          have e4 := hgg 4 _ rfl
          have e5 := hgg 5 _ rfl
          have e6 := hgg 6 _ rfl
          have e7 := hgg 7 _ rfl
          have e8 := hgg 8 _ rfl
          have e9 := hgg 9 _ rfl
          have e10 := hgg 10 _ rfl
          have e11 := hgg 11 _ rfl
          simp [q1, q4, q5] at e0 e1 e2 e3 e4 e5 e6 e7 e8 e9 e10 e11
          obtain ⟨zk, ek, _, wk⟩ := DataW.trod_int Tryd.underlying3 g0
          obtain ⟨zn, en, _, wn⟩ := DataW.trod_int Tryd.underlying3 g3
          obtain ⟨_, _, _, _, _, _, k0, k1, k2, k3⟩ := trod_array4 Tryd.underlying27 q1 g4
          obtain ⟨za, ea, _, wa⟩ := DataW.trod_int Tryd.underlying3 k0
          obtain ⟨zb, eb, _, wb⟩ := DataW.trod_int Tryd.underlying3 k1
          obtain ⟨zc, ec, _, wc⟩ := DataW.trod_int Tryd.underlying3 k2
          obtain ⟨ze, ee, _, we⟩ := DataW.trod_int Tryd.underlying3 k3
          obtain ⟨t0, f0, _, w0⟩ := DataW.trod_int Tryd.underlying3 e0
          obtain ⟨t1, f1, _, w1⟩ := DataW.trod_int Tryd.underlying3 e1
          obtain ⟨t2, f2, _, w2⟩ := DataW.trod_int Tryd.underlying3 e2
          obtain ⟨t3, f3, _, w3⟩ := DataW.trod_int Tryd.underlying3 e3
          obtain ⟨t4, f4, _, w4⟩ := DataW.trod_int Tryd.underlying3 e4
          obtain ⟨t5, f5, _, w5⟩ := DataW.trod_int Tryd.underlying3 e5
          obtain ⟨t6, f6, _, w6⟩ := DataW.trod_int Tryd.underlying3 e6
          obtain ⟨t7, f7, _, w7⟩ := DataW.trod_int Tryd.underlying3 e7
          obtain ⟨t8, f8, _, w8⟩ := DataW.trod_int Tryd.underlying3 e8
          obtain ⟨t9, f9, _, w9⟩ := DataW.trod_int Tryd.underlying24 e9
          obtain ⟨t10, f10, _, w10⟩ := DataW.trod_int Tryd.underlying24 e10
          obtain ⟨t11, f11, _⟩ := DataW.trod_bool Tryd.underlying4 e11
          obtain ⟨sv, hsv⟩ : ∃ s : ByteArray, v13 = .string s := by
            obtain ⟨s, hs, _⟩ := DataW.trod_string Tryd.underlying9 g2
            exact ⟨s, by simpa using hs⟩
          simp at ek en ea eb ec ee f0 f1 f2 f3 f4 f5 f6 f7 f8 f9 f10 f11
          subst ek en ea eb ec ee f0 f1 f2 f3 f4 f5 f6 f7 f8 f9 f10 f11 hsv
          have wf : ∀ {z : Int}, Lit.wf (.int .i64 z) = true → i64S z := fun h => by simpa [Lit.wf, IntKind.min, IntKind.max, IntKind.signed, IntKind.bits, i64S] using h
          have i0 := wf w0; have i1 := wf w1; have i2 := wf w2; have i3 := wf w3; have i4 := wf w4; have i5 := wf w5; have i6 := wf w6; have i7 := wf w7; have i8 := wf w8; have i9 := wf w9; have i10 := wf w10
          have hS : sC ⟨zk, [t0, t1, t2, t3, t4, t5, t6, t7, t8, t9, t10, if t11 then 1 else 0], sv, zn, [za, zb, zc, ze]⟩ = [.int .i64 zk, .int .i64 t0, .int .i64 t1, .int .i64 t2, .int .i64 t3, .int .i64 t4, .int .i64 t5, .int .i64 t6, .int .i64 t7, .int .i64 t8, .int .i64 t9, .int .i64 t10, .bool t11, .string sv, .int .i64 zn, .int .i64 za, .int .i64 zb, .int .i64 zc, .int .i64 ze] := by cases t11 <;> rfl
          refine ⟨⟨zk, [t0, t1, t2, t3, t4, t5, t6, t7, t8, t9, t10, if t11 then 1 else 0], sv, zn, [za, zb, zc, ze]⟩, ⟨⟨rfl, ?_, ?_⟩, rfl, wf wk, wf wn, ?_⟩, ?_⟩
          · cases t11
            · exact .inl rfl
            · exact .inr rfl
          · intro x hx
            simp only [List.mem_cons, List.not_mem_nil, or_false] at hx
            rcases hx with rfl | rfl | rfl | rfl | rfl | rfl | rfl | rfl | rfl | rfl | rfl | rfl
            · exact i0
            · exact i1
            · exact i2
            · exact i3
            · exact i4
            · exact i5
            · exact i6
            · exact i7
            · exact i8
            · exact i9
            · exact i10
            · cases t11 <;> exact ⟨by decide, by decide⟩
          · intro y hy
            simp only [List.mem_cons, List.not_mem_nil, or_false] at hy
            rcases hy with rfl | rfl | rfl | rfl
            · exact wf wa
            · exact wf wb
            · exact wf wc
            · exact wf we
          · intro j u hj
            rw [hS] at hj
            have hjl : j < 19 := by
              rcases Nat.lt_or_ge j 19 with h | h
              · exact h
              · rw [List.getElem?_eq_none (by simpa using h)] at hj; cases hj
            rw [← hplain2]
            exact (hc j hjl).trans hj
    obtain ⟨A, hA⟩ := Go.Deep.choose_lt (α := SV) (p := fun i q => GoodS q ∧ W.rangeAt b (off + i * 19) (sC q)) each
    have hlen2 : ((List.range len).map A).length = len := by simp
    refine ⟨(List.range len).map A, ⟨some ⟨b, off, none⟩, cap, by simp, by simpa using hl, fun _ => ⟨b, off, rfl, ?_, fun k l hk => ?_⟩⟩, hlen2, fun v hv => ?_⟩
    · have h1 := (hA 0 (by omega)).2 0 _ (show (sC (A 0))[0]? = some (.int .i64 (A 0).k) from rfl)
      exact World.block_lt_of_cell? W _ h1
    · rw [List.getElem?_map, List.getElem?_map] at hk
      by_cases hkl : k < len
      · rw [List.getElem?_range hkl] at hk
        injection hk with hk
        subst hk
        exact (hA k hkl).2
      · rw [List.getElem?_eq_none (by simpa using hkl)] at hk
        cases hk
    · obtain ⟨i, hi, rfl⟩ := List.mem_map.1 hv
      exact (hA i (List.mem_range.1 hi)).1
end Go.Proofs.YtdfkfcpkejjlnaaDoor
namespace Go.Proofs.YtdfkfcpkejjlnaaDoor
set_option linter.unusedVariables false
open Go.ChangeShapes Go.WideShapes Go.ChangeAt Go.RowKit Cs Rv
attribute [local go_sem ↓] Go.wp_at_zero Go.wp_at_succ comesTo_value_eq comesTo_skip_eq comesTo_enter_eq

theorem txt_by {w : World} {v : Value} {bs : List Int} (h : TxtAt w v bs) : ∀ x ∈ bs, 0 ≤ x ∧ x ≤ 255 := fun x hx => by
  obtain ⟨k, hk, rfl⟩ := List.mem_iff_getElem.1 hx
  have := A8.bytes8 h k hk
  simpa [List.getD, hk] using this
/-- a row that is told: its slice, its elements -/
theorem RowV.at {n : Nat} {w : World} {v : Value} {M : List (List Value)} (h : RowV n w v M) (h0 : 0 < M.length) : ∃ b off c, v = .slice (some ⟨b, off, none⟩) M.length c ∧ b < w.heap.size ∧ M.length ≤ c ∧ ∀ k l, M[k]? = some l → w.rangeAt b (off + k * n) l := by
  obtain ⟨a, c, h1, h2, h3⟩ := h
  obtain ⟨b, off, rfl, hb, hr⟩ := h3 h0
  exact ⟨b, off, c, h1, hb, h2, hr⟩
theorem range_below {w w' : World} {b o : Nat} {l : List Value} (h : w.rangeAt b o l) (hb : Below w.heap.size w w') (hlt : b < w.heap.size) : w'.rangeAt b o l := fun j u hj => (hb.cell (p := ⟨b, o + j, none⟩) hlt).trans (h j u hj)
set_option maxRecDepth 100000 in
set_option maxHeartbeats 8000000 in
theorem sreads_walk (la : Option Addr) (ll lc : Nat) (bs : List Int) (w : World) (ht : TxtAt w (.slice la ll lc) bs) (hE : ErrAt w) : Calls Tryd.prog 4 #[.slice la ll lc] w fun e w' => e = .returned (.bool true) ∧ Below w.heap.size w w' := by
  have hmx : Tryd.prog.follows .mixedOrders = true := by kernel_rfl
  have hll : ll = bs.length := (TxtAt.form ht).1
  by_cases hbig : 4000 < ll
  · have d1 : decide ((ll : Int) > 4000) = true := decide_eq_true (by omega)
    have d2 : decide ((4000 : Int) < (ll : Int)) = true := decide_eq_true (by omega)
    have d3 : decide (4000 < ll) = true := decide_eq_true (by omega)
    clear ht hE hll hbig
    go_enter Tryd.func4, Tryd.ntmps4
    go_wp2_with fail
    go_ret
    exact ⟨rfl, Below.refl _ _⟩
  · have d1 : decide ((ll : Int) > 4000) = false := decide_eq_false (by omega)
    have d2 : decide ((4000 : Int) < (ll : Int)) = false := decide_eq_false (by omega)
    have d3 : decide (4000 < ll) = false := decide_eq_false (by omega)
    have hby := txt_by ht
    have KR := Lib.hid (sread_any ht hby (by omega) hE)
    have HE := Lib.hid (fun X (hX : Below w.heap.size w X) => hE.below hX)
    have HT := Lib.hid ht
    have HBY := Lib.hid hby
    have hml := readS_len hby
    have HMG := Lib.hid (readS_good hby)
    obtain ⟨M, code, hM⟩ : ∃ M c, readS bs = (M, c) := ⟨_, _, rfl⟩
    rw [hM] at hml HMG
    have HM := Lib.hid hM
    have HML := Lib.hid (show M.length ≤ 4000 from by dsimp only at hml; omega)
    clear ht hE hll hbig hby hM hml
    go_enter Tryd.func4, Tryd.ntmps4
    go_wp2_with fail
    refine KR.out.mono ?_
    rintro e w2 ⟨lv, rfl, ho, hb2⟩
    rw [HM.out] at ho ⊢
    have hlr : RowV 19 w2 lv (M.map sC) := OwnV.row (fun l hl => by obtain ⟨v, hv, rfl⟩ := List.mem_map.1 hl; exact sC_len (HMG.out v hv).1) ho
    have HLR := Lib.hid hlr
    have HB2 := Lib.hid hb2
    have HT2 := Lib.hid (HT.out.below hb2)
    have HCV := Lib.hid (txt_conv HT2.out)
    clear ho hb2 KR HT hlr d1 d2 d3
    have hcv := HCV.out w2 (Below.refl _ _)
    have KD := Lib.hid (dread_any (w := w2) HBY.out)
    go_wp2_with fail
    refine KD.out.mono ?_
    rintro e w3 ⟨dv, rfl, ho, hb3⟩
    rw [HM.out] at ho ⊢
    have hdr : RowV 18 w3 dv (M.map (fun s => dC (ownS s))) := OwnV.row (fun l hl => by obtain ⟨v, hv, rfl⟩ := List.mem_map.1 hl; exact dC_len (good_own (HMG.out v hv).1)) ho
    have HDR := Lib.hid hdr
    have HLR3 := Lib.hid (RowV.below HLR.out hb3)
    have HB3 := Lib.hid (below_next HB2.out hb3)
    clear ho hb3 KD hcv HCV HT2 HB2 HLR hdr
    have HONE := Lib.hid (fun X (hX : Below w.heap.size w X) => one28 (HE.out X hX))
    clear HE HM HBY
    by_cases hM0 : M = []
    · subst hM0
      obtain ⟨a1, c1, hl1, _, _⟩ := HLR3.out
      obtain ⟨a2, c2, hl2, _, _⟩ := HDR.out
      have hl1' : lv = .slice a1 0 c1 := hl1
      have hl2' : dv = .slice a2 0 c2 := hl2
      clear hl1 hl2 HLR3 HDR
      subst hl1' hl2'
      go_wp2_with fail
      go_loopw [7] (fun i wr => i = .int .i64 0 ∧ wr = w3) (fun _ _ => 0)
      case atStart => exact ⟨rfl, rfl⟩
      case round =>
        obtain ⟨rfl, rfl⟩ := hrel
        have K1 := Lib.hid (HONE.out wr HB3.out)
        go_wp2_with fail
        refine K1.out.mono ?_
        rintro e w5 ⟨rfl, hb5⟩
        have HB5 := Lib.hid (below_next HB3.out hb5)
        clear hb5 K1 HONE HB3
        go_wp2_with fail
        go_ret
        exact ⟨rfl, HB5.out⟩
    · have hpos : 0 < M.length := List.length_pos_iff.2 hM0
      obtain ⟨rb, ro, rc, hl1, hrlt, _, hrr⟩ := RowV.at HLR3.out (by simpa using hpos)
      obtain ⟨db, dof, dc, hl2, hdlt, _, hdr⟩ := RowV.at HDR.out (by simpa using hpos)
      rw [List.length_map] at hl1 hl2
      have HRR := Lib.hid hrr
      have HDD := Lib.hid hdr
      have HRL := Lib.hid hrlt
      have HDL := Lib.hid hdlt
      subst hl1 hl2
      obtain ⟨N, hN⟩ : ∃ N, N = M.length := ⟨_, rfl⟩
      have HNM := Lib.hid hN
      rw [← hN]
      clear hrr hdr hrlt hdlt HLR3 HDR hM0 hpos hN
      go_wp2_with fail
      go_loopw [7] (fun i wr => ∃ j : Nat, j ≤ N ∧ i = .int .i64 j ∧ Below w3.heap.size w3 wr) (fun i _ => N - (intOf i).toNat)
      case atStart => exact ⟨0, Nat.zero_le _, rfl, Below.refl _ _⟩
      case round =>
        obtain ⟨j, hj, rfl, hbw⟩ := hrel
        have HBW := Lib.hid hbw
        clear hbw
        by_cases hjn : j < N
        · have hd : decide ((j : Int) < (N : Int)) = true := decide_eq_true (by omega)
          have hjI : (j : Int) < (N : Int) := by omega
          have hw1 : IntKind.i64.wrap ((j : Int) + 1) = (j : Int) + 1 := by have := HNM.out; have := HML.out; rw [IntKind.wrap_i64]; omega
          have HJ := Lib.hid hjn
          obtain ⟨u, hu⟩ : ∃ u, M[j]? = some u := ⟨_, List.getElem?_eq_getElem (by have := HNM.out; omega)⟩
          have hgu := (HMG.out u (List.mem_of_getElem? hu)).1
          have HGU := Lib.hid hgu
          have HR0 := Lib.hid (HRR.out j (sC u) (by rw [List.getElem?_map, hu]; rfl))
          have HD0 := Lib.hid (HDD.out j (dC (ownS u)) (by rw [List.getElem?_map, hu]; rfl))
          have HLS := Lib.hid (sC_len hgu)
          have HLD := Lib.hid (dC_len (good_own hgu))
          have KO := Lib.hid (fun W => own28 hgu W)
          have KQ := Lib.hid (fun W => eqinD (good_own hgu) W)
          clear hu hgu hj hjn
          go_upto_region 10 with fail
          refine wp_region_held (S := fun X => Below w3.heap.size w3 X) hmx ?_
          change wpAnyH _ _ _ _ _ 10 _ _ wr.drew
          have hS : Below w3.heap.size w3 wr.drew := HBW.out.drew
          clear HBW
          generalize wr.drew = wd at *
          refine wpAnyH_take (i := 0) (v := .slice (some ⟨rb, ro, none⟩) N rc) rfl (by decide +kernel) (by decide +kernel) (by decide +kernel) (fun _ _ _ h => h) (.inl ⟨by first | rfl | (go_simp; done), fun X hX => by clear hX; first | (go_simp; done) | (go_simp; rfl)⟩) hS ?_
          refine wpAnyH_take (i := 1) (v := .int .i64 j) rfl (by decide +kernel) (by decide +kernel) (by decide +kernel) (fun _ _ _ h => h) (.inl ⟨by first | rfl | (go_simp; done), fun X hX => by clear hX; first | (go_simp; done) | (go_simp; rfl)⟩) hS ?_
          refine wpAnyH_take (i := 2) (v := .pointer (some ⟨rb, ro + j * 19, none⟩)) rfl (by decide +kernel) (by decide +kernel) (by decide +kernel) (fun _ _ _ h => h) (.inl ⟨by first | rfl | (go_simp; done), fun X hX => by clear hX; first | (go_simp; done) | (go_simp; rfl)⟩) hS ?_
          refine wpAnyH_take (i := 3) (v := .agg (sC u).toArray) rfl (by decide +kernel) (by decide +kernel) (by decide +kernel) (fun _ _ _ h => h) (.inl ⟨by first | rfl | (go_simp; done), fun X hX => by exact exec_load_elt 29 _ rfl rb (ro + j * 19) (by go_simp) (sC u) _ (range_below HR0.out hX HRL.out) Tryd.underlying29 rfl (by rw [HLS.out]; exact info_step)⟩) hS ?_
          refine wpAnyH_take (i := 5) (v := .slice (some ⟨db, dof, none⟩) N dc) rfl (by decide +kernel) (by decide +kernel) (by decide +kernel) (fun _ _ _ h => h) (.inl ⟨by first | rfl | (go_simp; done), fun X hX => by clear hX; first | (go_simp; done) | (go_simp; rfl)⟩) hS ?_
          refine wpAnyH_take (i := 6) (v := .int .i64 j) rfl (by decide +kernel) (by decide +kernel) (by decide +kernel) (fun _ _ _ h => h) (.inl ⟨by first | rfl | (go_simp; done), fun X hX => by clear hX; first | (go_simp; done) | (go_simp; rfl)⟩) hS ?_
          refine wpAnyH_take (i := 7) (v := .pointer (some ⟨db, dof + j * 18, none⟩)) rfl (by decide +kernel) (by decide +kernel) (by decide +kernel) (fun _ _ _ h => h) (.inl ⟨by first | rfl | (go_simp; done), fun X hX => by clear hX; first | (go_simp; done) | (go_simp; rfl)⟩) hS ?_
          refine wpAnyH_take (i := 8) (v := .agg (dC (ownS u)).toArray) rfl (by decide +kernel) (by decide +kernel) (by decide +kernel) (fun _ _ _ h => h) (.inl ⟨by first | rfl | (go_simp; done), fun X hX => by exact exec_load_elt 35 _ rfl db (dof + j * 18) (by go_simp) (dC (ownS u)) _ (range_below HD0.out hX HDL.out) Tryd.underlying35 rfl (by rw [HLD.out]; exact info_dstep)⟩) hS ?_
          refine anyH_call (i := 4) (by decide +kernel) rfl (by first | rfl | (go_simp; done)) (by go_simp) (KO.out wd) ?_
          rintro e w5 ⟨rfl, hb5⟩
          have hS5 : Below w3.heap.size w3 w5 := below_next hS hb5
          refine ⟨_, rfl, hS5, ?_⟩
          refine wpAnyH_take (i := 9) (v := .bool false) rfl (by decide +kernel) (by decide +kernel) (by decide +kernel) (fun _ _ _ h => h) (.inl ⟨by first | rfl | (go_simp; done), fun X hX => by exact exec_neq (b := true) 35 _ _ _ rfl (dC (ownS u)).toArray (dC (ownS u)).toArray (by go_simp) (by go_simp) guardD (KQ.out X)⟩) hS5 ?_
          have HS5 := Lib.hid hS5
          clear hS hS5 hb5 KO KQ
          refine wpAnyH_done (by decide +kernel) ?_ _
          go_simp
          go_wp2_with fail
          go_roundw
          case rel => exact ⟨j + 1, by have := HJ.out; omega, by first | rfl | (simp; done), HS5.out⟩
          case measure => have := HJ.out; simp [intOf]; omega
        · obtain rfl : j = N := by omega
          have hd : decide ((j : Int) < (j : Int)) = false := decide_eq_false (by omega)
          have hbb := below_next HB3.out HBW.out
          have K1 := Lib.hid (HONE.out wr hbb)
          have HBB := Lib.hid hbb
          clear hbb HONE HBW hj hjn
          go_wp2_with fail
          refine K1.out.mono ?_
          rintro e w5 ⟨rfl, hb5⟩
          have HB5 := Lib.hid (below_next HBB.out hb5)
          clear hb5 K1 HB3
          go_wp2_with fail
          go_ret
          exact ⟨rfl, HB5.out⟩
end Go.Proofs.YtdfkfcpkejjlnaaDoor
namespace Go.Proofs.YtdfkfcpkejjlnaaDoor
set_option linter.unusedVariables false
open Go.ChangeShapes Go.WideShapes Go.ChangeAt Go.RowKit Cs Rv
attribute [local go_sem ↓] Go.wp_at_zero Go.wp_at_succ comesTo_value_eq comesTo_skip_eq comesTo_enter_eq

theorem make_z (n : Nat) (hn : n ≤ 1000000) : ∃ C : Array Value, (∀ w : World, (Instr.makeSlice 40 (.int .i64 (n : Int)) (.int .i64 (n : Int))).run Tryd.prog w = .ok (.slice (some ⟨w.heap.size, 0, none⟩) n n) (w.alloc (.cells C 5))) ∧ ∀ w : World, 0 < n → TxtAt (w.alloc (.cells C 5)) (.slice (some ⟨w.heap.size, 0, none⟩) n n) (List.replicate n 0) := by
  obtain ⟨i, hi, hz, hs, hb⟩ := info_parts info_u8
  refine ⟨madeCells #[.int .u8 0] (n * 1), fun w => ?_, fun w h0 => ?_⟩
  · have hr := run_make (P := Tryd.prog) w 40 5 i (.int .u8 0) Tryd.underlying40 hi hz .i64 .i64 (n : Int) (n : Int) (by omega) (Int.le_refl _) (by rw [hb]; omega) (by omega)
    rw [hs] at hr
    simpa [Value.cells] using hr
  · have hn1 := World.alloc_heap_new w (.cells (madeCells #[.int .u8 0] (n * 1)) 5)
    have hg : ∀ k, k < n → (List.replicate n (0 : Int)).getD k 0 = 0 := fun k hk => by simp [List.getD, hk]
    refine .inl ⟨w.heap.size, 0, n, by rw [List.length_replicate], by rw [List.length_replicate]; exact h0, ⟨fun k hk => ?_, fun k hk => ?_, fun k hk => ?_, by rw [List.length_replicate]; omega⟩⟩
    · rw [List.length_replicate] at hk
      rw [hg k hk, Nat.zero_add]
      refine cell_of_block hn1 ?_
      rw [← Array.getElem?_toList, toList_madeCells_one, Nat.mul_one, List.getElem?_replicate, if_pos hk]
    · rw [List.length_replicate] at hk; rw [hg k hk]; decide
    · rw [List.length_replicate] at hk; rw [hg k hk]; decide
theorem snoc {L : List SV} (h : L ≠ []) : ∃ M v, L = M ++ [v] := ⟨L.dropLast, L.getLast h, (List.dropLast_concat_getLast h).symm⟩
set_option maxRecDepth 100000 in
set_option maxHeartbeats 8000000 in
theorem sback_walk (la : Option Addr) (N lc : Nat) (A : List SV) (w : World) (ht : RowS w (.slice la N lc) A ∧ A.length = N ∧ ∀ v ∈ A, GoodS v) (hE : ErrAt w) : Calls Tryd.prog 5 #[.slice la N lc] w fun e w' => e = .returned (.bool true) ∧ Below w.heap.size w w' := by
  have hmx : Tryd.prog.follows .mixedOrders = true := by kernel_rfl
  obtain ⟨hrow, hlen, hgood⟩ := ht
  have HLA := Lib.hid (show 0 < N → ∃ b off, la = some ⟨b, off, none⟩ ∧ b < w.heap.size ∧ ∀ k v, A[k]? = some v → w.rangeAt b (off + k * 19) (sC v) from fun h0 => by
    obtain ⟨b, off, c, he, hb, _, hr⟩ := RowV.at hrow (by rw [List.length_map, hlen]; exact h0)
    injection he with he _ _
    exact ⟨b, off, he, hb, fun k v hk => hr k (sC v) (by rw [List.getElem?_map, hk]; rfl)⟩)
  have HE := Lib.hid (fun X (hX : Below w.heap.size w X) => hE.below hX)
  have HLN := Lib.hid hlen
  have HG := Lib.hid hgood
  obtain ⟨Z, hmk, hzt⟩ := make_z 65537 (by decide)
  have HZX := Lib.hid (show ∃ zs : List Int, (∀ W : World, TxtAt (W.alloc (.cells Z 5)) (.slice (some ⟨W.heap.size, 0, none⟩) 65537 65537) zs) ∧ (∀ x ∈ zs, 0 ≤ x ∧ x ≤ 255) ∧ zs.length ≤ 1099511627775 ∧ readS zs = ([], 3) from ⟨List.replicate 65537 0, fun W => hzt W (by decide), fun x hx => by rw [List.eq_of_mem_replicate hx]; decide, by rw [List.length_replicate]; decide, readS_big' (by rw [List.length_replicate]; decide)⟩)
  obtain ⟨zs, hz1, hz2, hz3, hz4⟩ := HZX.out
  have HZT := Lib.hid hz1
  have HZB := Lib.hid hz2
  have HZL := Lib.hid hz3
  have HZR := Lib.hid hz4
  clear hz1 hz2 hz3 hz4 HZX
  have hmk2 : ∀ w : World, (Instr.makeSlice 40 (.int .i64 65537) (.int .i64 65537)).run Tryd.prog w = .ok (.slice (some ⟨w.heap.size, 0, none⟩) 65537 65537) (w.alloc (.cells Z 5)) := hmk
  have HMK := Lib.hid hmk2
  clear hrow hlen hgood hE hzt hmk hmk2
  go_enter Tryd.func5, Tryd.ntmps5
  go_wp2_with fail
  go_loopw [3, 4] (fun av i wr => ∃ (j : Nat) (T : List SV) (ta : Option Addr) (tc : Nat), j ≤ 40 ∧ T.length ≤ j ∧ j ≤ N ∧ av = .slice ta T.length tc ∧ i = .int .i64 j ∧ (∀ v ∈ T, TidyS v) ∧ OwnV 29 19 wr w.heap.size (.slice ta T.length tc) (T.map sC) ∧ Below w.heap.size w wr) (fun _ i _ => 40 - (intOf i).toNat)
  case atStart => exact ⟨0, [], none, 0, by decide, Nat.le_refl _, Nat.zero_le _, rfl, rfl, fun v hv => (by cases hv), OwnV.nil, Below.refl _ _⟩
  case round =>
    obtain ⟨j, T, ta, tc, hj, htj, hjN, rfl, rfl, htidy, ho, hb⟩ := hrel
    have HTI := Lib.hid htidy
    have HO := Lib.hid ho
    have HB := Lib.hid hb
    have HJ := Lib.hid (show j ≤ 40 ∧ T.length ≤ j ∧ j ≤ N from ⟨hj, htj, hjN⟩)
    clear htidy ho hb hj htj hjN
    by_cases hc : j < N ∧ j < 40
    · have d1 : decide ((j : Int) < (N : Int)) = true := decide_eq_true (by omega)
      have d1n : decide (j < N) = true := decide_eq_true hc.1
      have d2 : decide ((j : Int) < 40) = true := decide_eq_true (by omega)
      have d2n : decide (j < 40) = true := decide_eq_true hc.2
      have hw1 : IntKind.i64.wrap ((j : Int) + 1) = (j : Int) + 1 := by rw [IntKind.wrap_i64]; omega
      have hjI : (j : Int) < (N : Int) := by omega
      obtain ⟨v, hv⟩ : ∃ v, A[j]? = some v := ⟨_, List.getElem?_eq_getElem (by have := HLN.out; omega)⟩
      have hgv := HG.out v (List.mem_of_getElem? hv)
      obtain ⟨rb, ro, hla, hrlt, hrr⟩ := HLA.out (by omega)
      have HLE := Lib.hid hla
      have hr0 := hrr j v hv
      have HR0 := Lib.hid (show Below w.heap.size w wr → wr.rangeAt rb (ro + j * 19) (sC v) from fun hX => range_below hr0 hX hrlt)
      have HRX := Lib.hid (fun X (hX : Below w.heap.size w X) => range_below hr0 hX hrlt)
      have HLS := Lib.hid (sC_len hgv)
      have KR := Lib.hid (fun W => right_s hgv W)
      have KC := Lib.hid (fun W => clean_s hgv W)
      have HGV := Lib.hid hgv
      have HC := Lib.hid hc
      clear hv hgv hla hrlt hrr hr0 HR0 hc
      go_upto_region 5 with fail
      refine wp_region_lit (WL.out ?_)
      refine WL.yield (w' := wr) (v := .slice la N lc) rfl (by first | (go_simp; done) | (go_simp; rfl)) ?_
      try go_simp
      refine WL.yield (w' := wr) (v := .int .i64 j) rfl (by first | (go_simp; done) | (go_simp; rfl)) ?_
      try go_simp
      refine WL.yield (w' := wr) (v := .pointer (some ⟨rb, ro + j * 19, none⟩)) rfl (by rw [HLE.out]; first | (go_simp; done) | (go_simp; rfl)) ?_
      try go_simp
      refine WL.yield (w' := wr) (v := .agg (sC v).toArray) rfl (exec_load_elt 29 _ rfl rb (ro + j * 19) (by go_simp) (sC v) _ (HRX.out _ HB.out) Tryd.underlying29 rfl (by rw [HLS.out]; exact info_step)) ?_
      try go_simp
      refine WL.enter rfl (by go_simp) (KR.out wr) ?_
      rintro e w2 ⟨rfl, hb2⟩
      refine ⟨_, rfl, ?_⟩
      have HB2 := Lib.hid (below_next HB.out hb2)
      have HO2 := Lib.hid (HO.out.below hb2)
      clear hb2 HB HO KR
      refine WL.nil ?_
      obtain ⟨r, hr⟩ : ∃ r, r = rightS v := ⟨_, rfl⟩
      have HRV := Lib.hid hr
      rw [← hr]
      clear hr
      go_simp
      cases r with
      | false =>
        go_wp2_with fail
        go_roundw
        case rel => exact ⟨j + 1, T, ta, tc, by have := HC.out; omega, by have := HJ.out; omega, by have := HC.out; omega, rfl, by first | rfl | (simp; done), HTI.out, HO2.out, HB2.out⟩
        case measure => have := HC.out; simp [intOf]; omega
      | true =>
        go_upto_region 6 with fail
        refine wp_region_lit (WL.out ?_)
        refine WL.yield (w' := w2) (v := .slice ta T.length tc) rfl (by first | (go_simp; done) | (go_simp; rfl)) ?_
        try go_simp
        refine WL.yield (w' := w2) (v := .slice la N lc) rfl (by first | (go_simp; done) | (go_simp; rfl)) ?_
        try go_simp
        refine WL.yield (w' := w2) (v := .int .i64 j) rfl (by first | (go_simp; done) | (go_simp; rfl)) ?_
        try go_simp
        refine WL.yield (w' := w2) (v := .pointer (some ⟨rb, ro + j * 19, none⟩)) rfl (by rw [HLE.out]; first | (go_simp; done) | (go_simp; rfl)) ?_
        try go_simp
        refine WL.yield (w' := w2) (v := .agg (sC v).toArray) rfl (exec_load_elt 29 _ rfl rb (ro + j * 19) (by go_simp) (sC v) _ (HRX.out _ HB2.out) Tryd.underlying29 rfl (by rw [HLS.out]; exact info_step)) ?_
        try go_simp
        have htd := tidy_clean HGV.out HRV.out.symm
        have HTD := Lib.hid htd
        obtain ⟨k9, x0, x1, x2, x3, x4, x5, x6, x7, x8, x9, x10, x11, s9, n9, qa, qb, qc, qd, hU9⟩ := good_open htd.good
        obtain ⟨hb9, hhb9⟩ : ∃ hb9, hb9 = (x11 == 1) := ⟨_, rfl⟩
        have hU10 : sC (cleanS v) = ([.int .i64 k9, .int .i64 x0, .int .i64 x1, .int .i64 x2, .int .i64 x3, .int .i64 x4, .int .i64 x5, .int .i64 x6, .int .i64 x7, .int .i64 x8, .int .i64 x9, .int .i64 x10, .bool hb9, .string s9, .int .i64 n9, .int .i64 qa, .int .i64 qb, .int .i64 qc, .int .i64 qd] : List Value) := by rw [hU9, hhb9]; rfl
        have hone2 := sC_one htd.good
        rw [hU10] at hone2
        have HU10 := Lib.hid hU10
        have kc2 : ∀ W, Calls Tryd.prog 9 #[.agg (sC v).toArray] W fun e w' => e = .returned (.agg #[.int .i64 k9, .int .i64 x0, .int .i64 x1, .int .i64 x2, .int .i64 x3, .int .i64 x4, .int .i64 x5, .int .i64 x6, .int .i64 x7, .int .i64 x8, .int .i64 x9, .int .i64 x10, .bool hb9, .string s9, .int .i64 n9, .int .i64 qa, .int .i64 qb, .int .i64 qc, .int .i64 qd]) ∧ Below W.heap.size W w' := by
          have := KC.out
          rw [hU10] at this
          exact this
        have KC2 := Lib.hid kc2
        clear hU9 hhb9 hU10 kc2 htd KC
        refine WL.enter rfl (by go_simp) (KC2.out w2) ?_
        rintro e w3 ⟨rfl, hb3⟩
        refine ⟨_, rfl, ?_⟩
        have HB3 := Lib.hid (below_next HB2.out hb3)
        have HO3 := Lib.hid (HO2.out.below hb3)
        clear hb3 HB2 HO2 KC2
        try go_simp
        have hal := below_alloc (Below.refl _ w3) (.cells #[.int .i64 k9, .int .i64 x0, .int .i64 x1, .int .i64 x2, .int .i64 x3, .int .i64 x4, .int .i64 x5, .int .i64 x6, .int .i64 x7, .int .i64 x8, .int .i64 x9, .int .i64 x10, .bool hb9, .string s9, .int .i64 n9, .int .i64 qa, .int .i64 qb, .int .i64 qc, .int .i64 qd] 29)
        obtain ⟨v', W9, hrun, hown, hgr, hnew, hbel⟩ := app_one eltS 22 (HO3.out.below hal) ([.int .i64 k9, .int .i64 x0, .int .i64 x1, .int .i64 x2, .int .i64 x3, .int .i64 x4, .int .i64 x5, .int .i64 x6, .int .i64 x7, .int .i64 x8, .int .i64 x9, .int .i64 x10, .bool hb9, .string s9, .int .i64 n9, .int .i64 qa, .int .i64 qb, .int .i64 qc, .int .i64 qd] : List Value) rfl (by simpa using hone2) (by rw [List.length_map]; have := HJ.out; omega) (by decide) (Nat.le_trans HB3.out.size hal.size) (World.alloc_heap_new _ _)
        obtain ⟨a9, c9, rfl⟩ := hown.form
        have hlm : ((T.map sC) ++ [([.int .i64 k9, .int .i64 x0, .int .i64 x1, .int .i64 x2, .int .i64 x3, .int .i64 x4, .int .i64 x5, .int .i64 x6, .int .i64 x7, .int .i64 x8, .int .i64 x9, .int .i64 x10, .bool hb9, .string s9, .int .i64 n9, .int .i64 qa, .int .i64 qb, .int .i64 qc, .int .i64 qd] : List Value)]).length = (T ++ [cleanS v]).length := by simp
        rw [hlm] at hown hrun hnew
        obtain ⟨NN, hNN⟩ : ∃ NN, NN = (T ++ [cleanS v]).length := ⟨_, rfl⟩
        rw [← hNN] at hrun
        have HNN := Lib.hid hNN
        clear hNN
        have HO9 := Lib.hid (show OwnV 29 19 W9 w.heap.size (.slice a9 (T ++ [cleanS v]).length c9) ((T ++ [cleanS v]).map sC) from by rw [List.map_append, show [cleanS v].map sC = [sC (cleanS v)] from rfl, HU10.out]; exact hown)
        have HB9 := Lib.hid (show Below w.heap.size w W9 from HB3.out.trans ((hal.mono HB3.out.size).trans hbel))
        clear hal hgr hnew hbel hown hlm hone2
        refine WL.yield (w' := w3.alloc (.cells #[.int .i64 k9, .int .i64 x0, .int .i64 x1, .int .i64 x2, .int .i64 x3, .int .i64 x4, .int .i64 x5, .int .i64 x6, .int .i64 x7, .int .i64 x8, .int .i64 x9, .int .i64 x10, .bool hb9, .string s9, .int .i64 n9, .int .i64 qa, .int .i64 qb, .int .i64 qc, .int .i64 qd] 29)) (v := .slice (some ⟨w3.heap.size, 0, none⟩) 1 1) rfl (by first | (go_simp; done) | (go_simp; rfl)) ?_
        try go_simp
        refine WL.yield (w' := W9) (v := .slice a9 NN c9) rfl (Ap.exec_app rfl (by first | rfl | go_simp) (by first | rfl | go_simp) hrun) ?_
        try go_simp
        clear HB3 HO3 hrun HU10
        refine WL.yield (w' := W9) (v := .slice a9 NN c9) rfl (by go_simp) ?_
        refine WL.nil ?_
        go_simp
        go_wp2_with fail
        go_roundw
        case rel => exact ⟨j + 1, T ++ [cleanS v], a9, c9, by have := HC.out; omega, by have := HJ.out; rw [List.length_append, List.length_singleton]; omega, by have := HC.out; omega, by rw [HNN.out], by first | rfl | (simp; done), fun x hx => by
          rcases List.mem_append.1 hx with hx | hx
          · exact HTI.out x hx
          · rw [List.mem_singleton.1 hx]; exact HTD.out, HO9.out, HB9.out⟩
        case measure => have := HC.out; simp [intOf]; omega
    · have d0 : decide ((j : Int) < (N : Int)) = decide (j < N) := by simp
      obtain ⟨bj, hbj⟩ : ∃ bj, bj = decide (j < N) := ⟨_, rfl⟩
      have d1 : decide ((j : Int) < (N : Int)) = bj := by rw [d0, hbj]
      have d1n : decide (j < N) = bj := hbj.symm
      have d2 : bj = true → decide ((j : Int) < 40) = false := fun h => by rw [hbj] at h; have := of_decide_eq_true h; exact decide_eq_false (by omega)
      have HD2 := Lib.hid d2
      have HTL := Lib.hid (show T.length ≤ 40 from by have := HJ.out; omega)
      clear d0 hbj d2 hc HLA HG HLN
      have HTR := Lib.hid (OwnV.row (fun l hl => by obtain ⟨v, hv, rfl⟩ := List.mem_map.1 hl; exact sC_len (HTI.out v hv).good) HO.out)
      have HGT := Lib.hid (fun v hv => (HTI.out v hv).good)
      have KP := Lib.hid (put_s (w := wr) HTR.out HGT.out (by have := HTL.out; omega))
      have KPX : bj = bj := rfl
      clear KPX
      go_upto_region 3 with fail
      go_cut [20] (fun bv W => bv = .bool false ∧ W = wr)
      case first =>
        cases bj with
        | false =>
          go_wp2_with fail
          go_meet
          exact ⟨rfl, rfl⟩
        | true =>
          have d3 := HD2.out rfl
          have d3n : decide (j < 40) = false := decide_eq_false (by have := of_decide_eq_false d3; omega)
          go_wp2_with fail
          go_meet
          exact ⟨rfl, rfl⟩
      case rest =>
      obtain ⟨rfl, rfl⟩ := hcut
      have HPUT := Lib.hid (readS_put HTI.out (by have := HTL.out; omega))
      have HPL := Lib.hid (show (putS T).length ≤ 12000 from by have := putS_len T HGT.out; have := HTL.out; omega)
      have HPG := Lib.hid (putS_long T HTI.out)
      obtain ⟨NT, hNT⟩ : ∃ n, n = T.length := ⟨_, rfl⟩
      have HNT := Lib.hid hNT
      rw [← hNT] at KP ⊢
      clear hNT HJ HD2
      go_wp2_with fail
      refine KP.out.mono ?_
      rintro e w4 ⟨u, rfl, hu, hb4⟩
      obtain ⟨ua, uc, hue, hform, hucap⟩ := hu.shape
      obtain ⟨NB, hNB⟩ : ∃ n, n = (putS T).length := ⟨_, rfl⟩
      have HNB := Lib.hid hNB
      subst hue
      rw [← hNB] at hu hform hucap ⊢
      have HU := Lib.hid hu
      have HUT := Lib.hid hu.at
      have HUF := Lib.hid hform
      have HUC := Lib.hid hucap
      have HB4 := Lib.hid (below_next HB.out hb4)
      have HTR4 := Lib.hid (RowV.below HTR.out hb4)
      have KRD := Lib.hid (sread_any (w := w4) HUT.out (txt_by HUT.out) (by have := HPL.out; omega) (HE.out _ HB4.out))
      clear hu hform hucap hb4 HB HO KP HTR hNB
      go_wp2_with fail
      refine KRD.out.mono ?_
      rintro e w5 ⟨mv, rfl, ho5, hb5⟩
      rw [HPUT.out] at ho5 ⊢
      have hmr : RowV 19 w5 mv (T.map sC) := OwnV.row (fun l hl => by obtain ⟨v, hv, rfl⟩ := List.mem_map.1 hl; exact sC_len (HTI.out v hv).good) ho5
      have HMR := Lib.hid hmr
      have HTR5 := Lib.hid (RowV.below HTR4.out hb5)
      have HB5 := Lib.hid (below_next HB4.out hb5)
      have HU5 := Lib.hid (HU.out.below hb5)
      obtain ⟨ma, mc, hme, _, _⟩ := hmr
      have hme2 : mv = .slice ma NT mc := by rw [hme, List.length_map, HNT.out]
      subst hme2
      clear ho5 hb5 KRD hme HB4 HTR4 HU HUT
      go_wp2_with fail
      go_loopw [8] (fun i wr => ∃ j : Nat, j ≤ NT ∧ i = .int .i64 j ∧ Below w5.heap.size w5 wr) (fun i _ => NT - (intOf i).toNat)
      case atStart => exact ⟨0, Nat.zero_le _, rfl, Below.refl _ _⟩
      case round =>
        obtain ⟨j2, hj2, rfl, hbw⟩ := hrel
        have HBW := Lib.hid hbw
        clear hbw
        by_cases hjn : j2 < NT
        · have hd : decide ((j2 : Int) < (NT : Int)) = true := decide_eq_true (by omega)
          have hjI2 : (j2 : Int) < (NT : Int) := by omega
          have hw2 : IntKind.i64.wrap ((j2 : Int) + 1) = (j2 : Int) + 1 := by have := HNT.out; have := HTL.out; rw [IntKind.wrap_i64]; omega
          have HJ := Lib.hid hjn
          obtain ⟨v2, hv2⟩ : ∃ v, T[j2]? = some v := ⟨_, List.getElem?_eq_getElem (by have := HNT.out; omega)⟩
          have hgv := HGT.out v2 (List.mem_of_getElem? hv2)
          have hTp : 0 < (T.map sC).length := by rw [List.length_map, ← HNT.out]; omega
          obtain ⟨b1, o1, c1, he1, hl1, _, hr1⟩ := RowV.at HMR.out hTp
          obtain ⟨b2, o2, c2, he2, hl2, _, hr2⟩ := RowV.at HTR5.out hTp
          have HE1 := Lib.hid (Value.slice.inj he1).1
          have HE2 := Lib.hid (Value.slice.inj he2).1
          have hq1 := hr1 j2 (sC v2) (by rw [List.getElem?_map, hv2]; rfl)
          have hq2 := hr2 j2 (sC v2) (by rw [List.getElem?_map, hv2]; rfl)
          have HQ1 := Lib.hid (fun X (hX : Below w5.heap.size w5 X) => range_below hq1 hX hl1)
          have HQ2 := Lib.hid (fun X (hX : Below w5.heap.size w5 X) => range_below hq2 hX hl2)
          have HLS := Lib.hid (sC_len hgv)
          have KQ := Lib.hid (fun W => eqinS hgv W)
          clear hv2 hgv hTp hl1 hr1 hl2 hr2 hq1 hq2 he1 he2 hj2 hjn
          go_upto_region 14 with fail
          refine wp_region_held (S := fun X => Below w5.heap.size w5 X) hmx ?_
          change wpAnyH _ _ _ _ _ 9 _ _ wr.drew
          have hS : Below w5.heap.size w5 wr.drew := HBW.out.drew
          clear HBW
          generalize wr.drew = wd at *
          refine wpAnyH_take (i := 0) (v := .slice ma NT mc) rfl (by decide +kernel) (by decide +kernel) (by decide +kernel) (fun _ _ _ h => h) (.inl ⟨by first | rfl | (go_simp; done), fun X hX => by clear hX; first | (go_simp; done) | (go_simp; rfl)⟩) hS ?_
          refine wpAnyH_take (i := 1) (v := .int .i64 j2) rfl (by decide +kernel) (by decide +kernel) (by decide +kernel) (fun _ _ _ h => h) (.inl ⟨by first | rfl | (go_simp; done), fun X hX => by clear hX; first | (go_simp; done) | (go_simp; rfl)⟩) hS ?_
          refine wpAnyH_take (i := 2) (v := .pointer (some ⟨b1, o1 + j2 * 19, none⟩)) rfl (by decide +kernel) (by decide +kernel) (by decide +kernel) (fun _ _ _ h => h) (.inl ⟨by first | rfl | (go_simp; done), fun X hX => by clear hX; rw [HE1.out]; first | (go_simp; done) | (go_simp; rfl)⟩) hS ?_
          refine wpAnyH_take (i := 3) (v := .agg (sC v2).toArray) rfl (by decide +kernel) (by decide +kernel) (by decide +kernel) (fun _ _ _ h => h) (.inl ⟨by first | rfl | (go_simp; done), fun X hX => by exact exec_load_elt 29 _ rfl b1 (o1 + j2 * 19) (by go_simp) (sC v2) _ (HQ1.out X hX) Tryd.underlying29 rfl (by rw [HLS.out]; exact info_step)⟩) hS ?_
          refine wpAnyH_take (i := 4) (v := .slice ta NT tc) rfl (by decide +kernel) (by decide +kernel) (by decide +kernel) (fun _ _ _ h => h) (.inl ⟨by first | rfl | (go_simp; done), fun X hX => by clear hX; first | (go_simp; done) | (go_simp; rfl)⟩) hS ?_
          refine wpAnyH_take (i := 5) (v := .int .i64 j2) rfl (by decide +kernel) (by decide +kernel) (by decide +kernel) (fun _ _ _ h => h) (.inl ⟨by first | rfl | (go_simp; done), fun X hX => by clear hX; first | (go_simp; done) | (go_simp; rfl)⟩) hS ?_
          refine wpAnyH_take (i := 6) (v := .pointer (some ⟨b2, o2 + j2 * 19, none⟩)) rfl (by decide +kernel) (by decide +kernel) (by decide +kernel) (fun _ _ _ h => h) (.inl ⟨by first | rfl | (go_simp; done), fun X hX => by clear hX; rw [HE2.out]; first | (go_simp; done) | (go_simp; rfl)⟩) hS ?_
          refine wpAnyH_take (i := 7) (v := .agg (sC v2).toArray) rfl (by decide +kernel) (by decide +kernel) (by decide +kernel) (fun _ _ _ h => h) (.inl ⟨by first | rfl | (go_simp; done), fun X hX => by exact exec_load_elt 29 _ rfl b2 (o2 + j2 * 19) (by go_simp) (sC v2) _ (HQ2.out X hX) Tryd.underlying29 rfl (by rw [HLS.out]; exact info_step)⟩) hS ?_
          refine wpAnyH_take (i := 8) (v := .bool false) rfl (by decide +kernel) (by decide +kernel) (by decide +kernel) (fun _ _ _ h => h) (.inl ⟨by first | rfl | (go_simp; done), fun X hX => by exact exec_neq (b := true) 29 _ _ _ rfl (sC v2).toArray (sC v2).toArray (by go_simp) (by go_simp) guardS (KQ.out X)⟩) hS ?_
          have HS5 := Lib.hid hS
          clear hS KQ
          refine wpAnyH_done (by decide +kernel) ?_ _
          go_simp
          go_wp2_with fail
          go_roundw
          case rel => exact ⟨j2 + 1, by have := HJ.out; omega, by first | rfl | (simp; done), HS5.out⟩
          case measure => have := HJ.out; simp [intOf]; omega
        · obtain rfl : j2 = NT := by omega
          have hd : decide ((j2 : Int) < (j2 : Int)) = false := decide_eq_false (by omega)
          have HB6 := Lib.hid (below_next HB5.out HBW.out)
          have HU6 := Lib.hid (HU5.out.below HBW.out)
          clear HBW HB5 HU5 HMR HTR5 hj2 hjn
          have HONE := Lib.hid (fun X (hX : Below w.heap.size w X) => one28 (HE.out X hX))
          by_cases hT0 : T = []
          · have hNB0 : NB = 0 := by rw [HNB.out, hT0]; rfl
            have hj0 : j2 = 0 := by rw [HNT.out, hT0]; rfl
            have K1 := Lib.hid (HONE.out wr HB6.out)
            clear hT0
            subst hNB0 hj0
            go_wp2_with fail
            refine K1.out.mono ?_
            rintro e w9 ⟨rfl, hb9⟩
            have HB9 := Lib.hid (below_next HB6.out hb9)
            clear hb9 K1
            go_wp2_with fail
            go_ret
            exact ⟨rfl, HB9.out⟩
          · have hTpos := List.length_pos_iff.2 hT0
            have hNBpos : 0 < NB := by have := HPG.out; have := HNB.out; omega
            have e0 : ((NB : Int) == 0) = false := by simp; omega
            have e0n : (NB == 0) = false := by simp; omega
            have e0d : decide ((NB : Int) = 0) = false := decide_eq_false (by omega)
            have e0p : ¬ (NB = 0) := by omega
            have hsl : ∀ W, Sem.run Tryd.prog (Instr.slice 40 (.slice ua NB uc) none (some (.int .i64 ((NB - 1 : Nat) : Int))) none) W = .ok (.slice ua (NB - 1) uc) W := fun W => slice_to (by
              rcases HUF.out with ⟨h1, h2, h3⟩ | h1
              · omega
              · exact .inr h1) (by have := HUC.out; omega) W
            have hw3 : IntKind.i64.wrap ((NB : Int) - 1) = ((NB - 1 : Nat) : Int) := by have := HPL.out; have := HNB.out; rw [IntKind.wrap_i64]; omega
            obtain ⟨M, v9, hMv⟩ := snoc hT0
            have hcut : (readS ((putS T).take (NB - 1))).1 = M := by rw [HNB.out, hMv]; exact readS_cut (hMv ▸ HTI.out) (by have := HTL.out; rw [hMv, List.length_append, List.length_singleton] at this; omega)
            have hMl : M.length + 1 = j2 := by rw [HNT.out, hMv, List.length_append, List.length_singleton]
            have hutk := OwnTxt.take HU6.out (k := NB - 1) (by have := HNB.out; omega)
            have htl : ((putS T).take (NB - 1)).length ≤ 65536 := by rw [List.length_take]; have := HPL.out; omega
            have K2 := Lib.hid (sread_any (w := wr) hutk.at (txt_by hutk.at) (by omega) (HE.out _ HB6.out))
            obtain ⟨NM, hNM⟩ : ∃ n, n = NB - 1 := ⟨_, rfl⟩
            obtain ⟨M2, c9, hrd⟩ : ∃ M2 c, readS ((putS T).take (NB - 1)) = (M2, c) := ⟨_, _, rfl⟩
            rw [hrd] at hcut
            have hcut2 : M2 = M := hcut
            subst hcut2
            rw [← hNM] at hrd
            have HRD := Lib.hid hrd
            have HML := Lib.hid hMl
            rw [← hNM] at hsl hw3 K2
            clear hutk htl hcut hMv hrd hNM hMl
            go_wp2_with fail
            refine K2.out.mono ?_
            rintro e wA ⟨kv, rfl, hoA, hbA⟩
            rw [HRD.out] at hoA ⊢
            obtain ⟨ka, kc, hke⟩ := hoA.form
            obtain ⟨NK, hNK⟩ : ∃ n, n = M2.length := ⟨_, rfl⟩
            have hke2 : kv = .slice ka NK kc := by rw [hke, List.length_map, hNK]
            subst hke2
            have HBA := Lib.hid (below_next HB6.out hbA)
            have hw4 : IntKind.i64.wrap ((j2 : Int) - 1) = (NK : Int) := by have := HML.out; have := HNT.out; have := HTL.out; rw [IntKind.wrap_i64]; omega
            have hal := below_alloc (Below.refl _ wA) (.cells Z 5)
            have HBZ := Lib.hid (below_next HBA.out hal)
            have K3 := Lib.hid (sread_any (HZT.out wA) HZB.out HZL.out (HE.out _ HBZ.out))
            have hmk3 := HMK.out
            dsimp only
            clear hoA hbA hke hNK hal hsl hw3 K2 HRD HU6 HZT HE HPUT HTI HML
            go_wp2_with fail
            refine K3.out.mono ?_
            rintro e wB ⟨bv, rfl, hoB, hbB⟩
            rw [HZR.out]
            have HBB := Lib.hid (below_next HBZ.out hbB)
            have K1 := Lib.hid (HONE.out wB HBB.out)
            clear hoB hbB K3 HBZ hmk3 HMK HONE
            dsimp only
            go_wp2_with fail
            refine K1.out.mono ?_
            rintro e w9 ⟨rfl, hb9⟩
            have HB9 := Lib.hid (below_next HBB.out hb9)
            clear hb9 K1
            go_wp2_with fail
            go_ret
            exact ⟨rfl, HB9.out⟩
end Go.Proofs.YtdfkfcpkejjlnaaDoor
