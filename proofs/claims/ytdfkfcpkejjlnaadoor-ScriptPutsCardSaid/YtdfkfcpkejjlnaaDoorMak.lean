/- Laws that belong together: The statements' one; the steps of an argument (layer 28). Condition: the errors' table.; The law ScriptReads (layer 28). Condition: the errors' table.; The law ScriptPuts (layer 28). Condition: the errors' table. -/
import Derived.Test.YtdfkfcpkejjlnaaDoorMScH
import Derived.Test.YtdfkfcpkejjlnaaDoorMScQ
import Derived.Lib.SmallJoins
import Derived.Laws.IdiomArrays
import Derived.ChangeMaps
namespace Go.Proofs.YtdfkfcpkejjlnaaDoor
set_option linter.unusedVariables false
open Go.ChangeShapes Go.WideShapes Go.ChangeAt Go.RowKit Cs Rv
attribute [local go_sem ↓] Go.wp_at_zero Go.wp_at_succ comesTo_value_eq comesTo_skip_eq comesTo_enter_eq

def s45 : List SV := [⟨4, z12, eS, 0, z4⟩, ⟨5, z12, eS, 0, z4⟩]
theorem tidy45 : ∀ v ∈ s45, TidyS v := fun v hv => by
  simp only [s45, List.mem_cons, List.not_mem_nil, or_false] at hv
  rcases hv with rfl | rfl
  · exact ⟨good4 (by unfold i64S; omega), rfl, rfl⟩
  · exact ⟨good4 (by unfold i64S; omega), rfl, rfl⟩
theorem put45 : putS s45 = [8, 10] := by
  have h4 : putI 4 = [8] := by unfold putI; rw [show foldF 4 = 8 from rfl, putU_lt (by decide)]; rfl
  have h5 : putI 5 = [10] := by unfold putI; rw [show foldF 5 = 10 from rfl, putU_lt (by decide)]; rfl
  unfold s45
  rw [putS_cons rfl, putS_cons rfl]
  unfold bytesS
  simp [h4, h5, putS]
theorem read45 : readS [8, 10] = (s45, 0) := by rw [← put45]; exact readS_put tidy45 (by decide)
set_option maxRecDepth 100000 in
set_option maxHeartbeats 8000000 in
theorem one28 {w : World} (hE : ErrAt w) : Calls Tryd.prog 13 #[] w fun e w' => e = .returned (.bool true) ∧ Below w.heap.size w w' := by
  have HE := Lib.hid (fun X (hX : Below w.heap.size w X) => hE.below hX)
  have hb1 := below_alloc (Below.refl _ w) (.cells #[.int .u8 8, .int .u8 10] 5)
  have hn1 := World.alloc_heap_new w (.cells #[.int .u8 8, .int .u8 10] 5)
  have HT := Lib.hid (show TxtAt (w.alloc (.cells #[.int .u8 8, .int .u8 10] 5)) (.slice (some ⟨w.heap.size, 0, none⟩) 2 2) [8, 10] from .inl ⟨w.heap.size, 0, 2, rfl, by decide, ⟨fun k hk => by
    have hk2 : k = 0 ∨ k = 1 := by have : k < 2 := hk; omega
    rcases hk2 with rfl | rfl
    · exact cell_of_block hn1 rfl
    · exact cell_of_block hn1 rfl, fun k hk => by have hk2 : k = 0 ∨ k = 1 := by (have : k < 2 := hk; omega)
                                                  rcases hk2 with rfl | rfl <;> decide, fun k hk => by have hk2 : k = 0 ∨ k = 1 := by (have : k < 2 := hk; omega)
                                                                                                       rcases hk2 with rfl | rfl <;> decide, by decide⟩⟩)
  have HB1 := Lib.hid hb1
  clear hE hb1 hn1
  go_enter Tryd.func13, Tryd.ntmps13
  go_upto_region 1 with fail
  refine wp_region_lit (WL.out ?_)
  refine WL.yield (w' := w.alloc (.cells #[.int .u8 8, .int .u8 10] 5)) (v := .slice (some ⟨w.heap.size, 0, none⟩) 2 2) rfl (by first | (go_simp; done) | (go_simp; rfl)) ?_
  try go_simp
  generalize w.alloc (.cells #[.int .u8 8, .int .u8 10] 5) = W1 at *
  refine WL.enter rfl (by go_simp) (sread_any HT.out (fun x hx => by simp at hx; omega) (by decide) (HE.out _ HB1.out)) ?_
  rintro e w2 ⟨lv, rfl, ho, hb⟩
  rw [read45] at ho ⊢
  have HO2 := Lib.hid ho
  have HB2 := Lib.hid (below_next HB1.out hb)
  clear ho hb HT HB1
  refine ⟨_, rfl, ?_⟩
  try go_simp
  refine WL.yield (w' := w2) (v := .tuple #[lv, .int .i64 0]) rfl (by go_simp) ?_
  try go_simp
  refine WL.yield (w' := w2) (v := lv) rfl (by go_simp) ?_
  try go_simp
  refine WL.yield (w' := w2) (v := .int .i64 0) rfl (by go_simp) ?_
  try go_simp
  refine WL.yield (w' := w2) (v := lv) rfl (by go_simp) ?_
  try go_simp
  refine WL.yield (w' := w2) (v := .int .i64 0) rfl (by go_simp) ?_
  refine WL.nil ?_
  go_simp
  go_upto_region 2 with fail
  have hal := below_alloc (Below.refl _ w2) (.cells ((sC ⟨4, z12, eS, 0, z4⟩ ++ sC ⟨5, z12, eS, 0, z4⟩ : List Value).toArray) 29)
  have hnl := World.alloc_heap_new w2 (.cells ((sC ⟨4, z12, eS, 0, z4⟩ ++ sC ⟨5, z12, eS, 0, z4⟩ : List Value).toArray) 29)
  have HO3 := Lib.hid (HO2.out.below hal)
  have HB3 := Lib.hid (below_next HB2.out hal)
  have KP := Lib.hid (show Calls Tryd.prog 11 #[.slice (some ⟨w2.heap.size, 0, none⟩) 2 2] (w2.alloc (.cells ((sC ⟨4, z12, eS, 0, z4⟩ ++ sC ⟨5, z12, eS, 0, z4⟩ : List Value).toArray) 29)) _ from put_some (w := w2.alloc (.cells ((sC ⟨4, z12, eS, 0, z4⟩ ++ sC ⟨5, z12, eS, 0, z4⟩ : List Value).toArray) 29)) (rb := w2.heap.size) (off := 0) (rc := 2) (L := s45) (Nat.le_refl _) (Array.getElem?_eq_some_iff.1 hnl).1 (fun k l hk => by
    rcases k with _ | _ | k
    · injection hk with hk
      subst hk
      exact range_mid hnl 0 19 rfl
    · injection hk with hk
      subst hk
      exact range_mid hnl 19 19 rfl
    · cases hk) (fun v hv => (tidy45 v hv).good) (by decide))
  rw [put45] at KP
  clear hal hnl HO2 HB2
  refine wp_region_lit (WL.out ?_)
  refine WL.yield (w' := w2) (v := .agg #[.int .i64 4, .int .i64 0, .int .i64 0, .int .i64 0, .int .i64 0, .int .i64 0, .int .i64 0, .int .i64 0, .int .i64 0, .int .i64 0, .int .i64 0, .int .i64 0, .bool false, .string ⟨#[]⟩, .int .i64 0, .int .i64 0, .int .i64 0, .int .i64 0, .int .i64 0]) rfl (by first | (go_simp; done) | (go_simp; rfl)) ?_
  try go_simp
  refine WL.yield (w' := w2) (v := .agg #[.int .i64 5, .int .i64 0, .int .i64 0, .int .i64 0, .int .i64 0, .int .i64 0, .int .i64 0, .int .i64 0, .int .i64 0, .int .i64 0, .int .i64 0, .int .i64 0, .bool false, .string ⟨#[]⟩, .int .i64 0, .int .i64 0, .int .i64 0, .int .i64 0, .int .i64 0]) rfl (by first | (go_simp; done) | (go_simp; rfl)) ?_
  try go_simp
  refine WL.yield (w' := w2.alloc (.cells ((sC ⟨4, z12, eS, 0, z4⟩ ++ sC ⟨5, z12, eS, 0, z4⟩ : List Value).toArray) 29)) (v := .slice (some ⟨w2.heap.size, 0, none⟩) 2 2) rfl (by first | (go_simp; done) | (go_simp; rfl)) ?_
  try go_simp
  generalize w2.alloc (.cells ((sC ⟨4, z12, eS, 0, z4⟩ ++ sC ⟨5, z12, eS, 0, z4⟩ : List Value).toArray) 29) = W3 at *
  generalize w2.heap.size = p at *
  refine WL.enter rfl (by go_simp) KP.out ?_
  rintro e w4 ⟨u, rfl, hu, hb⟩
  have hcv := txt_conv hu.at w4 (Below.refl _ _)
  have hO4 := HO3.out.below hb
  have HB4 := Lib.hid (below_next HB3.out hb)
  have hrow := OwnV.row (fun l hl => by obtain ⟨v, hv, rfl⟩ := List.mem_map.1 hl; exact sC_len (tidy45 v hv).good) hO4
  obtain ⟨ra, rc, hlv, _, hr⟩ := hrow
  obtain ⟨rb, off, rfl, _, hr2⟩ := hr (by decide)
  have c1 : w4.cell? ⟨rb, off + 19, none⟩ = some (.int .i64 5) := hr2 1 (sC ⟨5, z12, eS, 0, z4⟩) rfl 0 (.int .i64 5) rfl
  have hlv2 : lv = .slice (some ⟨rb, off, none⟩) 2 rc := hlv
  clear hlv
  subst hlv2
  clear hu hb hO4 HO3 HB3 KP hr hr2
  refine ⟨_, rfl, ?_⟩
  try go_simp
  refine WL.yield (w' := w4) (v := .string ⟨#[8, 10]⟩) rfl (by rw [show (⟨#[8, 10]⟩ : ByteArray) = strOfNums [8, 10] from rfl]; first | (go_simp; done) | (go_simp; rfl)) ?_
  clear hcv
  try go_simp
  refine ⟨?_⟩
  have i1 : (1 : Int) < 2 := by decide
  go_simp
  go_wp2_with fail
  go_ret
  exact ⟨rfl, HB4.out⟩
/-! the steps of an argument -/
instance : Inhabited SV := ⟨⟨0, [], ⟨#[]⟩, 0, []⟩⟩
theorem cells_cmdS : Tryd.prog.cellsOf 26 = 12 := by kernel_rfl
theorem cells_stepS : Tryd.prog.cellsOf 29 = 19 := by kernel_rfl
set_option maxRecDepth 100000 in
set_option maxHeartbeats 2000000 in
theorem steps_open {H : Type} {enc : TypeId × Value → H} {W : World} {a : Option Addr} {len cap : Nat} {d : DataW H} {p : List MemPlace}
    (h : DataW.Trod enc Tryd.prog W 0 (fun _ => true) true 22 (.slice a len cap) d p) : ∃ L : List SV, RowS W (.slice a len cap) L ∧ L.length = len ∧ ∀ v ∈ L, GoodS v := by
  obtain ⟨fuel, hf⟩ := h
  rcases Go.Deep.open_slice Tryd.underlying22 hf with ⟨hcs, _⟩ | ⟨x, l, c, m, n, D, Pl, hcs, _, hl, hm, hmm, hd, hcell⟩
  · simp [Value.cells] at hcs
    obtain ⟨rfl, rfl, rfl⟩ := hcs
    exact ⟨[], RowV.nil, rfl, fun v hv => by cases hv⟩
  · simp [Value.cells] at hcs
    obtain ⟨rfl, rfl, rfl⟩ := hcs
    have hlm : len ≤ m := by rw [hmm]; split <;> omega
    rw [cells_stepS] at hcell
    by_cases h0 : len = 0
    · subst h0
      exact ⟨[], ⟨_, _, rfl, Nat.zero_le _, fun h => absurd h (by decide)⟩, rfl, fun v hv => by cases hv⟩
    obtain ⟨b, off, spot⟩ := x
    have hspot : spot = none := by
      obtain ⟨cs', h1, _⟩ := hcell 0 (by omega)
      obtain ⟨_, hlen, hc⟩ := World.cells?_some h1
      have := hc 0 (by omega)
      have hs : cs'[0]? = some cs'[0] := List.getElem?_eq_getElem (by omega)
      rw [hs] at this
      simpa [Addr.add] using World.cell?_spot this
    subst hspot
    have hplain : ∀ k, (⟨b, off, none⟩ : Addr).add k = ⟨b, off + k, none⟩ := fun k => by unfold Addr.add; split <;> simp_all
    have hplain2 : ∀ k j, ((⟨b, off, none⟩ : Addr).add k).add j = ⟨b, off + k + j, none⟩ := fun k j => by rw [Go.Deep.add_add, hplain, Nat.add_assoc]
    have each : ∀ i, i < len → ∃ q : SV, GoodS q ∧ W.rangeAt b (off + i * 19) (sC q) := by
      intro i hi
      obtain ⟨cs', h1, h2⟩ := hcell i (by omega)
      obtain ⟨_, hlen, hc⟩ := World.cells?_some h1
      obtain ⟨xs, k, hk, _, _, hxl, hff⟩ := DataW.trod_struct Tryd.underlying29 h2
      match xs, hxl, cs', hlen with
      | [y0, y1, y2, y3, y4], _, [v0, v1, v2, v3, v4, v5, v6, v7, v8, v9, v10, v11, v12, v13, v14, v15, v16, v17, v18], _ =>
        have g0 := hff 0 _ rfl
        have g1 := hff 1 _ rfl
        have g2 := hff 2 _ rfl
        have g3 := hff 3 _ rfl
        have g4 := hff 4 _ rfl
        have q1 : Tryd.prog.cellsOf 3 = 1 := by kernel_rfl
        have q2 : Tryd.prog.cellsOf 9 = 1 := by kernel_rfl
        have q3 : Tryd.prog.cellsOf 27 = 4 := by kernel_rfl
        have q4 : Tryd.prog.cellsOf 24 = 1 := by kernel_rfl
        have q5 : Tryd.prog.cellsOf 4 = 1 := by kernel_rfl
        simp [q1, q2, q3, cells_cmdS] at g0 g1 g2 g3 g4
        obtain ⟨ys, k2, hk2, _, _, hyl, hgg⟩ := DataW.trod_struct Tryd.underlying26 g1
        match ys, hyl with
        | [u0, u1, u2, u3, u4, u5, u6, u7, u8, u9, u10, u11], _ =>
          have e0 := hgg 0 _ rfl
          have e1 := hgg 1 _ rfl
          have e2 := hgg 2 _ rfl
          have e3 := hgg 3 _ rfl
          have e4 := hgg 4 _ rfl
          have e5 := hgg 5 _ rfl
          have e6 := hgg 6 _ rfl
          have e7 := hgg 7 _ rfl
          have e8 := hgg 8 _ rfl
          have e9 := hgg 9 _ rfl
          have e10 := hgg 10 _ rfl
          have e11 := hgg 11 _ rfl
          simp [q1, q4, q5] at e0 e1 e2 e3 e4 e5 e6 e7 e8 e9 e10 e11
          obtain ⟨zk, ek, _, wk⟩ := DataW.trod_int Tryd.underlying3 g0
          obtain ⟨zn, en, _, wn⟩ := DataW.trod_int Tryd.underlying3 g3
          obtain ⟨_, _, _, _, _, _, k0, k1, k2, k3⟩ := trod_array4 Tryd.underlying27 q1 g4
          obtain ⟨za, ea, _, wa⟩ := DataW.trod_int Tryd.underlying3 k0
          obtain ⟨zb, eb, _, wb⟩ := DataW.trod_int Tryd.underlying3 k1
          obtain ⟨zc, ec, _, wc⟩ := DataW.trod_int Tryd.underlying3 k2
          obtain ⟨ze, ee, _, we⟩ := DataW.trod_int Tryd.underlying3 k3
          obtain ⟨t0, f0, _, w0⟩ := DataW.trod_int Tryd.underlying3 e0
          obtain ⟨t1, f1, _, w1⟩ := DataW.trod_int Tryd.underlying3 e1
          obtain ⟨t2, f2, _, w2⟩ := DataW.trod_int Tryd.underlying3 e2
          obtain ⟨t3, f3, _, w3⟩ := DataW.trod_int Tryd.underlying3 e3
          obtain ⟨t4, f4, _, w4⟩ := DataW.trod_int Tryd.underlying3 e4
          obtain ⟨t5, f5, _, w5⟩ := DataW.trod_int Tryd.underlying3 e5
          obtain ⟨t6, f6, _, w6⟩ := DataW.trod_int Tryd.underlying3 e6
          obtain ⟨t7, f7, _, w7⟩ := DataW.trod_int Tryd.underlying3 e7
          obtain ⟨t8, f8, _, w8⟩ := DataW.trod_int Tryd.underlying3 e8
          obtain ⟨t9, f9, _, w9⟩ := DataW.trod_int Tryd.underlying24 e9
          obtain ⟨t10, f10, _, w10⟩ := DataW.trod_int Tryd.underlying24 e10
          obtain ⟨t11, f11, _⟩ := DataW.trod_bool Tryd.underlying4 e11
          obtain ⟨sv, hsv⟩ : ∃ s : ByteArray, v13 = .string s := by
            obtain ⟨s, hs, _⟩ := DataW.trod_string Tryd.underlying9 g2
            exact ⟨s, by simpa using hs⟩
          simp at ek en ea eb ec ee f0 f1 f2 f3 f4 f5 f6 f7 f8 f9 f10 f11
          subst ek en ea eb ec ee f0 f1 f2 f3 f4 f5 f6 f7 f8 f9 f10 f11 hsv
          have wf : ∀ {z : Int}, Lit.wf (.int .i64 z) = true → i64S z := fun h => by simpa [Lit.wf, IntKind.min, IntKind.max, IntKind.signed, IntKind.bits, i64S] using h
          have i0 := wf w0; have i1 := wf w1; have i2 := wf w2; have i3 := wf w3; have i4 := wf w4; have i5 := wf w5; have i6 := wf w6; have i7 := wf w7; have i8 := wf w8; have i9 := wf w9; have i10 := wf w10
          have hS : sC ⟨zk, [t0, t1, t2, t3, t4, t5, t6, t7, t8, t9, t10, if t11 then 1 else 0], sv, zn, [za, zb, zc, ze]⟩ = [.int .i64 zk, .int .i64 t0, .int .i64 t1, .int .i64 t2, .int .i64 t3, .int .i64 t4, .int .i64 t5, .int .i64 t6, .int .i64 t7, .int .i64 t8, .int .i64 t9, .int .i64 t10, .bool t11, .string sv, .int .i64 zn, .int .i64 za, .int .i64 zb, .int .i64 zc, .int .i64 ze] := by cases t11 <;> rfl
          refine ⟨⟨zk, [t0, t1, t2, t3, t4, t5, t6, t7, t8, t9, t10, if t11 then 1 else 0], sv, zn, [za, zb, zc, ze]⟩, ⟨⟨rfl, ?_, ?_⟩, rfl, wf wk, wf wn, ?_⟩, ?_⟩
          · cases t11
            · exact .inl rfl
            · exact .inr rfl
          · intro x hx
            simp only [List.mem_cons, List.not_mem_nil, or_false] at hx
            rcases hx with rfl | rfl | rfl | rfl | rfl | rfl | rfl | rfl | rfl | rfl | rfl | rfl
            · exact i0
            · exact i1
            · exact i2
            · exact i3
            · exact i4
            · exact i5
            · exact i6
            · exact i7
            · exact i8
            · exact i9
            · exact i10
            · cases t11 <;> exact ⟨by decide, by decide⟩
          · intro y hy
            simp only [List.mem_cons, List.not_mem_nil, or_false] at hy
            rcases hy with rfl | rfl | rfl | rfl
            · exact wf wa
            · exact wf wb
            · exact wf wc
            · exact wf we
          · intro j u hj
            rw [hS] at hj
            have hjl : j < 19 := by
              rcases Nat.lt_or_ge j 19 with h | h
              · exact h
              · rw [List.getElem?_eq_none (by simpa using h)] at hj; cases hj
            rw [← hplain2]
            exact (hc j hjl).trans hj
    obtain ⟨A, hA⟩ := Go.Deep.choose_lt (α := SV) (p := fun i q => GoodS q ∧ W.rangeAt b (off + i * 19) (sC q)) each
    have hlen2 : ((List.range len).map A).length = len := by simp
    refine ⟨(List.range len).map A, ⟨some ⟨b, off, none⟩, cap, by simp, by simpa using hl, fun _ => ⟨b, off, rfl, ?_, fun k l hk => ?_⟩⟩, hlen2, fun v hv => ?_⟩
    · have h1 := (hA 0 (by omega)).2 0 _ (show (sC (A 0))[0]? = some (.int .i64 (A 0).k) from rfl)
      exact World.block_lt_of_cell? W _ h1
    · rw [List.getElem?_map, List.getElem?_map] at hk
      by_cases hkl : k < len
      · rw [List.getElem?_range hkl] at hk
        injection hk with hk
        subst hk
        exact (hA k hkl).2
      · rw [List.getElem?_eq_none (by simpa using hkl)] at hk
        cases hk
    · obtain ⟨i, hi, rfl⟩ := List.mem_map.1 hv
      exact (hA i (List.mem_range.1 hi)).1
end Go.Proofs.YtdfkfcpkejjlnaaDoor
namespace Go.Proofs.YtdfkfcpkejjlnaaDoor
set_option linter.unusedVariables false
open Go.ChangeShapes Go.WideShapes Go.ChangeAt Go.RowKit Cs Rv
attribute [local go_sem ↓] Go.wp_at_zero Go.wp_at_succ comesTo_value_eq comesTo_skip_eq comesTo_enter_eq

theorem txt_by {w : World} {v : Value} {bs : List Int} (h : TxtAt w v bs) : ∀ x ∈ bs, 0 ≤ x ∧ x ≤ 255 := fun x hx => by
  obtain ⟨k, hk, rfl⟩ := List.mem_iff_getElem.1 hx
  have := A8.bytes8 h k hk
  simpa [List.getD, hk] using this
/-- a row that is told: its slice, its elements -/
theorem RowV.at {n : Nat} {w : World} {v : Value} {M : List (List Value)} (h : RowV n w v M) (h0 : 0 < M.length) : ∃ b off c, v = .slice (some ⟨b, off, none⟩) M.length c ∧ b < w.heap.size ∧ M.length ≤ c ∧ ∀ k l, M[k]? = some l → w.rangeAt b (off + k * n) l := by
  obtain ⟨a, c, h1, h2, h3⟩ := h
  obtain ⟨b, off, rfl, hb, hr⟩ := h3 h0
  exact ⟨b, off, c, h1, hb, h2, hr⟩
theorem range_below {w w' : World} {b o : Nat} {l : List Value} (h : w.rangeAt b o l) (hb : Below w.heap.size w w') (hlt : b < w.heap.size) : w'.rangeAt b o l := fun j u hj => (hb.cell (p := ⟨b, o + j, none⟩) hlt).trans (h j u hj)
set_option maxRecDepth 100000 in
set_option maxHeartbeats 8000000 in
theorem sreads_walk (la : Option Addr) (ll lc : Nat) (bs : List Int) (w : World) (ht : TxtAt w (.slice la ll lc) bs) (hE : ErrAt w) : Calls Tryd.prog 4 #[.slice la ll lc] w fun e w' => e = .returned (.bool true) ∧ Below w.heap.size w w' := by
  have hmx : Tryd.prog.follows .mixedOrders = true := by kernel_rfl
  have hll : ll = bs.length := (TxtAt.form ht).1
  by_cases hbig : 4000 < ll
  · have d1 : decide ((ll : Int) > 4000) = true := decide_eq_true (by omega)
    have d2 : decide ((4000 : Int) < (ll : Int)) = true := decide_eq_true (by omega)
    have d3 : decide (4000 < ll) = true := decide_eq_true (by omega)
    clear ht hE hll hbig
    go_enter Tryd.func4, Tryd.ntmps4
    go_wp2_with fail
    go_ret
    exact ⟨rfl, Below.refl _ _⟩
  · have d1 : decide ((ll : Int) > 4000) = false := decide_eq_false (by omega)
    have d2 : decide ((4000 : Int) < (ll : Int)) = false := decide_eq_false (by omega)
    have d3 : decide (4000 < ll) = false := decide_eq_false (by omega)
    have hby := txt_by ht
    have KR := Lib.hid (sread_any ht hby (by omega) hE)
    have HE := Lib.hid (fun X (hX : Below w.heap.size w X) => hE.below hX)
    have HT := Lib.hid ht
    have HBY := Lib.hid hby
    have hml := readS_len hby
    have HMG := Lib.hid (readS_good hby)
    obtain ⟨M, code, hM⟩ : ∃ M c, readS bs = (M, c) := ⟨_, _, rfl⟩
    rw [hM] at hml HMG
    have HM := Lib.hid hM
    have HML := Lib.hid (show M.length ≤ 4000 from by dsimp only at hml; omega)
    clear ht hE hll hbig hby hM hml
    go_enter Tryd.func4, Tryd.ntmps4
    go_wp2_with fail
    refine KR.out.mono ?_
    rintro e w2 ⟨lv, rfl, ho, hb2⟩
    rw [HM.out] at ho ⊢
    have hlr : RowV 19 w2 lv (M.map sC) := OwnV.row (fun l hl => by obtain ⟨v, hv, rfl⟩ := List.mem_map.1 hl; exact sC_len (HMG.out v hv).1) ho
    have HLR := Lib.hid hlr
    have HB2 := Lib.hid hb2
    have HT2 := Lib.hid (HT.out.below hb2)
    have HCV := Lib.hid (txt_conv HT2.out)
    clear ho hb2 KR HT hlr d1 d2 d3
    have hcv := HCV.out w2 (Below.refl _ _)
    have KD := Lib.hid (dread_any (w := w2) HBY.out)
    go_wp2_with fail
    refine KD.out.mono ?_
    rintro e w3 ⟨dv, rfl, ho, hb3⟩
    rw [HM.out] at ho ⊢
    have hdr : RowV 18 w3 dv (M.map (fun s => dC (ownS s))) := OwnV.row (fun l hl => by obtain ⟨v, hv, rfl⟩ := List.mem_map.1 hl; exact dC_len (good_own (HMG.out v hv).1)) ho
    have HDR := Lib.hid hdr
    have HLR3 := Lib.hid (RowV.below HLR.out hb3)
    have HB3 := Lib.hid (below_next HB2.out hb3)
    clear ho hb3 KD hcv HCV HT2 HB2 HLR hdr
    have HONE := Lib.hid (fun X (hX : Below w.heap.size w X) => one28 (HE.out X hX))
    clear HE HM HBY
    by_cases hM0 : M = []
    · subst hM0
      obtain ⟨a1, c1, hl1, _, _⟩ := HLR3.out
      obtain ⟨a2, c2, hl2, _, _⟩ := HDR.out
      have hl1' : lv = .slice a1 0 c1 := hl1
      have hl2' : dv = .slice a2 0 c2 := hl2
      clear hl1 hl2 HLR3 HDR
      subst hl1' hl2'
      go_wp2_with fail
      go_loopw [7] (fun i wr => i = .int .i64 0 ∧ wr = w3) (fun _ _ => 0)
      case atStart => exact ⟨rfl, rfl⟩
      case round =>
        obtain ⟨rfl, rfl⟩ := hrel
        have K1 := Lib.hid (HONE.out wr HB3.out)
        go_wp2_with fail
        refine K1.out.mono ?_
        rintro e w5 ⟨rfl, hb5⟩
        have HB5 := Lib.hid (below_next HB3.out hb5)
        clear hb5 K1 HONE HB3
        go_wp2_with fail
        go_ret
        exact ⟨rfl, HB5.out⟩
    · have hpos : 0 < M.length := List.length_pos_iff.2 hM0
      obtain ⟨rb, ro, rc, hl1, hrlt, _, hrr⟩ := RowV.at HLR3.out (by simpa using hpos)
      obtain ⟨db, dof, dc, hl2, hdlt, _, hdr⟩ := RowV.at HDR.out (by simpa using hpos)
      rw [List.length_map] at hl1 hl2
      have HRR := Lib.hid hrr
      have HDD := Lib.hid hdr
      have HRL := Lib.hid hrlt
      have HDL := Lib.hid hdlt
      subst hl1 hl2
      obtain ⟨N, hN⟩ : ∃ N, N = M.length := ⟨_, rfl⟩
      have HNM := Lib.hid hN
      rw [← hN]
      clear hrr hdr hrlt hdlt HLR3 HDR hM0 hpos hN
      go_wp2_with fail
      go_loopw [7] (fun i wr => ∃ j : Nat, j ≤ N ∧ i = .int .i64 j ∧ Below w3.heap.size w3 wr) (fun i _ => N - (intOf i).toNat)
      case atStart => exact ⟨0, Nat.zero_le _, rfl, Below.refl _ _⟩
      case round =>
        obtain ⟨j, hj, rfl, hbw⟩ := hrel
        have HBW := Lib.hid hbw
        clear hbw
        by_cases hjn : j < N
        · have hd : decide ((j : Int) < (N : Int)) = true := decide_eq_true (by omega)
          have hjI : (j : Int) < (N : Int) := by omega
          have hw1 : IntKind.i64.wrap ((j : Int) + 1) = (j : Int) + 1 := by have := HNM.out; have := HML.out; rw [IntKind.wrap_i64]; omega
          have HJ := Lib.hid hjn
          obtain ⟨u, hu⟩ : ∃ u, M[j]? = some u := ⟨_, List.getElem?_eq_getElem (by have := HNM.out; omega)⟩
          have hgu := (HMG.out u (List.mem_of_getElem? hu)).1
          have HGU := Lib.hid hgu
          have HR0 := Lib.hid (HRR.out j (sC u) (by rw [List.getElem?_map, hu]; rfl))
          have HD0 := Lib.hid (HDD.out j (dC (ownS u)) (by rw [List.getElem?_map, hu]; rfl))
          have HLS := Lib.hid (sC_len hgu)
          have HLD := Lib.hid (dC_len (good_own hgu))
          have KO := Lib.hid (fun W => own28 hgu W)
          have KQ := Lib.hid (fun W => eqinD (good_own hgu) W)
          clear hu hgu hj hjn
          go_upto_region 10 with fail
          refine wp_region_held (S := fun X => Below w3.heap.size w3 X) hmx ?_
          change wpAnyH _ _ _ _ _ 10 _ _ wr.drew
          have hS : Below w3.heap.size w3 wr.drew := HBW.out.drew
          clear HBW
          generalize wr.drew = wd at *
          refine wpAnyH_take (i := 0) (v := .slice (some ⟨rb, ro, none⟩) N rc) rfl (by decide +kernel) (by decide +kernel) (by decide +kernel) (fun _ _ _ h => h) (.inl ⟨by first | rfl | (go_simp; done), fun X hX => by clear hX; first | (go_simp; done) | (go_simp; rfl)⟩) hS ?_
          refine wpAnyH_take (i := 1) (v := .int .i64 j) rfl (by decide +kernel) (by decide +kernel) (by decide +kernel) (fun _ _ _ h => h) (.inl ⟨by first | rfl | (go_simp; done), fun X hX => by clear hX; first | (go_simp; done) | (go_simp; rfl)⟩) hS ?_
          refine wpAnyH_take (i := 2) (v := .pointer (some ⟨rb, ro + j * 19, none⟩)) rfl (by decide +kernel) (by decide +kernel) (by decide +kernel) (fun _ _ _ h => h) (.inl ⟨by first | rfl | (go_simp; done), fun X hX => by clear hX; first | (go_simp; done) | (go_simp; rfl)⟩) hS ?_
          refine wpAnyH_take (i := 3) (v := .agg (sC u).toArray) rfl (by decide +kernel) (by decide +kernel) (by decide +kernel) (fun _ _ _ h => h) (.inl ⟨by first | rfl | (go_simp; done), fun X hX => by exact exec_load_elt 29 _ rfl rb (ro + j * 19) (by go_simp) (sC u) _ (range_below HR0.out hX HRL.out) Tryd.underlying29 rfl (by rw [HLS.out]; exact info_step)⟩) hS ?_
          refine wpAnyH_take (i := 5) (v := .slice (some ⟨db, dof, none⟩) N dc) rfl (by decide +kernel) (by decide +kernel) (by decide +kernel) (fun _ _ _ h => h) (.inl ⟨by first | rfl | (go_simp; done), fun X hX => by clear hX; first | (go_simp; done) | (go_simp; rfl)⟩) hS ?_
          refine wpAnyH_take (i := 6) (v := .int .i64 j) rfl (by decide +kernel) (by decide +kernel) (by decide +kernel) (fun _ _ _ h => h) (.inl ⟨by first | rfl | (go_simp; done), fun X hX => by clear hX; first | (go_simp; done) | (go_simp; rfl)⟩) hS ?_
          refine wpAnyH_take (i := 7) (v := .pointer (some ⟨db, dof + j * 18, none⟩)) rfl (by decide +kernel) (by decide +kernel) (by decide +kernel) (fun _ _ _ h => h) (.inl ⟨by first | rfl | (go_simp; done), fun X hX => by clear hX; first | (go_simp; done) | (go_simp; rfl)⟩) hS ?_
          refine wpAnyH_take (i := 8) (v := .agg (dC (ownS u)).toArray) rfl (by decide +kernel) (by decide +kernel) (by decide +kernel) (fun _ _ _ h => h) (.inl ⟨by first | rfl | (go_simp; done), fun X hX => by exact exec_load_elt 35 _ rfl db (dof + j * 18) (by go_simp) (dC (ownS u)) _ (range_below HD0.out hX HDL.out) Tryd.underlying35 rfl (by rw [HLD.out]; exact info_dstep)⟩) hS ?_
          refine anyH_call (i := 4) (by decide +kernel) rfl (by first | rfl | (go_simp; done)) (by go_simp) (KO.out wd) ?_
          rintro e w5 ⟨rfl, hb5⟩
          have hS5 : Below w3.heap.size w3 w5 := below_next hS hb5
          refine ⟨_, rfl, hS5, ?_⟩
          refine wpAnyH_take (i := 9) (v := .bool false) rfl (by decide +kernel) (by decide +kernel) (by decide +kernel) (fun _ _ _ h => h) (.inl ⟨by first | rfl | (go_simp; done), fun X hX => by exact exec_neq (b := true) 35 _ _ _ rfl (dC (ownS u)).toArray (dC (ownS u)).toArray (by go_simp) (by go_simp) guardD (KQ.out X)⟩) hS5 ?_
          have HS5 := Lib.hid hS5
          clear hS hS5 hb5 KO KQ
          refine wpAnyH_done (by decide +kernel) ?_ _
          go_simp
          go_wp2_with fail
          go_roundw
          case rel => exact ⟨j + 1, by have := HJ.out; omega, by first | rfl | (simp; done), HS5.out⟩
          case measure => have := HJ.out; simp [intOf]; omega
        · obtain rfl : j = N := by omega
          have hd : decide ((j : Int) < (j : Int)) = false := decide_eq_false (by omega)
          have hbb := below_next HB3.out HBW.out
          have K1 := Lib.hid (HONE.out wr hbb)
          have HBB := Lib.hid hbb
          clear hbb HONE HBW hj hjn
          go_wp2_with fail
          refine K1.out.mono ?_
          rintro e w5 ⟨rfl, hb5⟩
          have HB5 := Lib.hid (below_next HBB.out hb5)
          clear hb5 K1 HB3
          go_wp2_with fail
          go_ret
          exact ⟨rfl, HB5.out⟩
end Go.Proofs.YtdfkfcpkejjlnaaDoor
namespace Go.Proofs.YtdfkfcpkejjlnaaDoor
set_option linter.unusedVariables false
open Go.ChangeShapes Go.WideShapes Go.ChangeAt Go.RowKit Cs Rv
attribute [local go_sem ↓] Go.wp_at_zero Go.wp_at_succ comesTo_value_eq comesTo_skip_eq comesTo_enter_eq

theorem sliceS_to {ad : Option Addr} {n c s : Nat} (h : ∃ g o, ad = some ⟨g, o, none⟩) (hs : s ≤ c) (h0 : 0 < c) (W : World) : Sem.run Tryd.prog (Instr.slice 22 (.slice ad n c) none (some (.int .i64 (s : Int))) none) W = .ok (.slice ad s c) W := by
  obtain ⟨g, o, rfl⟩ := h
  have hne : ¬ c = 0 := by omega
  go_simp
theorem cleanD_own {v : SV} : cleanD (ownS v) = ownS (cleanS v) := own_clean v
theorem take_map {α β : Type} (f : α → β) {L : List α} {j : Nat} {v : α} (h : L[j]? = some v) : (L.take (j + 1)).map f = (L.take j).map f ++ [f v] := by
  have hj := (List.getElem?_eq_some_iff.1 h).1
  have hv := (List.getElem?_eq_some_iff.1 h).2
  rw [List.take_succ_eq_append_getElem hj, hv, List.map_append]
  rfl
set_option maxRecDepth 100000 in
set_option maxHeartbeats 8000000 in
theorem sputs_big (la : Option Addr) (N lc : Nat) (A : List SV) (w : World) (ht : RowS w (.slice la N lc) A ∧ A.length = N ∧ ∀ v ∈ A, GoodS v) (hE : ErrAt w) (hbig : 60 < N) : Calls Tryd.prog 3 #[.slice la N lc] w fun e w' => e = .returned (.bool true) ∧ Below w.heap.size w w' := by
  have hmx : Tryd.prog.follows .mixedOrders = true := by kernel_rfl
  obtain ⟨hrow, hlen, hgood⟩ := ht
  have HLA := Lib.hid (show 0 < N → ∃ b off, la = some ⟨b, off, none⟩ ∧ b < w.heap.size ∧ ∀ k v, A[k]? = some v → w.rangeAt b (off + k * 19) (sC v) from fun h0 => by
    obtain ⟨b, off, c, he, hb, _, hr⟩ := RowV.at hrow (by rw [List.length_map, hlen]; exact h0)
    exact ⟨b, off, (Value.slice.inj he).1, hb, fun k v hk => hr k (sC v) (by rw [List.getElem?_map, hk]; rfl)⟩)
  have hcap : N ≤ lc := by
    obtain ⟨a, c, he, hc, _⟩ := hrow
    have h1 := (Value.slice.inj he)
    rw [List.length_map, hlen] at hc
    omega
  have HE := Lib.hid (fun X (hX : Below w.heap.size w X) => hE.below hX)
  have HLN := Lib.hid hlen
  have HG := Lib.hid hgood
  obtain ⟨M, hM⟩ : ∃ M, M = 60 := ⟨_, rfl⟩
  have HM := Lib.hid (show M ≤ 60 ∧ M ≤ N ∧ M ≤ lc ∧ A.length = N from by omega)
  have d1 : decide ((N : Int) > 60) = true := decide_eq_true (by omega)
  have d2 : decide ((60 : Int) < (N : Int)) = true := decide_eq_true (by omega)
  have d3 : decide (60 < N) = true := decide_eq_true (by omega)
  have hsl : ∀ W, Sem.run Tryd.prog (Instr.slice 22 (.slice la N lc) none (some (.int .i64 60)) none) W = .ok (.slice la M lc) W := fun W => by
    obtain ⟨b, off, he, _⟩ := HLA.out (by omega)
    rw [hM]
    exact sliceS_to (s := 60) ⟨b, off, he⟩ (by omega) (by omega) W
  clear hM
  have HRS := Lib.hid (show ∀ X, Below w.heap.size w X → RowS X (.slice la M lc) (A.take M) from fun X hX => by
    have hl : ((A.take M).map sC).length = M := by rw [List.length_map, List.length_take]; have := HM.out; omega
    refine ⟨la, lc, by rw [hl], by rw [hl]; have := HM.out; omega, fun h0 => ?_⟩
    obtain ⟨b, off, he, hb, hr⟩ := HLA.out (by have := HM.out; omega)
    refine ⟨b, off, he, Nat.lt_of_lt_of_le hb hX.size, fun k l hk => ?_⟩
    rw [List.getElem?_map] at hk
    obtain ⟨v, hv, rfl⟩ := Option.map_eq_some_iff.1 hk
    have hv2 : A[k]? = some v := by
      rw [List.getElem?_take] at hv
      split at hv
      · exact hv
      · cases hv
    exact range_below (hr k v hv2) hX hb)
  have HGT := Lib.hid (show ∀ v ∈ A.take M, GoodS v from fun v hv => HG.out v (List.mem_of_mem_take hv))
  clear hrow hlen hgood hE hcap hbig
  go_enter Tryd.func3, Tryd.ntmps3
  go_wp2_with fail
  go_loopw [3, 4] (fun ov i wr => ∃ (j : Nat) (oa : Option Addr) (oc : Nat), j ≤ M ∧ ov = .slice oa j oc ∧ i = .int .i64 j ∧ OwnV 35 18 wr w.heap.size (.slice oa j oc) ((A.take j).map (fun s => dC (ownS s))) ∧ Below w.heap.size w wr) (fun _ i _ => M - (intOf i).toNat)
  case atStart => exact ⟨0, none, 0, Nat.zero_le _, rfl, rfl, OwnV.nil, Below.refl _ _⟩
  case round =>
    obtain ⟨j, oa, oc, hj, rfl, rfl, ho, hb⟩ := hrel
    have HO := Lib.hid ho
    have HB := Lib.hid hb
    clear ho hb
    by_cases hjn : j < M
    · have hd : decide ((j : Int) < (M : Int)) = true := decide_eq_true (by omega)
      have hjI : (j : Int) < (M : Int) := by omega
      have hw1 : IntKind.i64.wrap ((j : Int) + 1) = (j : Int) + 1 := by have := HM.out; rw [IntKind.wrap_i64]; omega
      have HJ := Lib.hid hjn
      obtain ⟨v, hv⟩ : ∃ v, A[j]? = some v := ⟨_, List.getElem?_eq_getElem (by have := HLN.out; have := HM.out; omega)⟩
      have hgv := HG.out v (List.mem_of_getElem? hv)
      have hgd := good_own hgv
      have HTM := Lib.hid (take_map (fun s => dC (ownS s)) hv)
      obtain ⟨rb, ro, hla, hrlt, hrr⟩ := HLA.out (by have := HM.out; omega)
      have HLE := Lib.hid hla
      have hr0 := hrr j v hv
      have HRX := Lib.hid (fun X (hX : Below w.heap.size w X) => range_below hr0 hX hrlt)
      have HLS := Lib.hid (sC_len hgv)
      have HP13 := Lib.hid (sC_parts hgv).2.1
      have HLD := Lib.hid (dC_len hgd)
      have KO := Lib.hid (fun W => own28 hgv W)
      have KR := Lib.hid (fun W => right_s hgv W)
      have kr2 := fun W => right_d hgd W
      rw [show rightK (ownS v).k (ownS v).x (ownS v).s = rightS v from rfl] at kr2
      have KR2 := Lib.hid kr2
      have KC := Lib.hid (fun W => clean_s hgv W)
      have KC2 := Lib.hid (fun W => clean_d hgd W)
      have KO2 := Lib.hid (fun W => own28 (good_clean hgv) W)
      have KQ := Lib.hid (fun W => eqinD (good_own (good_clean hgv)) W)
      have HGD := Lib.hid hgd
      rw [cleanD_own] at KC2
      have hjA : j ≤ A.length := by have := HLN.out; have := HM.out; omega
      have HJA := Lib.hid hjA
      clear hv hgv hgd hla hrlt hrr hr0 kr2 hj hjn hjA
      have c13 : wr.cell? ⟨rb, ro + j * 19 + 13, none⟩ = some (.string v.s) := HRX.out _ HB.out 13 _ HP13.out
      go_upto_region 7 with fail
      refine wp_region_lit (WL.out ?_)
      refine WL.yield (w' := wr) (v := .slice la M lc) rfl (by first | (go_simp; done) | (go_simp; rfl)) ?_
      try go_simp
      refine WL.yield (w' := wr) (v := .int .i64 j) rfl (by first | (go_simp; done) | (go_simp; rfl)) ?_
      try go_simp
      refine WL.yield (w' := wr) (v := .pointer (some ⟨rb, ro + j * 19, none⟩)) rfl (by rw [HLE.out]; first | (go_simp; done) | (go_simp; rfl)) ?_
      try go_simp
      refine WL.yield (w' := wr) (v := .pointer (some ⟨rb, ro + j * 19 + 13, none⟩)) rfl (by first | (go_simp; done) | (go_simp; rfl)) ?_
      try go_simp
      refine WL.yield (w' := wr) (v := .string v.s) rfl (by first | (go_simp; done) | (go_simp; rfl)) ?_
      try go_simp
      refine WL.yield (w' := wr) (v := .int .i64 v.s.size) rfl (by first | (go_simp; done) | (go_simp; rfl)) ?_
      try go_simp
      clear c13
      obtain ⟨bs, hbs⟩ : ∃ b, b = decide (1000 < v.s.size) := ⟨_, rfl⟩
      have eb1 : decide (1000 < v.s.size) = bs := hbs.symm
      have eb2 : decide ((1000 : Int) < (v.s.size : Int)) = bs := by rw [hbs]; exact decide_eq_decide.2 (by omega)
      clear hbs
      refine WL.yield (w' := wr) (v := .bool bs) rfl (by first | (go_simp; done) | (go_simp; rfl)) ?_
      refine WL.nil ?_
      clear eb1 eb2
      go_simp
      cases bs with
      | true =>
        go_wp2_with fail
        go_ret
        exact ⟨rfl, HB.out⟩
      | false =>
        go_upto_region 9 with fail
        refine wp_region_lit (WL.out ?_)
        refine WL.yield (w' := wr) (v := .slice oa j oc) rfl (by first | (go_simp; done) | (go_simp; rfl)) ?_
        try go_simp
        refine WL.yield (w' := wr) (v := .slice la M lc) rfl (by first | (go_simp; done) | (go_simp; rfl)) ?_
        try go_simp
        refine WL.yield (w' := wr) (v := .int .i64 j) rfl (by first | (go_simp; done) | (go_simp; rfl)) ?_
        try go_simp
        refine WL.yield (w' := wr) (v := .pointer (some ⟨rb, ro + j * 19, none⟩)) rfl (by rw [HLE.out]; first | (go_simp; done) | (go_simp; rfl)) ?_
        try go_simp
        refine WL.yield (w' := wr) (v := .agg (sC v).toArray) rfl (exec_load_elt 29 _ rfl rb (ro + j * 19) (by go_simp) (sC v) _ (HRX.out _ HB.out) Tryd.underlying29 rfl (by rw [HLS.out]; exact info_step)) ?_
        try go_simp
        have hone2 := dC_one HGD.out
        obtain ⟨k9, x0, x1, x2, x3, x4, x5, x6, x7, x8, x9, x10, x11, s9, qa, qb, qc, qd, hU9⟩ := goodD_open HGD.out
        have hU10 : dC (ownS v) = ([.int .i64 k9, .int .i64 x0, .int .i64 x1, .int .i64 x2, .int .i64 x3, .int .i64 x4, .int .i64 x5, .int .i64 x6, .int .i64 x7, .int .i64 x8, .int .i64 x9, .int .i64 x10, .int .i64 x11, .string s9, .int .i64 qa, .int .i64 qb, .int .i64 qc, .int .i64 qd] : List Value) := by rw [hU9]; rfl
        have ko := KO.out
        rw [hU10] at hone2 ko
        have HU10 := Lib.hid hU10
        have KO9 := Lib.hid (show ∀ W, Calls Tryd.prog 6 #[.agg (sC v).toArray] W fun e w' => e = .returned (.agg #[.int .i64 k9, .int .i64 x0, .int .i64 x1, .int .i64 x2, .int .i64 x3, .int .i64 x4, .int .i64 x5, .int .i64 x6, .int .i64 x7, .int .i64 x8, .int .i64 x9, .int .i64 x10, .int .i64 x11, .string s9, .int .i64 qa, .int .i64 qb, .int .i64 qc, .int .i64 qd]) ∧ Below W.heap.size W w' from ko)
        clear hU9 hU10 ko KO
        refine WL.enter rfl (by go_simp) (KO9.out wr) ?_
        rintro e w3 ⟨rfl, hb3⟩
        refine ⟨_, rfl, ?_⟩
        have HB3 := Lib.hid (below_next HB.out hb3)
        have HO3 := Lib.hid (HO.out.below hb3)
        clear hb3 HB HO KO9
        try go_simp
        have hal := below_alloc (Below.refl _ w3) (.cells #[.int .i64 k9, .int .i64 x0, .int .i64 x1, .int .i64 x2, .int .i64 x3, .int .i64 x4, .int .i64 x5, .int .i64 x6, .int .i64 x7, .int .i64 x8, .int .i64 x9, .int .i64 x10, .int .i64 x11, .string s9, .int .i64 qa, .int .i64 qb, .int .i64 qc, .int .i64 qd] 35)
        obtain ⟨v', W9, hrun, hown, hgr, hnew, hbel⟩ := app_one eltDS 23 (HO3.out.below hal) ([.int .i64 k9, .int .i64 x0, .int .i64 x1, .int .i64 x2, .int .i64 x3, .int .i64 x4, .int .i64 x5, .int .i64 x6, .int .i64 x7, .int .i64 x8, .int .i64 x9, .int .i64 x10, .int .i64 x11, .string s9, .int .i64 qa, .int .i64 qb, .int .i64 qc, .int .i64 qd] : List Value) rfl (by simpa using hone2) (by rw [List.length_map, List.length_take]; have := HJ.out; have := HM.out; omega) (by decide) (Nat.le_trans HB3.out.size hal.size) (World.alloc_heap_new _ _)
        have hown2 : OwnV 35 18 W9 w.heap.size v' ((A.take (j + 1)).map (fun s => dC (ownS s))) := by rw [HTM.out, HU10.out]; exact hown
        obtain ⟨a9, c9, hv9⟩ := hown2.form
        have hl9 : ((A.take (j + 1)).map (fun s => dC (ownS s))).length = j + 1 := by rw [List.length_map, List.length_take]; have := HJ.out; have := HLN.out; have := HM.out; omega
        rw [hl9] at hv9
        obtain ⟨J1, hJ1⟩ : ∃ n, n = j + 1 := ⟨_, rfl⟩
        rw [← hJ1] at hv9
        subst hv9
        have hrow9 : RowV 18 W9 (.slice a9 J1 c9) ((A.take (j + 1)).map (fun s => dC (ownS s))) := OwnV.row (fun l hl => by obtain ⟨x, hx, rfl⟩ := List.mem_map.1 hl; exact dC_len (good_own (HG.out x (List.mem_of_mem_take hx)))) hown2
        obtain ⟨b9, o9, c9', he9, hlt9, _, hr9⟩ := RowV.at hrow9 (by rw [hl9]; exact Nat.succ_pos _)
        have HE9 := Lib.hid (Value.slice.inj he9).1
        have hq9 := hr9 j (dC (ownS v)) (by rw [HTM.out, List.getElem?_append_right (by rw [List.length_map, List.length_take]; omega)]; rw [List.length_map, List.length_take, show j - min j A.length = 0 by have := HJA.out; omega]; rfl)
        have HQ9 := Lib.hid (fun X (hX : Below W9.heap.size W9 X) => range_below hq9 hX hlt9)
        have HO9 := Lib.hid hown2
        have HJ1 := Lib.hid hJ1
        have hJI : (j : Int) < (J1 : Int) := by omega
        have HB9 := Lib.hid (show Below w.heap.size w W9 from HB3.out.trans ((hal.mono HB3.out.size).trans hbel))
        clear hal hgr hnew hbel hown hown2 hone2 hl9 hrow9 hlt9 hr9 hq9 he9 hJ1
        refine WL.yield (w' := w3.alloc (.cells #[.int .i64 k9, .int .i64 x0, .int .i64 x1, .int .i64 x2, .int .i64 x3, .int .i64 x4, .int .i64 x5, .int .i64 x6, .int .i64 x7, .int .i64 x8, .int .i64 x9, .int .i64 x10, .int .i64 x11, .string s9, .int .i64 qa, .int .i64 qb, .int .i64 qc, .int .i64 qd] 35)) (v := .slice (some ⟨w3.heap.size, 0, none⟩) 1 1) rfl (by first | (go_simp; done) | (go_simp; rfl)) ?_
        try go_simp
        refine WL.yield (w' := W9) (v := .slice a9 J1 c9) rfl (Ap.exec_app rfl (by first | rfl | go_simp) (by first | rfl | go_simp) hrun) ?_
        try go_simp
        clear HB3 HO3 hrun HU10
        refine WL.yield (w' := W9) (v := .slice a9 J1 c9) rfl (by go_simp) ?_
        refine WL.nil ?_
        go_simp
        go_upto_region 10 with fail
        refine wp_region_held (S := fun X => Below W9.heap.size W9 X) hmx ?_
        change wpAnyH _ _ _ _ _ 25 _ _ W9.drew
        have hS : Below W9.heap.size W9 W9.drew := (Below.refl _ _).drew
        generalize W9.drew = wd at *
        refine wpAnyH_take (i := 0) (v := .slice la M lc) rfl (by decide +kernel) (by decide +kernel) (by decide +kernel) (fun _ _ _ h => h) (.inl ⟨by first | rfl | (go_simp; done), fun X hX => by clear hX; first | (go_simp; done) | (go_simp; rfl)⟩) hS ?_; (try go_simp)
        refine wpAnyH_take (i := 1) (v := .int .i64 j) rfl (by decide +kernel) (by decide +kernel) (by decide +kernel) (fun _ _ _ h => h) (.inl ⟨by first | rfl | (go_simp; done), fun X hX => by clear hX; first | (go_simp; done) | (go_simp; rfl)⟩) hS ?_; (try go_simp)
        refine wpAnyH_take (i := 2) (v := .pointer (some ⟨rb, ro + j * 19, none⟩)) rfl (by decide +kernel) (by decide +kernel) (by decide +kernel) (fun _ _ _ h => h) (.inl ⟨by first | rfl | (go_simp; done), fun X hX => by clear hX; rw [HLE.out]; first | (go_simp; done) | (go_simp; rfl)⟩) hS ?_; (try go_simp)
        refine wpAnyH_take (i := 3) (v := .agg (sC v).toArray) rfl (by decide +kernel) (by decide +kernel) (by decide +kernel) (fun _ _ _ h => h) (.inl ⟨by first | rfl | (go_simp; done), fun X hX => by exact exec_load_elt 29 _ rfl rb (ro + j * 19) (by go_simp) (sC v) _ (HRX.out _ (below_next HB9.out hX)) Tryd.underlying29 rfl (by rw [HLS.out]; exact info_step)⟩) hS ?_; (try go_simp)
        refine wpAnyH_take (i := 5) (v := .slice a9 J1 c9) rfl (by decide +kernel) (by decide +kernel) (by decide +kernel) (fun _ _ _ h => h) (.inl ⟨by first | rfl | (go_simp; done), fun X hX => by clear hX; first | (go_simp; done) | (go_simp; rfl)⟩) hS ?_; (try go_simp)
        refine wpAnyH_take (i := 6) (v := .int .i64 j) rfl (by decide +kernel) (by decide +kernel) (by decide +kernel) (fun _ _ _ h => h) (.inl ⟨by first | rfl | (go_simp; done), fun X hX => by clear hX; first | (go_simp; done) | (go_simp; rfl)⟩) hS ?_; (try go_simp)
        refine wpAnyH_take (i := 7) (v := .pointer (some ⟨b9, o9 + j * 18, none⟩)) rfl (by decide +kernel) (by decide +kernel) (by decide +kernel) (fun _ _ _ h => h) (.inl ⟨by first | rfl | (go_simp; done), fun X hX => by clear hX; rw [HE9.out]; first | (go_simp; done) | (go_simp; rfl)⟩) hS ?_; (try go_simp)
        refine wpAnyH_take (i := 8) (v := .agg (dC (ownS v)).toArray) rfl (by decide +kernel) (by decide +kernel) (by decide +kernel) (fun _ _ _ h => h) (.inl ⟨by first | rfl | (go_simp; done), fun X hX => by exact exec_load_elt 35 _ rfl b9 (o9 + j * 18) (by go_simp) (dC (ownS v)) _ (HQ9.out X hX) Tryd.underlying35 rfl (by rw [HLD.out]; exact info_dstep)⟩) hS ?_; (try go_simp)
        obtain ⟨r, hr⟩ : ∃ r, r = rightS v := ⟨_, rfl⟩
        rw [← hr] at KR KR2
        clear hr
        refine anyH_call (i := 4) (by decide +kernel) rfl (by first | rfl | (go_simp; done)) (by go_simp) (KR.out wd) ?_
        rintro e w4 ⟨rfl, hb4⟩
        have hS4 := below_next hS hb4
        refine ⟨_, rfl, hS4, ?_⟩
        clear hS hb4 KR
        try go_simp
        refine anyH_call (i := 9) (by decide +kernel) rfl (by first | rfl | (go_simp; done)) (by go_simp) (KR2.out w4) ?_
        rintro e w5 ⟨rfl, hb5⟩
        have hS5 := below_next hS4 hb5
        refine ⟨_, rfl, hS5, ?_⟩
        clear hS4 hb5 KR2
        try go_simp
        refine wpAnyH_take (i := 10) (v := .bool false) rfl (by decide +kernel) (by decide +kernel) (by decide +kernel) (fun _ _ _ h => h) (.inl ⟨by first | rfl | (go_simp; done), fun X hX => by clear hX; first | (go_simp; done) | (go_simp; rfl)⟩) hS5 ?_; (try go_simp)
        refine wpAnyH_take (i := 11) (v := .bool false) rfl (by decide +kernel) (by decide +kernel) (by decide +kernel) (fun _ _ _ h => h) (.inl ⟨by first | rfl | (go_simp; done), fun X hX => by clear hX; first | (go_simp; done) | (go_simp; rfl)⟩) hS5 ?_; (try go_simp)
        refine wpAnyH_take (i := 12) (v := .slice la M lc) rfl (by decide +kernel) (by decide +kernel) (by decide +kernel) (fun _ _ _ h => h) (.inl ⟨by first | rfl | (go_simp; done), fun X hX => by clear hX; first | (go_simp; done) | (go_simp; rfl)⟩) hS5 ?_; (try go_simp)
        refine wpAnyH_take (i := 13) (v := .int .i64 j) rfl (by decide +kernel) (by decide +kernel) (by decide +kernel) (fun _ _ _ h => h) (.inl ⟨by first | rfl | (go_simp; done), fun X hX => by clear hX; first | (go_simp; done) | (go_simp; rfl)⟩) hS5 ?_; (try go_simp)
        refine wpAnyH_take (i := 14) (v := .pointer (some ⟨rb, ro + j * 19, none⟩)) rfl (by decide +kernel) (by decide +kernel) (by decide +kernel) (fun _ _ _ h => h) (.inl ⟨by first | rfl | (go_simp; done), fun X hX => by clear hX; rw [HLE.out]; first | (go_simp; done) | (go_simp; rfl)⟩) hS5 ?_; (try go_simp)
        refine wpAnyH_take (i := 15) (v := .agg (sC v).toArray) rfl (by decide +kernel) (by decide +kernel) (by decide +kernel) (fun _ _ _ h => h) (.inl ⟨by first | rfl | (go_simp; done), fun X hX => by exact exec_load_elt 29 _ rfl rb (ro + j * 19) (by go_simp) (sC v) _ (HRX.out _ (below_next HB9.out hX)) Tryd.underlying29 rfl (by rw [HLS.out]; exact info_step)⟩) hS5 ?_; (try go_simp)
        refine wpAnyH_take (i := 18) (v := .slice a9 J1 c9) rfl (by decide +kernel) (by decide +kernel) (by decide +kernel) (fun _ _ _ h => h) (.inl ⟨by first | rfl | (go_simp; done), fun X hX => by clear hX; first | (go_simp; done) | (go_simp; rfl)⟩) hS5 ?_; (try go_simp)
        refine wpAnyH_take (i := 19) (v := .int .i64 j) rfl (by decide +kernel) (by decide +kernel) (by decide +kernel) (fun _ _ _ h => h) (.inl ⟨by first | rfl | (go_simp; done), fun X hX => by clear hX; first | (go_simp; done) | (go_simp; rfl)⟩) hS5 ?_; (try go_simp)
        refine wpAnyH_take (i := 20) (v := .pointer (some ⟨b9, o9 + j * 18, none⟩)) rfl (by decide +kernel) (by decide +kernel) (by decide +kernel) (fun _ _ _ h => h) (.inl ⟨by first | rfl | (go_simp; done), fun X hX => by clear hX; rw [HE9.out]; first | (go_simp; done) | (go_simp; rfl)⟩) hS5 ?_; (try go_simp)
        refine wpAnyH_take (i := 21) (v := .agg (dC (ownS v)).toArray) rfl (by decide +kernel) (by decide +kernel) (by decide +kernel) (fun _ _ _ h => h) (.inl ⟨by first | rfl | (go_simp; done), fun X hX => by exact exec_load_elt 35 _ rfl b9 (o9 + j * 18) (by go_simp) (dC (ownS v)) _ (HQ9.out X hX) Tryd.underlying35 rfl (by rw [HLD.out]; exact info_dstep)⟩) hS5 ?_; (try go_simp)
        refine anyH_call (i := 16) (by decide +kernel) rfl (by first | rfl | (go_simp; done)) (by go_simp) (KC.out w5) ?_
        rintro e w6 ⟨rfl, hb6⟩
        have hS6 := below_next hS5 hb6
        refine ⟨_, rfl, hS6, ?_⟩
        clear hS5 hb6 KC
        try go_simp
        refine anyH_call (i := 17) (by decide +kernel) rfl (by first | rfl | (go_simp; done)) (by go_simp) (KO2.out w6) ?_
        rintro e w7 ⟨rfl, hb7⟩
        have hS7 := below_next hS6 hb7
        refine ⟨_, rfl, hS7, ?_⟩
        clear hS6 hb7 KO2
        try go_simp
        refine anyH_call (i := 22) (by decide +kernel) rfl (by first | rfl | (go_simp; done)) (by go_simp) (KC2.out w7) ?_
        rintro e w8 ⟨rfl, hb8⟩
        have hS8 := below_next hS7 hb8
        refine ⟨_, rfl, hS8, ?_⟩
        clear hS7 hb8 KC2
        try go_simp
        refine wpAnyH_take (i := 23) (v := .bool false) rfl (by decide +kernel) (by decide +kernel) (by decide +kernel) (fun _ _ _ h => h) (.inl ⟨by first | rfl | (go_simp; done), fun X hX => by exact exec_neq (b := true) 35 _ _ _ rfl (dC (ownS (cleanS v))).toArray (dC (ownS (cleanS v))).toArray (by go_simp) (by go_simp) guardD (KQ.out X)⟩) hS8 ?_; (try go_simp)
        refine wpAnyH_take (i := 24) (v := .bool false) rfl (by decide +kernel) (by decide +kernel) (by decide +kernel) (fun _ _ _ h => h) (.inl ⟨by first | rfl | (go_simp; done), fun X hX => by clear hX; first | (go_simp; done) | (go_simp; rfl)⟩) hS8 ?_; (try go_simp)
        have HO8 := Lib.hid (HO9.out.below hS8)
        have HB8 := Lib.hid (below_next HB9.out hS8)
        clear hS8 KQ HO9 HB9
        refine wpAnyH_done (by decide +kernel) ?_ _
        go_simp
        go_wp2_with fail
        go_roundw
        case rel => exact ⟨j + 1, a9, c9, HJ.out, by rw [HJ1.out], by first | rfl | (simp; done), by rw [← HJ1.out] at *; exact (HJ1.out ▸ HO8.out), HB8.out⟩
        case measure => have := HJ.out; simp [intOf]; omega
    · obtain rfl : j = M := by omega
      have hd : decide ((j : Int) < (j : Int)) = false := decide_eq_false (by omega)
      have HJM := Lib.hid hj
      go_upto_region 12 with fail
      refine wp_region_held (S := fun X => Below w.heap.size w X) hmx ?_
      change wpAnyH _ _ _ _ _ 10 _ _ wr.drew
      have hdr : Below wr.heap.size wr wr.drew := (Below.refl _ _).drew
      have hS : Below w.heap.size w wr.drew := below_next HB.out hdr
      have HOD := Lib.hid (HO.out.below hdr)
      clear hdr HB HO
      generalize wr.drew = wd at *
      refine wpAnyH_take (i := 0) (v := .slice la j lc) rfl (by decide +kernel) (by decide +kernel) (by decide +kernel) (fun _ _ _ h => h) (.inl ⟨by first | rfl | (go_simp; done), fun X hX => by clear hX; first | (go_simp; done) | (go_simp; rfl)⟩) hS ?_; (try go_simp)
      refine wpAnyH_take (i := 3) (v := .slice oa j oc) rfl (by decide +kernel) (by decide +kernel) (by decide +kernel) (fun _ _ _ h => h) (.inl ⟨by first | rfl | (go_simp; done), fun X hX => by clear hX; first | (go_simp; done) | (go_simp; rfl)⟩) hS ?_; (try go_simp)
      have KP := Lib.hid (put_s (w := wd) (HRS.out wd hS) HGT.out (by rw [List.length_take]; have := HM.out; omega))
      refine anyH_call (i := 1) (by decide +kernel) rfl (by first | rfl | (go_simp; done)) (by go_simp) KP.out ?_
      rintro e w4 ⟨u, rfl, hu, hb4⟩
      have hS4 := below_next hS hb4
      refine ⟨_, rfl, hS4, ?_⟩
      try go_simp
      have HUT := Lib.hid hu.at
      have hod : RowD w4 (.slice oa j oc) (A.take j) := RowV.below (OwnV.row (fun l hl => by obtain ⟨x, hx, rfl⟩ := List.mem_map.1 hl; exact dC_len (good_own (HG.out x (List.mem_of_mem_take hx)))) HOD.out) hb4
      have KD := Lib.hid (rput_s (w := w4) hod HGT.out (by rw [List.length_take]; have := HM.out; omega))
      have HCV := Lib.hid (txt_conv HUT.out)
      obtain ⟨sv, hsv⟩ : ∃ s, s = strOfNums (putS (A.take j)) := ⟨_, rfl⟩
      rw [← hsv] at KD HCV
      have HONE := Lib.hid (fun X (hX : Below w.heap.size w X) => one28 (HE.out X hX))
      clear hS hb4 hu KP HOD hod hsv HRS HGT HLA
      refine anyH_two (i := 2) (j := 4) (by decide +kernel) ?_ ?_
      · have hcv := HCV.out w4 (Below.refl _ _)
        refine opH_val (i := 2) (v := .string sv) (w' := w4) rfl (by first | rfl | (go_simp; done)) (by first | (go_simp; done) | (go_simp; rfl)) ⟨hS4, ?_⟩
        clear hcv
        try go_simp
        refine anyH_call (i := 4) (by decide +kernel) rfl (by first | rfl | (go_simp; done)) (by go_simp) KD.out ?_
        rintro e w5 ⟨rfl, hb5⟩
        have hS5 := below_next hS4 hb5
        refine ⟨_, rfl, hS5, ?_⟩
        clear hS4 hb5 KD HCV
        try go_simp
        refine wpAnyH_take (i := 5) (v := .bool true) rfl (by decide +kernel) (by decide +kernel) (by decide +kernel) (fun _ _ _ h => h) (.inl ⟨by first | rfl | (go_simp; done), fun X hX => by clear hX; first | (go_simp; done) | (go_simp; rfl)⟩) hS5 ?_; (try go_simp)
        refine wpAnyH_take (i := 6) (v := .bool true) rfl (by decide +kernel) (by decide +kernel) (by decide +kernel) (fun _ _ _ h => h) (.inl ⟨by first | rfl | (go_simp; done), fun X hX => by clear hX; first | (go_simp; done) | (go_simp; rfl)⟩) hS5 ?_; (try go_simp)
        have K1 := Lib.hid (HONE.out w5 hS5)
        refine anyH_call (i := 7) (by decide +kernel) rfl (by first | rfl | (go_simp; done)) (by go_simp) K1.out ?_
        rintro e w6 ⟨rfl, hb6⟩
        have hS6 := below_next hS5 hb6
        refine ⟨_, rfl, hS6, ?_⟩
        clear hS5 hb6 K1
        try go_simp
        refine wpAnyH_take (i := 8) (v := .bool true) rfl (by decide +kernel) (by decide +kernel) (by decide +kernel) (fun _ _ _ h => h) (.inl ⟨by first | rfl | (go_simp; done), fun X hX => by clear hX; first | (go_simp; done) | (go_simp; rfl)⟩) hS6 ?_; (try go_simp)
        refine wpAnyH_take (i := 9) (v := .bool true) rfl (by decide +kernel) (by decide +kernel) (by decide +kernel) (fun _ _ _ h => h) (.inl ⟨by first | rfl | (go_simp; done), fun X hX => by clear hX; first | (go_simp; done) | (go_simp; rfl)⟩) hS6 ?_; (try go_simp)
        have HB6 := Lib.hid hS6
        clear hS6
        refine wpAnyH_done (by decide +kernel) ?_ _
        go_simp
        go_wp2_with fail
        go_ret
        exact ⟨rfl, HB6.out⟩
      · refine opH_call (i := 4) rfl (by first | rfl | (go_simp; done)) (by go_simp) KD.out ?_
        rintro e w5 ⟨rfl, hb5⟩
        have hS5 := below_next hS4 hb5
        refine ⟨_, rfl, hS5, ?_⟩
        try go_simp
        have hcv := HCV.out w5 hb5
        refine anyH_one (i := 2) (by decide +kernel) ?_
        refine opH_val (i := 2) (v := .string sv) (w' := w5) rfl (by first | rfl | (go_simp; done)) (by first | (go_simp; done) | (go_simp; rfl)) ⟨hS5, ?_⟩
        clear hcv hS4 hb5 KD HCV
        try go_simp
        refine wpAnyH_take (i := 5) (v := .bool true) rfl (by decide +kernel) (by decide +kernel) (by decide +kernel) (fun _ _ _ h => h) (.inl ⟨by first | rfl | (go_simp; done), fun X hX => by clear hX; first | (go_simp; done) | (go_simp; rfl)⟩) hS5 ?_; (try go_simp)
        refine wpAnyH_take (i := 6) (v := .bool true) rfl (by decide +kernel) (by decide +kernel) (by decide +kernel) (fun _ _ _ h => h) (.inl ⟨by first | rfl | (go_simp; done), fun X hX => by clear hX; first | (go_simp; done) | (go_simp; rfl)⟩) hS5 ?_; (try go_simp)
        have K1 := Lib.hid (HONE.out w5 hS5)
        refine anyH_call (i := 7) (by decide +kernel) rfl (by first | rfl | (go_simp; done)) (by go_simp) K1.out ?_
        rintro e w6 ⟨rfl, hb6⟩
        have hS6 := below_next hS5 hb6
        refine ⟨_, rfl, hS6, ?_⟩
        clear hS5 hb6 K1
        try go_simp
        refine wpAnyH_take (i := 8) (v := .bool true) rfl (by decide +kernel) (by decide +kernel) (by decide +kernel) (fun _ _ _ h => h) (.inl ⟨by first | rfl | (go_simp; done), fun X hX => by clear hX; first | (go_simp; done) | (go_simp; rfl)⟩) hS6 ?_; (try go_simp)
        refine wpAnyH_take (i := 9) (v := .bool true) rfl (by decide +kernel) (by decide +kernel) (by decide +kernel) (fun _ _ _ h => h) (.inl ⟨by first | rfl | (go_simp; done), fun X hX => by clear hX; first | (go_simp; done) | (go_simp; rfl)⟩) hS6 ?_; (try go_simp)
        have HB6 := Lib.hid hS6
        clear hS6
        refine wpAnyH_done (by decide +kernel) ?_ _
        go_simp
        go_wp2_with fail
        go_ret
        exact ⟨rfl, HB6.out⟩
set_option maxRecDepth 100000 in
set_option maxHeartbeats 8000000 in
theorem sputs_small (la : Option Addr) (N lc : Nat) (A : List SV) (w : World) (ht : RowS w (.slice la N lc) A ∧ A.length = N ∧ ∀ v ∈ A, GoodS v) (hE : ErrAt w) (hbig : N ≤ 60) : Calls Tryd.prog 3 #[.slice la N lc] w fun e w' => e = .returned (.bool true) ∧ Below w.heap.size w w' := by
  have hmx : Tryd.prog.follows .mixedOrders = true := by kernel_rfl
  obtain ⟨hrow, hlen, hgood⟩ := ht
  have HLA := Lib.hid (show 0 < N → ∃ b off, la = some ⟨b, off, none⟩ ∧ b < w.heap.size ∧ ∀ k v, A[k]? = some v → w.rangeAt b (off + k * 19) (sC v) from fun h0 => by
    obtain ⟨b, off, c, he, hb, _, hr⟩ := RowV.at hrow (by rw [List.length_map, hlen]; exact h0)
    exact ⟨b, off, (Value.slice.inj he).1, hb, fun k v hk => hr k (sC v) (by rw [List.getElem?_map, hk]; rfl)⟩)
  have hcap : N ≤ lc := by
    obtain ⟨a, c, he, hc, _⟩ := hrow
    have h1 := (Value.slice.inj he)
    rw [List.length_map, hlen] at hc
    omega
  have HE := Lib.hid (fun X (hX : Below w.heap.size w X) => hE.below hX)
  have HLN := Lib.hid hlen
  have HG := Lib.hid hgood
  obtain ⟨M, hM⟩ : ∃ M, M = N := ⟨_, rfl⟩
  have HM := Lib.hid (show M ≤ 60 ∧ M ≤ N ∧ M ≤ lc ∧ A.length = N from by omega)
  have d1 : decide ((M : Int) > 60) = false := decide_eq_false (by omega)
  have d2 : decide ((60 : Int) < (M : Int)) = false := decide_eq_false (by omega)
  have d3 : decide (60 < M) = false := decide_eq_false (by omega)
  rw [← hM]
  clear hM
  have HRS := Lib.hid (show ∀ X, Below w.heap.size w X → RowS X (.slice la M lc) (A.take M) from fun X hX => by
    have hl : ((A.take M).map sC).length = M := by rw [List.length_map, List.length_take]; have := HM.out; omega
    refine ⟨la, lc, by rw [hl], by rw [hl]; have := HM.out; omega, fun h0 => ?_⟩
    obtain ⟨b, off, he, hb, hr⟩ := HLA.out (by have := HM.out; omega)
    refine ⟨b, off, he, Nat.lt_of_lt_of_le hb hX.size, fun k l hk => ?_⟩
    rw [List.getElem?_map] at hk
    obtain ⟨v, hv, rfl⟩ := Option.map_eq_some_iff.1 hk
    have hv2 : A[k]? = some v := by
      rw [List.getElem?_take] at hv
      split at hv
      · exact hv
      · cases hv
    exact range_below (hr k v hv2) hX hb)
  have HGT := Lib.hid (show ∀ v ∈ A.take M, GoodS v from fun v hv => HG.out v (List.mem_of_mem_take hv))
  clear hrow hlen hgood hE hcap hbig
  go_enter Tryd.func3, Tryd.ntmps3
  go_wp2_with fail
  go_loopw [3, 4] (fun ov i wr => ∃ (j : Nat) (oa : Option Addr) (oc : Nat), j ≤ M ∧ ov = .slice oa j oc ∧ i = .int .i64 j ∧ OwnV 35 18 wr w.heap.size (.slice oa j oc) ((A.take j).map (fun s => dC (ownS s))) ∧ Below w.heap.size w wr) (fun _ i _ => M - (intOf i).toNat)
  case atStart => exact ⟨0, none, 0, Nat.zero_le _, rfl, rfl, OwnV.nil, Below.refl _ _⟩
  case round =>
    obtain ⟨j, oa, oc, hj, rfl, rfl, ho, hb⟩ := hrel
    have HO := Lib.hid ho
    have HB := Lib.hid hb
    clear ho hb
    by_cases hjn : j < M
    · have hd : decide ((j : Int) < (M : Int)) = true := decide_eq_true (by omega)
      have hjI : (j : Int) < (M : Int) := by omega
      have hw1 : IntKind.i64.wrap ((j : Int) + 1) = (j : Int) + 1 := by have := HM.out; rw [IntKind.wrap_i64]; omega
      have HJ := Lib.hid hjn
      obtain ⟨v, hv⟩ : ∃ v, A[j]? = some v := ⟨_, List.getElem?_eq_getElem (by have := HLN.out; have := HM.out; omega)⟩
      have hgv := HG.out v (List.mem_of_getElem? hv)
      have hgd := good_own hgv
      have HTM := Lib.hid (take_map (fun s => dC (ownS s)) hv)
      obtain ⟨rb, ro, hla, hrlt, hrr⟩ := HLA.out (by have := HM.out; omega)
      have HLE := Lib.hid hla
      have hr0 := hrr j v hv
      have HRX := Lib.hid (fun X (hX : Below w.heap.size w X) => range_below hr0 hX hrlt)
      have HLS := Lib.hid (sC_len hgv)
      have HP13 := Lib.hid (sC_parts hgv).2.1
      have HLD := Lib.hid (dC_len hgd)
      have KO := Lib.hid (fun W => own28 hgv W)
      have KR := Lib.hid (fun W => right_s hgv W)
      have kr2 := fun W => right_d hgd W
      rw [show rightK (ownS v).k (ownS v).x (ownS v).s = rightS v from rfl] at kr2
      have KR2 := Lib.hid kr2
      have KC := Lib.hid (fun W => clean_s hgv W)
      have KC2 := Lib.hid (fun W => clean_d hgd W)
      have KO2 := Lib.hid (fun W => own28 (good_clean hgv) W)
      have KQ := Lib.hid (fun W => eqinD (good_own (good_clean hgv)) W)
      have HGD := Lib.hid hgd
      rw [cleanD_own] at KC2
      have hjA : j ≤ A.length := by have := HLN.out; have := HM.out; omega
      have HJA := Lib.hid hjA
      clear hv hgv hgd hla hrlt hrr hr0 kr2 hj hjn hjA
      have c13 : wr.cell? ⟨rb, ro + j * 19 + 13, none⟩ = some (.string v.s) := HRX.out _ HB.out 13 _ HP13.out
      go_upto_region 7 with fail
      refine wp_region_lit (WL.out ?_)
      refine WL.yield (w' := wr) (v := .slice la M lc) rfl (by first | (go_simp; done) | (go_simp; rfl)) ?_
      try go_simp
      refine WL.yield (w' := wr) (v := .int .i64 j) rfl (by first | (go_simp; done) | (go_simp; rfl)) ?_
      try go_simp
      refine WL.yield (w' := wr) (v := .pointer (some ⟨rb, ro + j * 19, none⟩)) rfl (by rw [HLE.out]; first | (go_simp; done) | (go_simp; rfl)) ?_
      try go_simp
      refine WL.yield (w' := wr) (v := .pointer (some ⟨rb, ro + j * 19 + 13, none⟩)) rfl (by first | (go_simp; done) | (go_simp; rfl)) ?_
      try go_simp
      refine WL.yield (w' := wr) (v := .string v.s) rfl (by first | (go_simp; done) | (go_simp; rfl)) ?_
      try go_simp
      refine WL.yield (w' := wr) (v := .int .i64 v.s.size) rfl (by first | (go_simp; done) | (go_simp; rfl)) ?_
      try go_simp
      clear c13
      obtain ⟨bs, hbs⟩ : ∃ b, b = decide (1000 < v.s.size) := ⟨_, rfl⟩
      have eb1 : decide (1000 < v.s.size) = bs := hbs.symm
      have eb2 : decide ((1000 : Int) < (v.s.size : Int)) = bs := by rw [hbs]; exact decide_eq_decide.2 (by omega)
      clear hbs
      refine WL.yield (w' := wr) (v := .bool bs) rfl (by first | (go_simp; done) | (go_simp; rfl)) ?_
      refine WL.nil ?_
      clear eb1 eb2
      go_simp
      cases bs with
      | true =>
        go_wp2_with fail
        go_ret
        exact ⟨rfl, HB.out⟩
      | false =>
        go_upto_region 9 with fail
        refine wp_region_lit (WL.out ?_)
        refine WL.yield (w' := wr) (v := .slice oa j oc) rfl (by first | (go_simp; done) | (go_simp; rfl)) ?_
        try go_simp
        refine WL.yield (w' := wr) (v := .slice la M lc) rfl (by first | (go_simp; done) | (go_simp; rfl)) ?_
        try go_simp
        refine WL.yield (w' := wr) (v := .int .i64 j) rfl (by first | (go_simp; done) | (go_simp; rfl)) ?_
        try go_simp
        refine WL.yield (w' := wr) (v := .pointer (some ⟨rb, ro + j * 19, none⟩)) rfl (by rw [HLE.out]; first | (go_simp; done) | (go_simp; rfl)) ?_
        try go_simp
        refine WL.yield (w' := wr) (v := .agg (sC v).toArray) rfl (exec_load_elt 29 _ rfl rb (ro + j * 19) (by go_simp) (sC v) _ (HRX.out _ HB.out) Tryd.underlying29 rfl (by rw [HLS.out]; exact info_step)) ?_
        try go_simp
        have hone2 := dC_one HGD.out
        obtain ⟨k9, x0, x1, x2, x3, x4, x5, x6, x7, x8, x9, x10, x11, s9, qa, qb, qc, qd, hU9⟩ := goodD_open HGD.out
        have hU10 : dC (ownS v) = ([.int .i64 k9, .int .i64 x0, .int .i64 x1, .int .i64 x2, .int .i64 x3, .int .i64 x4, .int .i64 x5, .int .i64 x6, .int .i64 x7, .int .i64 x8, .int .i64 x9, .int .i64 x10, .int .i64 x11, .string s9, .int .i64 qa, .int .i64 qb, .int .i64 qc, .int .i64 qd] : List Value) := by rw [hU9]; rfl
        have ko := KO.out
        rw [hU10] at hone2 ko
        have HU10 := Lib.hid hU10
        have KO9 := Lib.hid (show ∀ W, Calls Tryd.prog 6 #[.agg (sC v).toArray] W fun e w' => e = .returned (.agg #[.int .i64 k9, .int .i64 x0, .int .i64 x1, .int .i64 x2, .int .i64 x3, .int .i64 x4, .int .i64 x5, .int .i64 x6, .int .i64 x7, .int .i64 x8, .int .i64 x9, .int .i64 x10, .int .i64 x11, .string s9, .int .i64 qa, .int .i64 qb, .int .i64 qc, .int .i64 qd]) ∧ Below W.heap.size W w' from ko)
        clear hU9 hU10 ko KO
        refine WL.enter rfl (by go_simp) (KO9.out wr) ?_
        rintro e w3 ⟨rfl, hb3⟩
        refine ⟨_, rfl, ?_⟩
        have HB3 := Lib.hid (below_next HB.out hb3)
        have HO3 := Lib.hid (HO.out.below hb3)
        clear hb3 HB HO KO9
        try go_simp
        have hal := below_alloc (Below.refl _ w3) (.cells #[.int .i64 k9, .int .i64 x0, .int .i64 x1, .int .i64 x2, .int .i64 x3, .int .i64 x4, .int .i64 x5, .int .i64 x6, .int .i64 x7, .int .i64 x8, .int .i64 x9, .int .i64 x10, .int .i64 x11, .string s9, .int .i64 qa, .int .i64 qb, .int .i64 qc, .int .i64 qd] 35)
        obtain ⟨v', W9, hrun, hown, hgr, hnew, hbel⟩ := app_one eltDS 23 (HO3.out.below hal) ([.int .i64 k9, .int .i64 x0, .int .i64 x1, .int .i64 x2, .int .i64 x3, .int .i64 x4, .int .i64 x5, .int .i64 x6, .int .i64 x7, .int .i64 x8, .int .i64 x9, .int .i64 x10, .int .i64 x11, .string s9, .int .i64 qa, .int .i64 qb, .int .i64 qc, .int .i64 qd] : List Value) rfl (by simpa using hone2) (by rw [List.length_map, List.length_take]; have := HJ.out; have := HM.out; omega) (by decide) (Nat.le_trans HB3.out.size hal.size) (World.alloc_heap_new _ _)
        have hown2 : OwnV 35 18 W9 w.heap.size v' ((A.take (j + 1)).map (fun s => dC (ownS s))) := by rw [HTM.out, HU10.out]; exact hown
        obtain ⟨a9, c9, hv9⟩ := hown2.form
        have hl9 : ((A.take (j + 1)).map (fun s => dC (ownS s))).length = j + 1 := by rw [List.length_map, List.length_take]; have := HJ.out; have := HLN.out; have := HM.out; omega
        rw [hl9] at hv9
        obtain ⟨J1, hJ1⟩ : ∃ n, n = j + 1 := ⟨_, rfl⟩
        rw [← hJ1] at hv9
        subst hv9
        have hrow9 : RowV 18 W9 (.slice a9 J1 c9) ((A.take (j + 1)).map (fun s => dC (ownS s))) := OwnV.row (fun l hl => by obtain ⟨x, hx, rfl⟩ := List.mem_map.1 hl; exact dC_len (good_own (HG.out x (List.mem_of_mem_take hx)))) hown2
        obtain ⟨b9, o9, c9', he9, hlt9, _, hr9⟩ := RowV.at hrow9 (by rw [hl9]; exact Nat.succ_pos _)
        have HE9 := Lib.hid (Value.slice.inj he9).1
        have hq9 := hr9 j (dC (ownS v)) (by rw [HTM.out, List.getElem?_append_right (by rw [List.length_map, List.length_take]; omega)]; rw [List.length_map, List.length_take, show j - min j A.length = 0 by have := HJA.out; omega]; rfl)
        have HQ9 := Lib.hid (fun X (hX : Below W9.heap.size W9 X) => range_below hq9 hX hlt9)
        have HO9 := Lib.hid hown2
        have HJ1 := Lib.hid hJ1
        have hJI : (j : Int) < (J1 : Int) := by omega
        have HB9 := Lib.hid (show Below w.heap.size w W9 from HB3.out.trans ((hal.mono HB3.out.size).trans hbel))
        clear hal hgr hnew hbel hown hown2 hone2 hl9 hrow9 hlt9 hr9 hq9 he9 hJ1
        refine WL.yield (w' := w3.alloc (.cells #[.int .i64 k9, .int .i64 x0, .int .i64 x1, .int .i64 x2, .int .i64 x3, .int .i64 x4, .int .i64 x5, .int .i64 x6, .int .i64 x7, .int .i64 x8, .int .i64 x9, .int .i64 x10, .int .i64 x11, .string s9, .int .i64 qa, .int .i64 qb, .int .i64 qc, .int .i64 qd] 35)) (v := .slice (some ⟨w3.heap.size, 0, none⟩) 1 1) rfl (by first | (go_simp; done) | (go_simp; rfl)) ?_
        try go_simp
        refine WL.yield (w' := W9) (v := .slice a9 J1 c9) rfl (Ap.exec_app rfl (by first | rfl | go_simp) (by first | rfl | go_simp) hrun) ?_
        try go_simp
        clear HB3 HO3 hrun HU10
        refine WL.yield (w' := W9) (v := .slice a9 J1 c9) rfl (by go_simp) ?_
        refine WL.nil ?_
        go_simp
        go_upto_region 10 with fail
        refine wp_region_held (S := fun X => Below W9.heap.size W9 X) hmx ?_
        change wpAnyH _ _ _ _ _ 25 _ _ W9.drew
        have hS : Below W9.heap.size W9 W9.drew := (Below.refl _ _).drew
        generalize W9.drew = wd at *
        refine wpAnyH_take (i := 0) (v := .slice la M lc) rfl (by decide +kernel) (by decide +kernel) (by decide +kernel) (fun _ _ _ h => h) (.inl ⟨by first | rfl | (go_simp; done), fun X hX => by clear hX; first | (go_simp; done) | (go_simp; rfl)⟩) hS ?_; (try go_simp)
        refine wpAnyH_take (i := 1) (v := .int .i64 j) rfl (by decide +kernel) (by decide +kernel) (by decide +kernel) (fun _ _ _ h => h) (.inl ⟨by first | rfl | (go_simp; done), fun X hX => by clear hX; first | (go_simp; done) | (go_simp; rfl)⟩) hS ?_; (try go_simp)
        refine wpAnyH_take (i := 2) (v := .pointer (some ⟨rb, ro + j * 19, none⟩)) rfl (by decide +kernel) (by decide +kernel) (by decide +kernel) (fun _ _ _ h => h) (.inl ⟨by first | rfl | (go_simp; done), fun X hX => by clear hX; rw [HLE.out]; first | (go_simp; done) | (go_simp; rfl)⟩) hS ?_; (try go_simp)
        refine wpAnyH_take (i := 3) (v := .agg (sC v).toArray) rfl (by decide +kernel) (by decide +kernel) (by decide +kernel) (fun _ _ _ h => h) (.inl ⟨by first | rfl | (go_simp; done), fun X hX => by exact exec_load_elt 29 _ rfl rb (ro + j * 19) (by go_simp) (sC v) _ (HRX.out _ (below_next HB9.out hX)) Tryd.underlying29 rfl (by rw [HLS.out]; exact info_step)⟩) hS ?_; (try go_simp)
        refine wpAnyH_take (i := 5) (v := .slice a9 J1 c9) rfl (by decide +kernel) (by decide +kernel) (by decide +kernel) (fun _ _ _ h => h) (.inl ⟨by first | rfl | (go_simp; done), fun X hX => by clear hX; first | (go_simp; done) | (go_simp; rfl)⟩) hS ?_; (try go_simp)
        refine wpAnyH_take (i := 6) (v := .int .i64 j) rfl (by decide +kernel) (by decide +kernel) (by decide +kernel) (fun _ _ _ h => h) (.inl ⟨by first | rfl | (go_simp; done), fun X hX => by clear hX; first | (go_simp; done) | (go_simp; rfl)⟩) hS ?_; (try go_simp)
        refine wpAnyH_take (i := 7) (v := .pointer (some ⟨b9, o9 + j * 18, none⟩)) rfl (by decide +kernel) (by decide +kernel) (by decide +kernel) (fun _ _ _ h => h) (.inl ⟨by first | rfl | (go_simp; done), fun X hX => by clear hX; rw [HE9.out]; first | (go_simp; done) | (go_simp; rfl)⟩) hS ?_; (try go_simp)
        refine wpAnyH_take (i := 8) (v := .agg (dC (ownS v)).toArray) rfl (by decide +kernel) (by decide +kernel) (by decide +kernel) (fun _ _ _ h => h) (.inl ⟨by first | rfl | (go_simp; done), fun X hX => by exact exec_load_elt 35 _ rfl b9 (o9 + j * 18) (by go_simp) (dC (ownS v)) _ (HQ9.out X hX) Tryd.underlying35 rfl (by rw [HLD.out]; exact info_dstep)⟩) hS ?_; (try go_simp)
        obtain ⟨r, hr⟩ : ∃ r, r = rightS v := ⟨_, rfl⟩
        rw [← hr] at KR KR2
        clear hr
        refine anyH_call (i := 4) (by decide +kernel) rfl (by first | rfl | (go_simp; done)) (by go_simp) (KR.out wd) ?_
        rintro e w4 ⟨rfl, hb4⟩
        have hS4 := below_next hS hb4
        refine ⟨_, rfl, hS4, ?_⟩
        clear hS hb4 KR
        try go_simp
        refine anyH_call (i := 9) (by decide +kernel) rfl (by first | rfl | (go_simp; done)) (by go_simp) (KR2.out w4) ?_
        rintro e w5 ⟨rfl, hb5⟩
        have hS5 := below_next hS4 hb5
        refine ⟨_, rfl, hS5, ?_⟩
        clear hS4 hb5 KR2
        try go_simp
        refine wpAnyH_take (i := 10) (v := .bool false) rfl (by decide +kernel) (by decide +kernel) (by decide +kernel) (fun _ _ _ h => h) (.inl ⟨by first | rfl | (go_simp; done), fun X hX => by clear hX; first | (go_simp; done) | (go_simp; rfl)⟩) hS5 ?_; (try go_simp)
        refine wpAnyH_take (i := 11) (v := .bool false) rfl (by decide +kernel) (by decide +kernel) (by decide +kernel) (fun _ _ _ h => h) (.inl ⟨by first | rfl | (go_simp; done), fun X hX => by clear hX; first | (go_simp; done) | (go_simp; rfl)⟩) hS5 ?_; (try go_simp)
        refine wpAnyH_take (i := 12) (v := .slice la M lc) rfl (by decide +kernel) (by decide +kernel) (by decide +kernel) (fun _ _ _ h => h) (.inl ⟨by first | rfl | (go_simp; done), fun X hX => by clear hX; first | (go_simp; done) | (go_simp; rfl)⟩) hS5 ?_; (try go_simp)
        refine wpAnyH_take (i := 13) (v := .int .i64 j) rfl (by decide +kernel) (by decide +kernel) (by decide +kernel) (fun _ _ _ h => h) (.inl ⟨by first | rfl | (go_simp; done), fun X hX => by clear hX; first | (go_simp; done) | (go_simp; rfl)⟩) hS5 ?_; (try go_simp)
        refine wpAnyH_take (i := 14) (v := .pointer (some ⟨rb, ro + j * 19, none⟩)) rfl (by decide +kernel) (by decide +kernel) (by decide +kernel) (fun _ _ _ h => h) (.inl ⟨by first | rfl | (go_simp; done), fun X hX => by clear hX; rw [HLE.out]; first | (go_simp; done) | (go_simp; rfl)⟩) hS5 ?_; (try go_simp)
        refine wpAnyH_take (i := 15) (v := .agg (sC v).toArray) rfl (by decide +kernel) (by decide +kernel) (by decide +kernel) (fun _ _ _ h => h) (.inl ⟨by first | rfl | (go_simp; done), fun X hX => by exact exec_load_elt 29 _ rfl rb (ro + j * 19) (by go_simp) (sC v) _ (HRX.out _ (below_next HB9.out hX)) Tryd.underlying29 rfl (by rw [HLS.out]; exact info_step)⟩) hS5 ?_; (try go_simp)
        refine wpAnyH_take (i := 18) (v := .slice a9 J1 c9) rfl (by decide +kernel) (by decide +kernel) (by decide +kernel) (fun _ _ _ h => h) (.inl ⟨by first | rfl | (go_simp; done), fun X hX => by clear hX; first | (go_simp; done) | (go_simp; rfl)⟩) hS5 ?_; (try go_simp)
        refine wpAnyH_take (i := 19) (v := .int .i64 j) rfl (by decide +kernel) (by decide +kernel) (by decide +kernel) (fun _ _ _ h => h) (.inl ⟨by first | rfl | (go_simp; done), fun X hX => by clear hX; first | (go_simp; done) | (go_simp; rfl)⟩) hS5 ?_; (try go_simp)
        refine wpAnyH_take (i := 20) (v := .pointer (some ⟨b9, o9 + j * 18, none⟩)) rfl (by decide +kernel) (by decide +kernel) (by decide +kernel) (fun _ _ _ h => h) (.inl ⟨by first | rfl | (go_simp; done), fun X hX => by clear hX; rw [HE9.out]; first | (go_simp; done) | (go_simp; rfl)⟩) hS5 ?_; (try go_simp)
        refine wpAnyH_take (i := 21) (v := .agg (dC (ownS v)).toArray) rfl (by decide +kernel) (by decide +kernel) (by decide +kernel) (fun _ _ _ h => h) (.inl ⟨by first | rfl | (go_simp; done), fun X hX => by exact exec_load_elt 35 _ rfl b9 (o9 + j * 18) (by go_simp) (dC (ownS v)) _ (HQ9.out X hX) Tryd.underlying35 rfl (by rw [HLD.out]; exact info_dstep)⟩) hS5 ?_; (try go_simp)
        refine anyH_call (i := 16) (by decide +kernel) rfl (by first | rfl | (go_simp; done)) (by go_simp) (KC.out w5) ?_
        rintro e w6 ⟨rfl, hb6⟩
        have hS6 := below_next hS5 hb6
        refine ⟨_, rfl, hS6, ?_⟩
        clear hS5 hb6 KC
        try go_simp
        refine anyH_call (i := 17) (by decide +kernel) rfl (by first | rfl | (go_simp; done)) (by go_simp) (KO2.out w6) ?_
        rintro e w7 ⟨rfl, hb7⟩
        have hS7 := below_next hS6 hb7
        refine ⟨_, rfl, hS7, ?_⟩
        clear hS6 hb7 KO2
        try go_simp
        refine anyH_call (i := 22) (by decide +kernel) rfl (by first | rfl | (go_simp; done)) (by go_simp) (KC2.out w7) ?_
        rintro e w8 ⟨rfl, hb8⟩
        have hS8 := below_next hS7 hb8
        refine ⟨_, rfl, hS8, ?_⟩
        clear hS7 hb8 KC2
        try go_simp
        refine wpAnyH_take (i := 23) (v := .bool false) rfl (by decide +kernel) (by decide +kernel) (by decide +kernel) (fun _ _ _ h => h) (.inl ⟨by first | rfl | (go_simp; done), fun X hX => by exact exec_neq (b := true) 35 _ _ _ rfl (dC (ownS (cleanS v))).toArray (dC (ownS (cleanS v))).toArray (by go_simp) (by go_simp) guardD (KQ.out X)⟩) hS8 ?_; (try go_simp)
        refine wpAnyH_take (i := 24) (v := .bool false) rfl (by decide +kernel) (by decide +kernel) (by decide +kernel) (fun _ _ _ h => h) (.inl ⟨by first | rfl | (go_simp; done), fun X hX => by clear hX; first | (go_simp; done) | (go_simp; rfl)⟩) hS8 ?_; (try go_simp)
        have HO8 := Lib.hid (HO9.out.below hS8)
        have HB8 := Lib.hid (below_next HB9.out hS8)
        clear hS8 KQ HO9 HB9
        refine wpAnyH_done (by decide +kernel) ?_ _
        go_simp
        go_wp2_with fail
        go_roundw
        case rel => exact ⟨j + 1, a9, c9, HJ.out, by rw [HJ1.out], by first | rfl | (simp; done), by rw [← HJ1.out] at *; exact (HJ1.out ▸ HO8.out), HB8.out⟩
        case measure => have := HJ.out; simp [intOf]; omega
    · obtain rfl : j = M := by omega
      have hd : decide ((j : Int) < (j : Int)) = false := decide_eq_false (by omega)
      have HJM := Lib.hid hj
      go_upto_region 12 with fail
      refine wp_region_held (S := fun X => Below w.heap.size w X) hmx ?_
      change wpAnyH _ _ _ _ _ 10 _ _ wr.drew
      have hdr : Below wr.heap.size wr wr.drew := (Below.refl _ _).drew
      have hS : Below w.heap.size w wr.drew := below_next HB.out hdr
      have HOD := Lib.hid (HO.out.below hdr)
      clear hdr HB HO
      generalize wr.drew = wd at *
      refine wpAnyH_take (i := 0) (v := .slice la j lc) rfl (by decide +kernel) (by decide +kernel) (by decide +kernel) (fun _ _ _ h => h) (.inl ⟨by first | rfl | (go_simp; done), fun X hX => by clear hX; first | (go_simp; done) | (go_simp; rfl)⟩) hS ?_; (try go_simp)
      refine wpAnyH_take (i := 3) (v := .slice oa j oc) rfl (by decide +kernel) (by decide +kernel) (by decide +kernel) (fun _ _ _ h => h) (.inl ⟨by first | rfl | (go_simp; done), fun X hX => by clear hX; first | (go_simp; done) | (go_simp; rfl)⟩) hS ?_; (try go_simp)
      have KP := Lib.hid (put_s (w := wd) (HRS.out wd hS) HGT.out (by rw [List.length_take]; have := HM.out; omega))
      refine anyH_call (i := 1) (by decide +kernel) rfl (by first | rfl | (go_simp; done)) (by go_simp) KP.out ?_
      rintro e w4 ⟨u, rfl, hu, hb4⟩
      have hS4 := below_next hS hb4
      refine ⟨_, rfl, hS4, ?_⟩
      try go_simp
      have HUT := Lib.hid hu.at
      have hod : RowD w4 (.slice oa j oc) (A.take j) := RowV.below (OwnV.row (fun l hl => by obtain ⟨x, hx, rfl⟩ := List.mem_map.1 hl; exact dC_len (good_own (HG.out x (List.mem_of_mem_take hx)))) HOD.out) hb4
      have KD := Lib.hid (rput_s (w := w4) hod HGT.out (by rw [List.length_take]; have := HM.out; omega))
      have HCV := Lib.hid (txt_conv HUT.out)
      obtain ⟨sv, hsv⟩ : ∃ s, s = strOfNums (putS (A.take j)) := ⟨_, rfl⟩
      rw [← hsv] at KD HCV
      have HONE := Lib.hid (fun X (hX : Below w.heap.size w X) => one28 (HE.out X hX))
      clear hS hb4 hu KP HOD hod hsv HRS HGT HLA
      refine anyH_two (i := 2) (j := 4) (by decide +kernel) ?_ ?_
      · have hcv := HCV.out w4 (Below.refl _ _)
        refine opH_val (i := 2) (v := .string sv) (w' := w4) rfl (by first | rfl | (go_simp; done)) (by first | (go_simp; done) | (go_simp; rfl)) ⟨hS4, ?_⟩
        clear hcv
        try go_simp
        refine anyH_call (i := 4) (by decide +kernel) rfl (by first | rfl | (go_simp; done)) (by go_simp) KD.out ?_
        rintro e w5 ⟨rfl, hb5⟩
        have hS5 := below_next hS4 hb5
        refine ⟨_, rfl, hS5, ?_⟩
        clear hS4 hb5 KD HCV
        try go_simp
        refine wpAnyH_take (i := 5) (v := .bool true) rfl (by decide +kernel) (by decide +kernel) (by decide +kernel) (fun _ _ _ h => h) (.inl ⟨by first | rfl | (go_simp; done), fun X hX => by clear hX; first | (go_simp; done) | (go_simp; rfl)⟩) hS5 ?_; (try go_simp)
        refine wpAnyH_take (i := 6) (v := .bool true) rfl (by decide +kernel) (by decide +kernel) (by decide +kernel) (fun _ _ _ h => h) (.inl ⟨by first | rfl | (go_simp; done), fun X hX => by clear hX; first | (go_simp; done) | (go_simp; rfl)⟩) hS5 ?_; (try go_simp)
        have K1 := Lib.hid (HONE.out w5 hS5)
        refine anyH_call (i := 7) (by decide +kernel) rfl (by first | rfl | (go_simp; done)) (by go_simp) K1.out ?_
        rintro e w6 ⟨rfl, hb6⟩
        have hS6 := below_next hS5 hb6
        refine ⟨_, rfl, hS6, ?_⟩
        clear hS5 hb6 K1
        try go_simp
        refine wpAnyH_take (i := 8) (v := .bool true) rfl (by decide +kernel) (by decide +kernel) (by decide +kernel) (fun _ _ _ h => h) (.inl ⟨by first | rfl | (go_simp; done), fun X hX => by clear hX; first | (go_simp; done) | (go_simp; rfl)⟩) hS6 ?_; (try go_simp)
        refine wpAnyH_take (i := 9) (v := .bool true) rfl (by decide +kernel) (by decide +kernel) (by decide +kernel) (fun _ _ _ h => h) (.inl ⟨by first | rfl | (go_simp; done), fun X hX => by clear hX; first | (go_simp; done) | (go_simp; rfl)⟩) hS6 ?_; (try go_simp)
        have HB6 := Lib.hid hS6
        clear hS6
        refine wpAnyH_done (by decide +kernel) ?_ _
        go_simp
        go_wp2_with fail
        go_ret
        exact ⟨rfl, HB6.out⟩
      · refine opH_call (i := 4) rfl (by first | rfl | (go_simp; done)) (by go_simp) KD.out ?_
        rintro e w5 ⟨rfl, hb5⟩
        have hS5 := below_next hS4 hb5
        refine ⟨_, rfl, hS5, ?_⟩
        try go_simp
        have hcv := HCV.out w5 hb5
        refine anyH_one (i := 2) (by decide +kernel) ?_
        refine opH_val (i := 2) (v := .string sv) (w' := w5) rfl (by first | rfl | (go_simp; done)) (by first | (go_simp; done) | (go_simp; rfl)) ⟨hS5, ?_⟩
        clear hcv hS4 hb5 KD HCV
        try go_simp
        refine wpAnyH_take (i := 5) (v := .bool true) rfl (by decide +kernel) (by decide +kernel) (by decide +kernel) (fun _ _ _ h => h) (.inl ⟨by first | rfl | (go_simp; done), fun X hX => by clear hX; first | (go_simp; done) | (go_simp; rfl)⟩) hS5 ?_; (try go_simp)
        refine wpAnyH_take (i := 6) (v := .bool true) rfl (by decide +kernel) (by decide +kernel) (by decide +kernel) (fun _ _ _ h => h) (.inl ⟨by first | rfl | (go_simp; done), fun X hX => by clear hX; first | (go_simp; done) | (go_simp; rfl)⟩) hS5 ?_; (try go_simp)
        have K1 := Lib.hid (HONE.out w5 hS5)
        refine anyH_call (i := 7) (by decide +kernel) rfl (by first | rfl | (go_simp; done)) (by go_simp) K1.out ?_
        rintro e w6 ⟨rfl, hb6⟩
        have hS6 := below_next hS5 hb6
        refine ⟨_, rfl, hS6, ?_⟩
        clear hS5 hb6 K1
        try go_simp
        refine wpAnyH_take (i := 8) (v := .bool true) rfl (by decide +kernel) (by decide +kernel) (by decide +kernel) (fun _ _ _ h => h) (.inl ⟨by first | rfl | (go_simp; done), fun X hX => by clear hX; first | (go_simp; done) | (go_simp; rfl)⟩) hS6 ?_; (try go_simp)
        refine wpAnyH_take (i := 9) (v := .bool true) rfl (by decide +kernel) (by decide +kernel) (by decide +kernel) (fun _ _ _ h => h) (.inl ⟨by first | rfl | (go_simp; done), fun X hX => by clear hX; first | (go_simp; done) | (go_simp; rfl)⟩) hS6 ?_; (try go_simp)
        have HB6 := Lib.hid hS6
        clear hS6
        refine wpAnyH_done (by decide +kernel) ?_ _
        go_simp
        go_wp2_with fail
        go_ret
        exact ⟨rfl, HB6.out⟩
theorem sputs_walk (la : Option Addr) (N lc : Nat) (A : List SV) (w : World) (ht : RowS w (.slice la N lc) A ∧ A.length = N ∧ ∀ v ∈ A, GoodS v) (hE : ErrAt w) : Calls Tryd.prog 3 #[.slice la N lc] w fun e w' => e = .returned (.bool true) ∧ Below w.heap.size w w' := by
  by_cases h : 60 < N
  · exact sputs_big la N lc A w ht hE h
  · exact sputs_small la N lc A w ht hE (by omega)
end Go.Proofs.YtdfkfcpkejjlnaaDoor
