/- A queue's Push and Pop (layer 17). Conditions: the places'. -/
import Derived.Test.YtfakejfpicjedaaTmB
namespace Go.Proofs.Ytfakejfpicjedaa
set_option linter.unusedVariables false
open Go.ChangeShapes Go.WideShapes Go.ChangeAt Go.RowKit Tm
attribute [local go_sem ↓] Go.wp_at_zero Go.wp_at_succ comesTo_value_eq comesTo_skip_eq comesTo_enter_eq

theorem exec_mapUpdateT {P : Program} {op : Oper} {ρ : Operand → Value} {w w' : World} (t : TypeId) (m x v : Operand) (ho : op.op = .mapUpdate t m x v) {vm vx vv : Value} (hm : ρ m = vm) (hx : ρ x = vx) (hv : ρ v = vv)
    (h : (Instr.mapUpdate t vm vx vv).run P w = .ok () w') : (execOp ρ op).run P w = .ok .skip w' := by
  unfold execOp
  simp only [ho, hm, hx, hv, Sem.run_bind, h, Result.andThen_ok, Sem.run_pure]
theorem exec_deleteT {P : Program} {o : Oper} {ρ : Operand → Value} {w w' : World} {s x : Operand} {T K : TypeId} {vs vx v' : Value} (ho : o.op = .call { callee := .builtin .delete, args := #[s, x], argTypes := #[T, K] }) (hs : ρ s = vs) (hx : ρ x = vx)
    (h : (Builtin.delete_ #[T, K] o.type #[vs, vx]).run P w = .ok v' w') : (execOp ρ o).run P w = .ok (.value v') w' := by
  unfold execOp
  simp only [ho, resolve, invoke, builtin, Sem.run_bind, Sem.run_pure, Result.andThen_ok, List.map_toArray, List.map_cons, List.map_nil, hs, hx, h]
theorem info_alT : (Try.prog.info? 42).map (fun i => (i.zero, i.size, i.bytes)) = some (some (.agg #[.int .i64 0, .int .i64 0]), 2, 16) := by kernel_rfl
theorem info_partsT {i? : Option TypeInfo} {z : Value} {s b : Nat} (h : i?.map (fun i => (i.zero, i.size, i.bytes)) = some (some z, s, b)) : ∃ i, i? = some i ∧ i.zero = some z ∧ i.size = s ∧ i.bytes = b := by
  cases i? with
  | none => cases h
  | some i =>
    simp only [Option.map_some, Option.some.injEq, Prod.mk.injEq] at h
    exact ⟨i, rfl, h.1, h.2.1, h.2.2⟩
theorem eltAT : Ap.Elt Try.prog 39 42 2 16 :=
  ⟨Try.underlying39, by obtain ⟨i, h1, h2, h3, h4⟩ := info_partsT info_alT; exact ⟨i, _, h1, h2, h3, h4, rfl⟩, by decide⟩
theorem app_oneT {P : Program} {T e : TypeId} {size bytes : Nat} (E : Ap.Elt P T e size bytes) (ty : TypeId) {w : World} {B : Nat} {v : Value} {n : Nat} {xs : List Value} (hown : w.ownsRow B e size v n xs) (news : List Value) (hl : news.length = size) (h1 : ∀ u ∈ news, u.oneCell' = true)
    (h63 : n + 1 ≤ 100000) (hby : bytes ≤ 1000) (hB : B ≤ w.heap.size) :
    ∃ v' w', (Builtin.append_ #[T, T] ty #[v, .slice (some ⟨w.heap.size, 0, none⟩) 1 1]).run P (w.alloc (.cells news.toArray e)) = .ok v' w' ∧ w'.ownsRow B e size v' (n + 1) (xs ++ news) ∧
      (∀ k, k < w.heap.size → v.ownBlock ≠ some k → w'.heap[k]? = w.heap[k]?) ∧ w.heap.size ≤ w'.heap.size ∧ (∀ g, v'.ownBlock = some g → v.ownBlock = some g ∨ w.heap.size ≤ g) ∧ Below B w w' := by
  obtain ⟨i, z, hi, hz0, hz1, hz2, hz3⟩ := E.info
  have hA := below_alloc (Below.refl _ w) (.cells news.toArray e)
  have hq := World.alloc_heap_new w (.cells news.toArray e)
  have hown2 : (w.alloc (.cells news.toArray e)).ownsRow B e size v n xs := Ap.own_keep hown fun g hg => hA.block g (Ap.own_lt hown g hg)
  have hplain : ∀ j, (⟨w.heap.size, 0, none⟩ : Addr).add j = ⟨w.heap.size, j, none⟩ := fun j => by unfold Addr.add; split <;> simp_all
  obtain ⟨v', w', g0, g1, g2, _, g4⟩ := run_append_own_at (P := P) (w.alloc (.cells news.toArray e)) B T ty e i z size bytes E.ul hi hz0 hz1 hz2 hz3 E.pos v n xs hown2 ⟨w.heap.size, 0, none⟩ 1 1 news (by rw [hl, Nat.one_mul])
    (fun j u hj => by rw [hplain]; exact cell_of_block hq (by simpa using hj)) h1 (by unfold maxLen; omega) (by
      have : (n + 1) * bytes ≤ 100000 * 1000 := Nat.mul_le_mul h63 hby
      omega) (Nat.le_trans hB hA.size)
  refine ⟨v', w', g0, g1, fun k hk hne => (g2.block k (Nat.lt_of_lt_of_le hk hA.size) (fun e => hne e.symm)).trans (hA.block k hk), Nat.le_trans hA.size g2.size, fun g hg => ?_, ?_⟩
  · rcases g4 with g4 | g4
    · exact .inl (g4 ▸ hg)
    · rw [g4] at hg
      injection hg with hg
      refine .inr ?_
      rw [← hg]
      exact hA.size
  · exact Below.grown (hA.mono hB) g2 (Nat.le_trans hB hA.size) (Ap.own_blk hown2)
theorem ta_al (x1 x2 : Int) (W : World) : (Instr.typeAssert (.iface 42 (.agg #[.int .i64 x1, .int .i64 x2])) 20 42 true).run Try.prog W = .ok (.tuple #[.agg #[.int .i64 x1, .int .i64 x2], .bool true]) W := by kernel_rfl
theorem mapT_fr {w w' : World} {Q m : Nat} {v : Value} (h : w.mapTurned w' m) : FrT Q m v w w' :=
  have g := h.grown
  ⟨g.os, g.tape, g.output, g.size, fun j hj _ hm _ => g.block j hj (by intro e; injection e with e; exact hm e)⟩
theorem Tq.turned {w w' : World} {Q m : Nat} {v : Value} {A : List AL} {pm pm' : Int → Option Nat} {c c' : Nat} (h : Tq w Q m v A pm c) (ht : w.mapTurned w' m) (hm : PM w' m pm' c') : Tq w' Q m v A pm' c' :=
  have g := ht.grown
  ⟨(g.block Q h.lt (by intro e; injection e with e; exact h.ne e)).trans h.blk, Ap.own_keep h.row (fun b hb => g.block b (h.rne hb).2.2 (by intro e; injection e with e; exact (h.rne hb).2.1 e)), hm⟩
theorem Co.push {A : List AL} {pm : Int → Option Nat} (h : Co A pm) {x : AL} (hx : i64T x.2 ∧ 0 ≤ x.1 ∧ x.1 < 1099511627776) (hn : pm x.2 = none) (hl : A.length < 4096) : Co (A ++ [x]) (updP pm x.2 A.length) := by
  refine ⟨fun k hk => ?_, fun id k hk => ?_, fun y hy => ?_, by rw [List.length_append]; simp; omega⟩
  · rw [gA_app]
    unfold updP
    rw [List.length_append, List.length_singleton] at hk
    by_cases e : k = A.length
    · rw [if_pos e, if_pos rfl, e]
    · rw [if_neg e]
      have h1 := h.pos k (by omega)
      rw [if_neg (fun e2 => by rw [e2, hn] at h1; cases h1)]
      exact h1
  · rw [gA_app, List.length_append, List.length_singleton]
    unfold updP at hk
    by_cases e : id = x.2
    · rw [if_pos e] at hk
      injection hk with hk
      subst hk
      exact ⟨by omega, by rw [if_pos rfl, e]⟩
    · rw [if_neg e] at hk
      obtain ⟨a, b⟩ := h.is id k hk
      exact ⟨by omega, by rw [if_neg (by omega)]; exact b⟩
  · rcases List.mem_append.1 hy with hy | hy
    · exact h.num y hy
    · rw [List.mem_singleton.1 hy]; exact hx
theorem Co.pop {A : List AL} {pm : Int → Option Nat} (h : Co A pm) {k : Nat} (hl : A.length = k + 1) : Co (A.take k) (eraP pm (gA A k).2) := by
  have hk0 := h.pos k (by omega)
  refine ⟨fun j hj => ?_, fun id j hj => ?_, fun y hy => h.num y (List.mem_of_mem_take hy), by rw [List.length_take]; have := h.len; omega⟩
  · rw [List.length_take] at hj
    rw [gA_take (by omega)]
    unfold eraP
    rw [if_neg (fun e => by have := h.inj (i := j) (j := k) (by omega) (by omega) e; omega)]
    exact h.pos j (by omega)
  · unfold eraP at hj
    split at hj
    · cases hj
    · rename_i hne
      obtain ⟨a, b⟩ := h.is id j hj
      have hjk : j ≠ k := by rintro rfl; exact hne b.symm
      rw [List.length_take, gA_take (by omega)]
      exact ⟨by omega, b⟩
theorem RowA.grow {w' : World} {v' : Value} {A : List AL} {x : AL} (h : w'.ownsRow 0 42 2 v' (A.length + 1) (flA A ++ [.int .i64 x.1, .int .i64 x.2])) : RowA w' v' (A ++ [x]) := by
  have e : (A ++ [x]).length = A.length + 1 := by simp
  unfold RowA
  rw [e, flA_app]
  exact h
set_option maxRecDepth 100000 in
set_option maxHeartbeats 4000000 in
theorem qpush {w : World} {Q m : Nat} {v : Value} {A : List AL} {pm : Int → Option Nat} (h : Tq w Q m v A pm A.length) (hC : Co A pm) {x : AL} (hx : i64T x.2) (hn : pm x.2 = none) (hl : A.length < 4096) :
    Calls Try.prog 50 #[.pointer (some ⟨Q, 0, none⟩), .iface 42 (.agg #[.int .i64 x.1, .int .i64 x.2])] w fun e w' => e = .returned (.tuple #[]) ∧ ∃ v', Tq w' Q m v' (A ++ [x]) (updP pm x.2 A.length) (A.length + 1) ∧ FrT Q m v w w' ∧ RowN w v v' := by
  have hmx : Try.prog.follows .mixedOrders = true := by kernel_rfl
  obtain ⟨ad, cp, rfl⟩ := h.row.form
  obtain ⟨x1, x2⟩ := x
  dsimp only at hx hn ⊢
  have HX := Lib.hid hx
  have HNO := Lib.hid hn
  have HL := Lib.hid hl
  have HQM := Lib.hid h.ne
  have HQL := Lib.hid h.lt
  have ba := below_alloc (Below.refl _ w) (.cells #[.int .i64 x1, .int .i64 x2] 42)
  have HP := Lib.hid (World.alloc_heap_new w (.cells #[.int .i64 x1, .int .i64 x2] 42))
  have HT := Lib.hid (h.below ba)
  have HF := Lib.hid (show FrT Q m (.slice ad A.length cp) w _ from FrT.of_below ba)
  have HPQ := Lib.hid (show w.heap.size ≠ Q ∧ w.heap.size ≠ m ∧ ∀ b, (Value.slice ad A.length cp).ownBlock = some b → w.heap.size ≠ b from by have := h.lt; have := h.map.mlt; exact ⟨by omega, by omega, fun b hb => by have := (h.rne hb).2.2; omega⟩)
  have HRB := Lib.hid (show ∀ b, (Value.slice ad A.length cp).ownBlock = some b → b < w.heap.size from fun b hb => (h.rne hb).2.2)
  clear h hx hn hl hC ba
  obtain ⟨n, hnn⟩ : ∃ n, n = A.length := ⟨_, rfl⟩
  rw [← hnn] at HT HF HL HPQ HRB ⊢
  have HN := Lib.hid hnn
  clear hnn
  have hta := fun W => ta_al x1 x2 W
  go_enter Try.func50, Try.ntmps50
  go_upto_region 1 with fail
  clear hta
  generalize w.alloc (.cells #[.int .i64 x1, .int .i64 x2] 42) = W1 at *
  obtain ⟨p, hp⟩ : ∃ p, p = w.heap.size := ⟨_, rfl⟩
  rw [← hp] at HP HPQ ⊢
  have HPW := Lib.hid hp
  clear hp
  go_upto_region 2 with fail
  refine wp_region_held (S := fun X => X.cell? ⟨Q, 0, none⟩ = some (.slice ad n cp) ∧ X.cell? ⟨Q, 1, none⟩ = some (.map (some m)) ∧ X.cell? ⟨p, 1, none⟩ = some (.int .i64 x2)) hmx ?_
  change wpAnyH _ _ _ _ _ 12 _ _ W1.drew
  have HD := Lib.hid (show Below W1.heap.size W1 W1.drew from (Below.refl _ _).drew)
  have HT2 := Lib.hid (HT.out.below HD.out)
  have HP2 := Lib.hid ((HD.out.block p (Array.getElem?_eq_some_iff.1 HP.out).1).trans HP.out)
  have HF2 := Lib.hid (HF.out.trans (FrT.of_below (Q := Q) (m := m) (v := .slice ad n cp) HD.out) (RowN.refl _ _))
  clear HD HT HP HF
  generalize W1.drew = X0 at *
  have hS : X0.cell? ⟨Q, 0, none⟩ = some (.slice ad n cp) ∧ X0.cell? ⟨Q, 1, none⟩ = some (.map (some m)) ∧ X0.cell? ⟨p, 1, none⟩ = some (.int .i64 x2) := ⟨cell_of_block (o := 0) HT2.out.blk rfl, cell_of_block (o := 1) HT2.out.blk rfl, cell_of_block (o := 1) HP2.out rfl⟩
  (refine wpAnyH_take (i := 0) (v := .pointer (some ⟨Q, 0, none⟩)) rfl (by decide +kernel) (by decide +kernel) (by decide +kernel) (fun _ _ _ h => h) (.inl ⟨by first | rfl | (go_simp; done), fun X hX => by obtain ⟨hx0, hx1, hx2⟩ := hX; first | (go_simp; done) | (go_simp; rfl)⟩) hS ?_)
  (refine wpAnyH_take (i := 1) (v := .pointer (some ⟨Q, 0, none⟩)) rfl (by decide +kernel) (by decide +kernel) (by decide +kernel) (fun _ _ _ h => h) (.inl ⟨by first | rfl | (go_simp; done), fun X hX => by obtain ⟨hx0, hx1, hx2⟩ := hX; first | (go_simp; done) | (go_simp; rfl)⟩) hS ?_)
  (refine wpAnyH_take (i := 2) (v := .pointer (some ⟨Q, 1, none⟩)) rfl (by decide +kernel) (by decide +kernel) (by decide +kernel) (fun _ _ _ h => h) (.inl ⟨by first | rfl | (go_simp; done), fun X hX => by obtain ⟨hx0, hx1, hx2⟩ := hX; first | (go_simp; done) | (go_simp; rfl)⟩) hS ?_)
  (refine wpAnyH_take (i := 3) (v := .map (some m)) rfl (by decide +kernel) (by decide +kernel) (by decide +kernel) (fun _ _ _ h => h) (.inl ⟨by first | rfl | (go_simp; done), fun X hX => by obtain ⟨hx0, hx1, hx2⟩ := hX; first | (go_simp; done) | (go_simp; rfl)⟩) hS ?_)
  (refine wpAnyH_take (i := 4) (v := .pointer (some ⟨p, 1, none⟩)) rfl (by decide +kernel) (by decide +kernel) (by decide +kernel) (fun _ _ _ h => h) (.inl ⟨by first | rfl | (go_simp; done), fun X hX => by obtain ⟨hx0, hx1, hx2⟩ := hX; first | (go_simp; done) | (go_simp; rfl)⟩) hS ?_)
  (refine wpAnyH_take (i := 5) (v := .int .i64 x2) rfl (by decide +kernel) (by decide +kernel) (by decide +kernel) (fun _ _ _ h => h) (.inl ⟨by first | rfl | (go_simp; done), fun X hX => by obtain ⟨hx0, hx1, hx2⟩ := hX; first | (go_simp; done) | (go_simp; rfl)⟩) hS ?_)
  (refine wpAnyH_take (i := 6) (v := .pointer (some ⟨Q, 0, none⟩)) rfl (by decide +kernel) (by decide +kernel) (by decide +kernel) (fun _ _ _ h => h) (.inl ⟨by first | rfl | (go_simp; done), fun X hX => by obtain ⟨hx0, hx1, hx2⟩ := hX; first | (go_simp; done) | (go_simp; rfl)⟩) hS ?_)
  (refine wpAnyH_take (i := 7) (v := .pointer (some ⟨Q, 0, none⟩)) rfl (by decide +kernel) (by decide +kernel) (by decide +kernel) (fun _ _ _ h => h) (.inl ⟨by first | rfl | (go_simp; done), fun X hX => by obtain ⟨hx0, hx1, hx2⟩ := hX; first | (go_simp; done) | (go_simp; rfl)⟩) hS ?_)
  (refine wpAnyH_take (i := 8) (v := .pointer (some ⟨Q, 0, none⟩)) rfl (by decide +kernel) (by decide +kernel) (by decide +kernel) (fun _ _ _ h => h) (.inl ⟨by first | rfl | (go_simp; done), fun X hX => by obtain ⟨hx0, hx1, hx2⟩ := hX; first | (go_simp; done) | (go_simp; rfl)⟩) hS ?_)
  (refine wpAnyH_take (i := 9) (v := .slice ad n cp) rfl (by decide +kernel) (by decide +kernel) (by decide +kernel) (fun _ _ _ h => h) (.inl ⟨by first | rfl | (go_simp; done), fun X hX => by obtain ⟨hx0, hx1, hx2⟩ := hX; first | (go_simp; done) | (go_simp; rfl)⟩) hS ?_)
  (refine wpAnyH_take (i := 10) (v := .int .i64 (n : Int)) rfl (by decide +kernel) (by decide +kernel) (by decide +kernel) (fun _ _ _ h => h) (.inl ⟨by first | rfl | (go_simp; done), fun X hX => by obtain ⟨hx0, hx1, hx2⟩ := hX; first | (go_simp; done) | (go_simp; rfl)⟩) hS ?_)
  obtain ⟨X1, k1, k2, k3⟩ := HT2.out.map.new (by have := HL.out; omega) HX.out HNO.out (k := n) (by have := HL.out; omega)
  have HP3 := Lib.hid ((k3.grown.block p (Array.getElem?_eq_some_iff.1 HP2.out).1 (by intro e; injection e with e; exact HPQ.out.2.1 e)).trans HP2.out)
  have HT3 := Lib.hid (HT2.out.turned k3 k2)
  have HF3 := Lib.hid (HF2.out.trans (mapT_fr (Q := Q) (v := .slice ad n cp) k3) (RowN.refl _ _))
  have hS1 : X1.cell? ⟨Q, 0, none⟩ = some (.slice ad n cp) ∧ X1.cell? ⟨Q, 1, none⟩ = some (.map (some m)) ∧ X1.cell? ⟨p, 1, none⟩ = some (.int .i64 x2) := ⟨cell_of_block (o := 0) HT3.out.blk rfl, cell_of_block (o := 1) HT3.out.blk rfl, cell_of_block (o := 1) HP3.out rfl⟩
  refine anyH_store (i := 11) (w' := X1) (by decide +kernel) rfl rfl (exec_mapUpdateT 58 _ _ _ rfl (by go_simp) (by go_simp) (by go_simp) k1) hS1 ?_
  clear k1 k2 k3 hS hS1 HT2 HP2 HF2
  refine wpAnyH_done (by decide +kernel) ?_ _
  go_simp
  go_upto_region 3 with fail
  refine Ap.wp_region_K (S1 := fun X => X.cell? ⟨p, 0, none⟩ = some (.int .i64 x1) ∧ X.cell? ⟨p, 1, none⟩ = some (.int .i64 x2)) (S2 := fun X => X.cell? ⟨Q, 0, none⟩ = some (.slice ad n cp)) (js := 10) hmx ?_
  change Ap.wpAnyK _ _ _ _ _ _ _ 11 _ _ X1.drew
  have HD := Lib.hid (show Below X1.heap.size X1 X1.drew from (Below.refl _ _).drew)
  have HT4 := Lib.hid (HT3.out.below HD.out)
  have HP4 := Lib.hid ((HD.out.block p (Array.getElem?_eq_some_iff.1 HP3.out).1).trans HP3.out)
  have HF4 := Lib.hid (HF3.out.trans (FrT.of_below (Q := Q) (m := m) (v := .slice ad n cp) HD.out) (RowN.refl _ _))
  clear HD HT3 HP3 HF3
  generalize X1.drew = X2 at *
  have hSS : (X2.cell? ⟨p, 0, none⟩ = some (.int .i64 x1) ∧ X2.cell? ⟨p, 1, none⟩ = some (.int .i64 x2)) ∧ X2.cell? ⟨Q, 0, none⟩ = some (.slice ad n cp) := ⟨⟨cell_of_block (o := 0) HP4.out rfl, cell_of_block (o := 1) HP4.out rfl⟩, cell_of_block (o := 0) HT4.out.blk rfl⟩
  refine Ap.wpAnyK_take1 (i := 0) (v := .pointer (some ⟨Q, 0, none⟩)) rfl (by decide +kernel) (by decide +kernel) (by decide +kernel) (by decide +kernel) (fun _ _ _ h => h) (.inl ⟨by first | rfl | (go_simp; done), fun X hX => by obtain ⟨hX1, hX2⟩ := hX; first | (go_simp; done) | (go_simp; rfl)⟩) hSS ?_
  refine Ap.wpAnyK_take1 (i := 1) (v := .pointer (some ⟨Q, 0, none⟩)) rfl (by decide +kernel) (by decide +kernel) (by decide +kernel) (by decide +kernel) (fun _ _ _ h => h) (.inl ⟨by first | rfl | (go_simp; done), fun X hX => by obtain ⟨hX1, hX2⟩ := hX; first | (go_simp; done) | (go_simp; rfl)⟩) hSS ?_
  refine Ap.wpAnyK_take1 (i := 2) (v := .pointer (some ⟨Q, 0, none⟩)) rfl (by decide +kernel) (by decide +kernel) (by decide +kernel) (by decide +kernel) (fun _ _ _ h => h) (.inl ⟨by first | rfl | (go_simp; done), fun X hX => by obtain ⟨hX1, hX2⟩ := hX; first | (go_simp; done) | (go_simp; rfl)⟩) hSS ?_
  refine Ap.wpAnyK_take1 (i := 3) (v := .pointer (some ⟨Q, 0, none⟩)) rfl (by decide +kernel) (by decide +kernel) (by decide +kernel) (by decide +kernel) (fun _ _ _ h => h) (.inl ⟨by first | rfl | (go_simp; done), fun X hX => by obtain ⟨hX1, hX2⟩ := hX; first | (go_simp; done) | (go_simp; rfl)⟩) hSS ?_
  refine Ap.wpAnyK_take2 (i := 4) (v := .slice ad n cp) rfl (by decide +kernel) (by decide +kernel) (by decide +kernel) (by decide +kernel) rfl (by decide +kernel) (by decide +kernel) (fun _ _ _ h => h) (.inl ⟨by first | rfl | (go_simp; done), fun X hX => by obtain ⟨hX1, hX2⟩ := hX; first | (go_simp; done) | (go_simp; rfl)⟩) hSS ?_
  refine Ap.wpAnyK_take1 (i := 5) (v := .agg #[.int .i64 x1, .int .i64 x2]) rfl (by decide +kernel) (by decide +kernel) (by decide +kernel) (by decide +kernel) (fun _ _ _ h => h) (.inl ⟨by first | rfl | (go_simp; done), fun X hX => by obtain ⟨hX1, hX2⟩ := hX; first | (go_simp; done) | (go_simp; rfl)⟩) hSS ?_
  have ba := below_alloc (Below.refl _ X2) (.cells #[.int .i64 x1, .int .i64 x2] 42)
  have HT5 := Lib.hid (HT4.out.below ba)
  have HP5 := Lib.hid ((ba.block p (Array.getElem?_eq_some_iff.1 HP4.out).1).trans HP4.out)
  have HF5 := Lib.hid (HF4.out.trans (FrT.of_below (Q := Q) (m := m) (v := .slice ad n cp) ba) (RowN.refl _ _))
  have hS5 : ((X2.alloc (.cells #[.int .i64 x1, .int .i64 x2] 42)).cell? ⟨p, 0, none⟩ = some (.int .i64 x1) ∧ (X2.alloc (.cells #[.int .i64 x1, .int .i64 x2] 42)).cell? ⟨p, 1, none⟩ = some (.int .i64 x2)) ∧ (X2.alloc (.cells #[.int .i64 x1, .int .i64 x2] 42)).cell? ⟨Q, 0, none⟩ = some (.slice ad n cp) := ⟨⟨cell_of_block (o := 0) HP5.out rfl, cell_of_block (o := 1) HP5.out rfl⟩, cell_of_block (o := 0) HT5.out.blk rfl⟩
  refine Ap.anyK_val1 (i := 6) (v := .slice (some ⟨X2.heap.size, 0, none⟩) 1 1) (w' := X2.alloc (.cells #[.int .i64 x1, .int .i64 x2] 42)) (by decide +kernel) rfl rfl (by first | (go_simp; done) | (go_simp; rfl)) hS5 ?_
  have hro : X2.ownsRow 0 42 2 (.slice ad n cp) n (flA A) := by have := HT4.out.row; unfold RowA at this; rw [← HN.out] at this; exact this
  obtain ⟨v', X3, g0, g1, g2, g3, g4, g5⟩ := app_oneT eltAT 39 hro [.int .i64 x1, .int .i64 x2] rfl (by intro u hu; simp at hu; rcases hu with rfl | rfl <;> rfl) (by have := HL.out; omega) (by decide) (Nat.zero_le _)
  have hform : ∃ a c, v' = .slice a (n + 1) c := by
    rcases g1.2 with ⟨_, h0⟩ | ⟨g, cap, cur, hv, _⟩
    · omega
    · exact ⟨_, _, hv⟩
  obtain ⟨a2, c2, rfl⟩ := hform
  have HG1 := Lib.hid g1
  have hsz := HF4.out.size
  have hQ3 := (g2 Q HT4.out.lt (fun e => (HT4.out.rne e).1 rfl)).trans HT4.out.blk
  have hp3 := (g2 p (Array.getElem?_eq_some_iff.1 HP4.out).1 (fun e => HPQ.out.2.2 p e rfl)).trans HP4.out
  have HM3 := Lib.hid (HT4.out.map.keep (g2 m HT4.out.map.mlt (fun e => (HT4.out.rne e).2.1 rfl)))
  have HF6 := Lib.hid (show FrT Q m (.slice ad n cp) w X3 from HF4.out.trans ⟨g5.os, g5.tape, g5.output, g3, fun j hj _ _ hv => g2 j hj hv⟩ (RowN.refl _ _))
  have HRN := Lib.hid (show RowN w (.slice ad n cp) (.slice a2 (n + 1) c2) from fun b hb => by
    rcases g4 b hb with h1 | h1
    · exact .inl h1
    · exact .inr (Nat.le_trans hsz h1))
  have HRQ := Lib.hid (show ∀ b, (Value.slice a2 (n + 1) c2).ownBlock = some b → b ≠ Q from fun b hb e => by
    subst e
    rcases g4 b hb with h1 | h1
    · exact (HT4.out.rne h1).1 rfl
    · have := HT4.out.lt; omega)
  have hS6 : (X3.cell? ⟨p, 0, none⟩ = some (.int .i64 x1) ∧ X3.cell? ⟨p, 1, none⟩ = some (.int .i64 x2)) ∧ X3.cell? ⟨Q, 0, none⟩ = some (.slice ad n cp) := ⟨⟨cell_of_block (o := 0) hp3 rfl, cell_of_block (o := 1) hp3 rfl⟩, cell_of_block (o := 0) hQ3 rfl⟩
  refine Ap.anyK_val1 (i := 7) (v := .slice a2 (n + 1) c2) (w' := X3) (by decide +kernel) rfl rfl (Ap.exec_app rfl (by go_simp) (by go_simp) g0) hS6 ?_
  refine Ap.anyK_val1 (i := 8) (v := .pointer (some ⟨Q, 0, none⟩)) (w' := X3) (by decide +kernel) rfl rfl (by first | (go_simp; done) | (go_simp; rfl)) hS6 ?_
  refine Ap.anyK_val1 (i := 9) (v := .pointer (some ⟨Q, 0, none⟩)) (w' := X3) (by decide +kernel) rfl rfl (by first | (go_simp; done) | (go_simp; rfl)) hS6 ?_
  have z0 : X3.cell? ⟨Q, 0, none⟩ = some (.slice ad n cp) := cell_of_block (o := 0) hQ3 rfl
  have f0 := free_of_block 0 hQ3
  have hw := (wrote_refl hQ3).set 0 (.slice a2 (n + 1) c2)
  have hS7 : (X3.setCell ⟨Q, 0, none⟩ (.slice a2 (n + 1) c2)).cell? ⟨p, 0, none⟩ = some (.int .i64 x1) ∧ (X3.setCell ⟨Q, 0, none⟩ (.slice a2 (n + 1) c2)).cell? ⟨p, 1, none⟩ = some (.int .i64 x2) := by
    have hp4 := (hw.rest p HPQ.out.1).trans hp3
    exact ⟨cell_of_block (o := 0) hp4 rfl, cell_of_block (o := 1) hp4 rfl⟩
  refine Ap.anyK_store (i := 10) (w' := X3.setCell ⟨Q, 0, none⟩ (.slice a2 (n + 1) c2)) (by decide +kernel) rfl rfl (by decide +kernel) (by first | (go_simp; done) | (go_simp; rfl)) hS7 ?_
  have HT7 := Lib.hid (show Tq (X3.setCell ⟨Q, 0, none⟩ (.slice a2 (n + 1) c2)) Q m (.slice a2 (n + 1) c2) (A ++ [(x1, x2)]) (updP pm x2 n) (n + 1) from
    ⟨hw.there, Ap.own_keep (RowA.grow (x := (x1, x2)) (by rw [← HN.out]; exact HG1.out)) (fun b hb => hw.rest b (HRQ.out b hb)), HM3.out.keep (hw.rest m (fun e => HQM.out e.symm))⟩)
  have HF7 := Lib.hid (show FrT Q m (.slice ad n cp) w (X3.setCell ⟨Q, 0, none⟩ (.slice a2 (n + 1) c2)) from HF6.out.trans ⟨hw.os, hw.tape, hw.output, Nat.le_of_eq hw.size.symm, fun j _ hj _ _ => hw.rest j hj⟩ (RowN.refl _ _))
  clear z0 f0 hw hS7 hS6 hp3 hQ3 g0 g1 g2 g3 g4 g5 hro hSS hS5 ba HT4 HP4 HF4 HT5 HP5 HF5 HF6 HM3 hsz
  refine Ap.wpAnyK_done (by decide +kernel) ?_ _
  go_simp
  go_wp2_with fail
  go_end0
  exact ⟨rfl, _, HT7.out, HF7.out, HRN.out⟩
set_option maxRecDepth 100000 in
set_option maxHeartbeats 4000000 in
theorem qpop {w : World} {Q m : Nat} {v : Value} {A : List AL} {pm : Int → Option Nat} {k : Nat} (h : Tq w Q m v A pm (k + 1)) (hk : A.length = k + 1) (hk9 : k < 100000) (hi : i64T (gA A k).2) (hp : pm (gA A k).2 = some k) :
    Calls Try.prog 49 #[.pointer (some ⟨Q, 0, none⟩)] w fun e w' => e = .returned (.iface 42 (.agg #[.int .i64 (gA A k).1, .int .i64 (gA A k).2])) ∧ ∃ v', Tq w' Q m v' (A.take k) (eraP pm (gA A k).2) k ∧ FrT Q m v w w' ∧ RowN w v v' := by
  have hmx : Try.prog.follows .mixedOrders = true := by kernel_rfl
  obtain ⟨g, cap, cur, rfl, hg, hcp, hm, hs, ht⟩ := h.row.pos (by omega)
  have y0 := cell_of_block hg (cur_get (k := k) (by omega) ht).1
  have y1 := cell_of_block hg (cur_get (k := k) (by omega) ht).2
  have HI := Lib.hid hi
  have HPM := Lib.hid hp
  have HGQ := Lib.hid (h.rne (g := g) rfl)
  have HQM := Lib.hid h.ne
  have HROW := Lib.hid (show ∀ w' : World, w'.heap[g]? = w.heap[g]? → RowA w' (.slice (some ⟨g, 0, none⟩) k cap) (A.take k) from fun w' hw => by
    have hl : (A.take k).length = k := by rw [List.length_take]; omega
    refine ⟨by rw [flA_len], .inr ⟨g, cap, cur, by rw [hl], Nat.zero_le _, hw.trans hg, by omega, hm, hs, ?_⟩⟩
    rw [hl, flA_take, ← ht, List.take_take, Nat.min_eq_left (by omega)])
  have q0 : w.cell? ⟨Q, 0, none⟩ = some (.slice (some ⟨g, 0, none⟩) (k + 1) cap) := by rw [← hk]; exact cell_of_block (o := 0) h.blk rfl
  have f0 : w.frozen? ⟨Q, 0, none⟩ = false := free_of_block 0 h.blk
  rw [hk] at hcp h ⊢
  obtain ⟨x, hx⟩ : ∃ x, x = gA A k := ⟨_, rfl⟩
  rw [← hx] at y0 y1 HI HPM ⊢
  have HXA := Lib.hid hx
  clear hx
  obtain ⟨x1, x2⟩ := x
  dsimp only at y0 y1 HI HPM ⊢
  have HT := Lib.hid h
  have HGS := Lib.hid (show g < w.heap.size from h.rne (g := g) rfl |>.2.2)
  have hw1 : IntKind.i64.wrap ((k : Int) + 1 - 1) = (k : Int) := by rw [IntKind.wrap_i64]; omega
  have hkI : (k : Int) < (k : Int) + 1 := by omega
  have hc1 : (k : Int) ≤ (cap : Int) := by omega
  have hc2 : k ≤ cap := by omega
  have hz1 : (0 : Int) ≤ (k : Int) := by omega
  clear h hg hs ht hi hp hcp hm
  go_enter Try.func49, Try.ntmps49
  have ba := below_alloc (Below.refl _ w) (.cells #[.int .i64 x1, .int .i64 x2] 42)
  have HP := Lib.hid (World.alloc_heap_new w (.cells #[.int .i64 x1, .int .i64 x2] 42))
  have HT1 := Lib.hid (HT.out.below ba)
  have HF1 := Lib.hid (show FrT Q m (.slice (some ⟨g, 0, none⟩) (k + 1) cap) w _ from FrT.of_below ba)
  have HG1 := Lib.hid (ba.block g HGS.out)
  have HPQ := Lib.hid (show w.heap.size ≠ Q ∧ w.heap.size ≠ m from by have := HT.out.lt; have := HT.out.map.mlt; omega)
  clear ba
  go_upto_region 3 with fail
  clear q0 f0 y0 y1
  generalize w.alloc (.cells #[.int .i64 x1, .int .i64 x2] 42) = W1 at *
  obtain ⟨p, hp⟩ : ∃ p, p = w.heap.size := ⟨_, rfl⟩
  rw [← hp] at HP HPQ ⊢
  clear hp
  have q0 : W1.cell? ⟨Q, 0, none⟩ = some (.slice (some ⟨g, 0, none⟩) (k + 1) cap) := cell_of_block (o := 0) HT1.out.blk rfl
  have f0 : W1.frozen? ⟨Q, 0, none⟩ = false := free_of_block 0 HT1.out.blk
  have hw := (wrote_refl HT1.out.blk).set 0 (.slice (some ⟨g, 0, none⟩) k cap)
  have HT2 := Lib.hid (show Tq (W1.setCell ⟨Q, 0, none⟩ (.slice (some ⟨g, 0, none⟩) k cap)) Q m (.slice (some ⟨g, 0, none⟩) k cap) (A.take k) pm (k + 1) from
    ⟨hw.there, HROW.out _ ((hw.rest g HGQ.out.1).trans HG1.out), HT1.out.map.keep (hw.rest m (fun e => HQM.out e.symm))⟩)
  have HF2 := Lib.hid (show FrT Q m (.slice (some ⟨g, 0, none⟩) (k + 1) cap) w (W1.setCell ⟨Q, 0, none⟩ (.slice (some ⟨g, 0, none⟩) k cap)) from HF1.out.trans ⟨hw.os, hw.tape, hw.output, Nat.le_of_eq hw.size.symm, fun j _ hj _ _ => hw.rest j hj⟩ (RowN.refl _ _))
  have HP2 := Lib.hid ((hw.rest p HPQ.out.1).trans HP.out)
  clear hw
  go_upto_region 4 with fail
  clear q0 f0 HT1 HF1 HP HG1
  generalize W1.setCell ⟨Q, 0, none⟩ (.slice (some ⟨g, 0, none⟩) k cap) = W2 at *
  refine wp_region_held (S := fun X => X.cell? ⟨Q, 1, none⟩ = some (.map (some m)) ∧ X.cell? ⟨p, 1, none⟩ = some (.int .i64 x2)) hmx ?_
  change wpAnyH _ _ _ _ _ 7 _ _ W2.drew
  have HD := Lib.hid (show Below W2.heap.size W2 W2.drew from (Below.refl _ _).drew)
  have HT3 := Lib.hid (HT2.out.below HD.out)
  have HP3 := Lib.hid ((HD.out.block p (Array.getElem?_eq_some_iff.1 HP2.out).1).trans HP2.out)
  have HF3 := Lib.hid (HF2.out.trans (FrT.of_below (Q := Q) (m := m) (v := .slice (some ⟨g, 0, none⟩) (k + 1) cap) HD.out) (RowN.refl _ _))
  clear HD HT2 HP2 HF2
  generalize W2.drew = X0 at *
  have hS : X0.cell? ⟨Q, 1, none⟩ = some (.map (some m)) ∧ X0.cell? ⟨p, 1, none⟩ = some (.int .i64 x2) := ⟨cell_of_block (o := 1) HT3.out.blk rfl, cell_of_block (o := 1) HP3.out rfl⟩
  (refine wpAnyH_take (i := 0) (v := .pointer (some ⟨Q, 0, none⟩)) rfl (by decide +kernel) (by decide +kernel) (by decide +kernel) (fun _ _ _ h => h) (.inl ⟨by first | rfl | (go_simp; done), fun X hX => by obtain ⟨hx0, hx1⟩ := hX; first | (go_simp; done) | (go_simp; rfl)⟩) hS ?_)
  (refine wpAnyH_take (i := 1) (v := .pointer (some ⟨Q, 0, none⟩)) rfl (by decide +kernel) (by decide +kernel) (by decide +kernel) (fun _ _ _ h => h) (.inl ⟨by first | rfl | (go_simp; done), fun X hX => by obtain ⟨hx0, hx1⟩ := hX; first | (go_simp; done) | (go_simp; rfl)⟩) hS ?_)
  (refine wpAnyH_take (i := 2) (v := .pointer (some ⟨Q, 1, none⟩)) rfl (by decide +kernel) (by decide +kernel) (by decide +kernel) (fun _ _ _ h => h) (.inl ⟨by first | rfl | (go_simp; done), fun X hX => by obtain ⟨hx0, hx1⟩ := hX; first | (go_simp; done) | (go_simp; rfl)⟩) hS ?_)
  (refine wpAnyH_take (i := 3) (v := .map (some m)) rfl (by decide +kernel) (by decide +kernel) (by decide +kernel) (fun _ _ _ h => h) (.inl ⟨by first | rfl | (go_simp; done), fun X hX => by obtain ⟨hx0, hx1⟩ := hX; first | (go_simp; done) | (go_simp; rfl)⟩) hS ?_)
  (refine wpAnyH_take (i := 4) (v := .pointer (some ⟨p, 1, none⟩)) rfl (by decide +kernel) (by decide +kernel) (by decide +kernel) (fun _ _ _ h => h) (.inl ⟨by first | rfl | (go_simp; done), fun X hX => by obtain ⟨hx0, hx1⟩ := hX; first | (go_simp; done) | (go_simp; rfl)⟩) hS ?_)
  (refine wpAnyH_take (i := 5) (v := .int .i64 x2) rfl (by decide +kernel) (by decide +kernel) (by decide +kernel) (fun _ _ _ h => h) (.inl ⟨by first | rfl | (go_simp; done), fun X hX => by obtain ⟨hx0, hx1⟩ := hX; first | (go_simp; done) | (go_simp; rfl)⟩) hS ?_)
  obtain ⟨X1, k1, k2, k3⟩ := HT3.out.map.del HI.out HPM.out 0
  have HP4 := Lib.hid ((k3.grown.block p (Array.getElem?_eq_some_iff.1 HP3.out).1 (by intro e; injection e with e; exact HPQ.out.2 e)).trans HP3.out)
  have HT4 := Lib.hid (HT3.out.turned k3 k2)
  have HF4 := Lib.hid (HF3.out.trans (mapT_fr (Q := Q) (v := .slice (some ⟨g, 0, none⟩) (k + 1) cap) k3) (RowN.refl _ _))
  have hS1 : X1.cell? ⟨Q, 1, none⟩ = some (.map (some m)) ∧ X1.cell? ⟨p, 1, none⟩ = some (.int .i64 x2) := ⟨cell_of_block (o := 1) HT4.out.blk rfl, cell_of_block (o := 1) HP4.out rfl⟩
  refine anyH_one (i := 6) (by decide +kernel) ?_
  refine opH_val (i := 6) (v := .tuple #[]) (w' := X1) rfl (by first | rfl | (go_simp; done)) (exec_deleteT rfl (by go_simp) (by go_simp) k1) ?_
  refine ⟨hS1, ?_⟩
  clear k1 k2 k3 hS hS1 HT3 HP3 HF3
  refine wpAnyH_done (by decide +kernel) ?_ _
  go_simp
  have p0 : X1.cell? ⟨p, 0, none⟩ = some (.int .i64 x1) := cell_of_block (o := 0) HP4.out rfl
  have p1 : X1.cell? ⟨p, 1, none⟩ = some (.int .i64 x2) := cell_of_block (o := 1) HP4.out rfl
  go_wp2_with fail
  go_ret
  exact ⟨rfl, _, HT4.out, HF4.out, fun b hb => .inl hb⟩
end Go.Proofs.Ytfakejfpicjedaa
