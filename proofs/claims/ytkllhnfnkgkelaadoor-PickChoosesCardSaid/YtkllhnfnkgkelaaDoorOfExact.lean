/- The reference's Of (layer 7), to the sign: which row, and which world. No condition. -/
import Derived.Test.YtkllhnfnkgkelaaDoorBitsRef
namespace Go.Proofs.YtkllhnfnkgkelaaDoor
set_option linter.unusedVariables false
open Go.ChangeShapes Go.WideShapes Go.ChangeAt Go.RowKit
attribute [local go_sem ↓] Go.wp_at_zero Go.wp_at_succ

/-- one more round -/
noncomputable def ofStep (s : NSet) (k : Nat) (p : Value × World) : Value × World :=
  if s.getLsbD k = true then
    match (Builtin.append_ #[25, 25] 25 #[p.1, .slice (some ⟨p.2.heap.size, 0, none⟩) 1 1]).run Tryd.prog (p.2.alloc (.cells #[.int .i64 k] 3)) with
    | .ok v w' => (v, w')
    | _ => p
  else p
noncomputable def ofRes (s : NSet) (w : World) : Nat → Value × World
  | 0 => (.slice none 0 0, w)
  | k + 1 => ofStep s k (ofRes s w k)
theorem append_ty (ts : Array TypeId) (ty ty' : TypeId) (args : Array Value) : Builtin.append_ ts ty args = Builtin.append_ ts ty' args := rfl
theorem one_reads (w : World) (n : Int) : ReadsI (w.alloc (.cells #[.int .i64 n] 3)) (.slice (some ⟨w.heap.size, 0, none⟩) 1 1) [n] :=
  .inr ⟨by simp, by simp, w.heap.size, 0, 1, rfl, by simp, fun k hk => by
    simp at hk
    subst hk
    have h0 := World.alloc_heap_new w (.cells #[.int .i64 n] 3)
    simp only [World.cell?, h0]
    simp⟩
theorem ofRes_own (s : NSet) (w : World) : ∀ k, k ≤ 64 → OwnI (ofRes s w k).2 w.heap.size (ofRes s w k).1 (upto (fun i => s.getLsbD i) k) ∧ Below w.heap.size w (ofRes s w k).2
  | 0, _ => ⟨OwnI.nil, Below.refl _ _⟩
  | k + 1, hk => by
    obtain ⟨h1, h2⟩ := ofRes_own s w k (by omega)
    show OwnI (ofStep s k (ofRes s w k)).2 _ (ofStep s k (ofRes s w k)).1 _ ∧ _
    cases hb : s.getLsbD k with
    | false =>
      have e : ofRes s w (k + 1) = ofRes s w k := by show ofStep s k (ofRes s w k) = _; unfold ofStep; rw [if_neg (by rw [hb]; decide)]
      rw [show ofStep s k (ofRes s w k) = ofRes s w k from e, e, upto_no (p := fun i => s.getLsbD i) hb]
      exact ⟨h1, h2⟩
    | true =>
      have hl := upto_length (fun i => s.getLsbD i) k
      have h1' := h1.below (below_alloc (Below.refl _ (ofRes s w k).2) (.cells #[.int .i64 k] 3))
      obtain ⟨v', w', hrun, a1, a2⟩ := run_append_read (w := (ofRes s w k).2.alloc (.cells #[.int .i64 k] 3)) 25 25 25 Tryd.underlying25 Tryd.underlying25 w.heap.size _ _ h1' _ [(k : Int)] (one_reads _ _) (by simp; omega) (by simp; have := h2.size; omega)
      have e : ofRes s w (k + 1) = (v', w') := by show ofStep s k (ofRes s w k) = _; unfold ofStep; rw [if_pos hb]; simp only [hrun]
      rw [show ofStep s k (ofRes s w k) = (v', w') from e, e, upto_yes (p := fun i => s.getLsbD i) hb]
      exact ⟨a1, h2.trans ((Below.alloc (Below.refl _ _) h2.size _).trans a2)⟩
/-- what Of hands back, and the world behind it -/
noncomputable def ofV (s : NSet) (w : World) : Value := (ofRes s w 64).1
noncomputable def ofW (s : NSet) (w : World) : World := (ofRes s w 64).2
theorem of_own (s : NSet) (w : World) : OwnI (ofW s w) w.heap.size (ofV s w) (nodes s) ∧ Below w.heap.size w (ofW s w) := by
  have := ofRes_own s w 64 (Nat.le_refl _)
  rw [upto_nodes] at this
  exact this
section
variable {ops : Array Oper} {rest : List Oper} {o : Oper} {a : Act} {w : World} {Q : Exit → Act → World → Prop}
theorem wpList_append_run (T T2 : TypeId) (hgd : o.guard = none) (s x : Operand) (ho : o.op = .call { callee := .builtin .append, args := #[s, x], argTypes := #[T, T2] })
    (vs vx : Value) (hs : a.eval s = vs) (hx : a.eval x = vx) (v' : Value) (w' : World) (hrun : (Builtin.append_ #[T, T2] o.type #[vs, vx]).run Tryd.prog w = .ok v' w')
    (h : wpList Tryd.prog ops Q rest (a.put o.dst v') w') : wpList Tryd.prog ops Q (o :: rest) a w := by
  refine wpList_plain hgd fun K hK => ?_
  unfold Oper.wp execOp
  simp only [ho, resolve, invoke, builtin, Sem.run_bind, Sem.run_pure, Result.andThen_ok, List.map_toArray, List.map_cons, List.map_nil, hs, hx, hrun]
  exact hK _ _ h
end
set_option maxRecDepth 100000 in
theorem rof_exact (s : NSet) (w : World) : Calls Tryd.prog 11 #[.int .u64 (nv s)] w fun e w' => e = .returned (ofV s w) ∧ w' = ofW s w := by
  go_enter Tryd.func11, Tryd.ntmps11
  go_wp2
  go_loopw [0, 3, 4] (fun x l i wr => ∃ (k : Nat), k ≤ 64 ∧ i = .int .i64 k ∧ x = .int .u64 ((s.toNat / 2 ^ k : Nat) : Int) ∧ l = (ofRes s w k).1 ∧ wr = (ofRes s w k).2) (fun _ _ i _ => 64 - (intOf i).toNat)
  case atStart => exact ⟨0, by omega, rfl, by simp [nv], rfl, rfl⟩
  case round =>
    obtain ⟨k, hk, rfl, rfl, rfl, rfl⟩ := hrel
    obtain ⟨h1, h2⟩ := ofRes_own s w k hk
    have hlen := upto_length (fun i => s.getLsbD i) k
    by_cases hlt : k < 64
    · have hb := bit_at s k
      have e2 : s.toNat / 2 ^ k / 2 = s.toNat / 2 ^ (k + 1) := by rw [Nat.div_div_eq_div_mul, Nat.pow_succ]
      have hX : ((s.toNat / 2 ^ (k + 1) : Nat) : Int) = ((s.toNat / 2 ^ k : Nat) : Int) / 2 := by rw [← e2]; generalize s.toNat / 2 ^ k = y; omega
      have hm : ((s.toNat / 2 ^ k % 2 : Nat) : Int) = ((s.toNat / 2 ^ k : Nat) : Int) % 2 := by generalize s.toNat / 2 ^ k = y; omega
      rw [hm] at hb
      have HX := Lib.hid hX
      clear hX hm e2
      have hx0 : 0 ≤ ((s.toNat / 2 ^ k : Nat) : Int) := Int.natCast_nonneg _
      have hx1 : ((s.toNat / 2 ^ k : Nat) : Int) ≤ 18446744073709551615 := by have h1 := s.isLt; have h2 := Nat.div_le_self s.toNat (2 ^ k); generalize s.toNat / 2 ^ k = y at *; omega
      generalize ((s.toNat / 2 ^ k : Nat) : Int) = X at *
      cases hbit : s.getLsbD k with
      | true =>
        rw [hbit, if_pos rfl] at hb
        have hb' : (X % 2 == 1) = true := by rw [hb]; rfl
        have h1' := h1.below (below_alloc (Below.refl _ (ofRes s w k).2) (.cells #[.int .i64 k] 3))
        obtain ⟨v', w', hrun, a1, a2⟩ := run_append_read (w := (ofRes s w k).2.alloc (.cells #[.int .i64 k] 3)) 25 25 25 Tryd.underlying25 Tryd.underlying25 w.heap.size _ _ h1' _ [(k : Int)] (one_reads _ _) (by simp; omega) (by simp; have := h2.size; omega)
        have HE := Lib.hid (show ofRes s w (k + 1) = (v', w') by show ofStep s k (ofRes s w k) = _; unfold ofStep; rw [if_pos hbit]; simp only [hrun])
        have HR := Lib.hid hrun
        clear hb hbit hrun h1 h2 h1' a1 a2
        generalize (ofRes s w k).1 = v at *
        generalize (ofRes s w k).2 = wr at *
        go_wp2_with (at_builtin; refine wpList_append_run 25 25 rfl _ _ rfl v (.slice (some ⟨wr.heap.size, 0, none⟩) 1 1) rfl rfl v' w' HR.out ?_)
        go_roundw
        case rel => exact ⟨k + 1, by omega, by go_num, by rw [HX.out], by rw [HE.out], by rw [HE.out]⟩
        case measure => simp [intOf]; omega
      | false =>
        rw [hbit, if_neg (by decide)] at hb
        have hb' : (X % 2 == 1) = false := by rw [hb]; rfl
        have HE := Lib.hid (show ofRes s w (k + 1) = ofRes s w k by show ofStep s k (ofRes s w k) = _; unfold ofStep; rw [if_neg (by rw [hbit]; decide)])
        clear hb hbit h1 h2
        generalize hv : (ofRes s w k).1 = v at *
        generalize hw : (ofRes s w k).2 = wr at *
        have HV := Lib.hid hv
        have HW := Lib.hid hw
        clear hv hw
        go_wp2
        go_roundw
        case rel => exact ⟨k + 1, by omega, by go_num, by rw [HX.out], by rw [HE.out, HV.out], by rw [HE.out, HW.out]⟩
        case measure => simp [intOf]; omega
    · obtain rfl : k = 64 := by omega
      clear h1 h2
      generalize hv : (ofRes s w 64).1 = v at *
      generalize hw : (ofRes s w 64).2 = wr at *
      have HV := Lib.hid hv
      have HW := Lib.hid hw
      clear hv hw
      go_wp2
      go_ret
      exact ⟨by unfold ofV; rw [HV.out]; rfl, by unfold ofW; rw [HW.out]⟩
end Go.Proofs.YtkllhnfnkgkelaaDoor
