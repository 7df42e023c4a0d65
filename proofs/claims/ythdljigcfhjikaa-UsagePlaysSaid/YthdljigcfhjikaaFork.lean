/- A region's operations behind a guard that is not decided: the way with them and the way without them meet again. No condition. -/
import Derived.Test.YthdljigcfhjikaaMidW
namespace Go.Proofs.Ythdljigcfhjikaa
set_option linter.unusedVariables false
open Go Go.RowKit
def forkPuts (a : Act) : List (Option Tmp) → List Value → Act
  | d :: ds, v :: vs => forkPuts (a.put d v) ds vs
  | _, _ => a
theorem yielded_put {ops : Array Oper} {a : Act} {d : Option Tmp} {v : Value} {j : Nat} (h : d ≠ (ops[j]?).bind (·.dst)) : yielded ops (a.put d v).tmps j = yielded ops a.tmps j := by
  unfold yielded
  cases d with
  | none => rfl
  | some d =>
    cases h2 : (ops[j]?).bind (·.dst) with
    | none => rfl
    | some e =>
      rw [h2] at h
      have hne : d ≠ e := fun hh => h (by rw [hh])
      simp only [Act.put, Option.bind_some]
      rw [Array.getElem?_setIfInBounds_ne hne]
section
variable {P : Program} {ops : Array Oper} {Q : Exit → Act → World → Prop}
theorem wpList_over (j : Nat) (g : Bool) (rest : List Oper) (w : World) : ∀ (body : List Oper) (a : Act), yielded ops a.tmps j = some (!g) → body.all (fun o => o.guard == some (j, g)) = true → body.all (fun o => o.dst != (ops[j]?).bind (·.dst)) = true →
    wpList P ops Q rest (forkPuts a (body.map (·.dst)) (body.map fun _ => undef)) w → wpList P ops Q (body ++ rest) a w
  | [], a, _, _, _, h => h
  | o :: body, a, hy, hg, hd, h => by
    simp only [List.all_cons, Bool.and_eq_true, beq_iff_eq, bne_iff_ne, ne_eq] at hg hd
    refine wpList_skip (by simp only [Region.wanted, hg.1, hy]; cases g <;> rfl) ?_
    exact wpList_over j g rest w body _ (by rw [yielded_put hd.1]; exact hy) hg.2 hd.2 h
theorem wpList_fork (j : Nat) (g b : Bool) (body rest : List Oper) (a : Act) (w : World) (R : List Value → Prop) (hy : yielded ops a.tmps j = some b) (hg : body.all (fun o => o.guard == some (j, g)) = true) (hd : body.all (fun o => o.dst != (ops[j]?).bind (·.dst)) = true)
    (hrun : b = g → (∀ us : List Value, us.length = body.length → R us → wpList P ops Q rest (forkPuts a (body.map (·.dst)) us) w) → wpList P ops Q (body ++ rest) a w)
    (hrest : ∀ us : List Value, us.length = body.length → (b = g → R us) → wpList P ops Q rest (forkPuts a (body.map (·.dst)) us) w) : wpList P ops Q (body ++ rest) a w := by
  by_cases hb : b = g
  · exact hrun hb fun us hl hR => hrest us hl fun _ => hR
  · exact wpList_over j g rest w body a (by rw [hy]; revert hb; cases b <;> cases g <;> simp) hg hd (hrest _ (by simp) fun h => absurd h hb)
/-- the same as wpList, behind a name that elaboration does not unfold (each 'refine' reduces its goal: under guards that costs twice as much an operation) -/
structure WL (P : Program) (ops : Array Oper) (Q : Exit → Act → World → Prop) (l : List Oper) (a : Act) (w : World) : Prop where
  out : wpList P ops Q l a w
theorem WL.nil {a : Act} {w : World} (h : Q .normal a w) : WL P ops Q [] a w := ⟨wpList_nil h⟩
theorem WL.yield {rest : List Oper} {o : Oper} {a : Act} {w : World} {w' : World} {v : Value} (hgd : o.guard = none) (h : (execOp a.eval o).run P w = .ok (.value v) w') (hr : WL P ops Q rest (a.put o.dst v) w') : WL P ops Q (o :: rest) a w := ⟨wpList_yield hgd h hr.out⟩
theorem WL.yield_w {rest : List Oper} {o : Oper} {a : Act} {w : World} {w' : World} {v : Value} (hw : Region.wanted o (yielded ops a.tmps) = true) (h : (execOp a.eval o).run P w = .ok (.value v) w') (hr : WL P ops Q rest (a.put o.dst v) w') : WL P ops Q (o :: rest) a w := ⟨wpList_yield_w hw h hr.out⟩
theorem WL.skip {rest : List Oper} {o : Oper} {a : Act} {w : World} (hw : Region.wanted o (yielded ops a.tmps) = false) (hr : WL P ops Q rest (a.put o.dst undef) w) : WL P ops Q (o :: rest) a w := ⟨wpList_skip hw hr.out⟩
theorem WL.callq {rest : List Oper} {o : Oper} {a : Act} {w : World} {f : FuncId} {args : Array Value} {v : Value} (hgd : o.guard = none) (h : (execOp a.eval o).run P w = .ok (.enter f args) w) (hc : Calls P f args w fun e w' => e = .returned v ∧ w = w') (hr : WL P ops Q rest (a.put o.dst v) w) : WL P ops Q (o :: rest) a w :=
  ⟨wpList_enter hgd h hc fun e w' ⟨he, hh⟩ => ⟨v, he, hh ▸ hr.out⟩⟩
theorem WL.callq_w {rest : List Oper} {o : Oper} {a : Act} {w : World} {f : FuncId} {args : Array Value} {v : Value} (hw : Region.wanted o (yielded ops a.tmps) = true) (h : (execOp a.eval o).run P w = .ok (.enter f args) w) (hc : Calls P f args w fun e w' => e = .returned v ∧ w = w') (hr : WL P ops Q rest (a.put o.dst v) w) : WL P ops Q (o :: rest) a w :=
  ⟨wpList_enter_w hw h hc fun e w' ⟨he, hh⟩ => ⟨v, he, hh ▸ hr.out⟩⟩
theorem WL.enter {rest : List Oper} {o : Oper} {a : Act} {w : World} {f : FuncId} {args : Array Value} {R : Ending → World → Prop} (hgd : o.guard = none) (h : (execOp a.eval o).run P w = .ok (.enter f args) w) (hc : Calls P f args w R) (hr : ∀ e w', R e w' → ∃ v, e = .returned v ∧ WL P ops Q rest (a.put o.dst v) w') : WL P ops Q (o :: rest) a w :=
  ⟨wpList_enter hgd h hc fun e w' hR => let ⟨v, he, h⟩ := hr e w' hR; ⟨v, he, h.out⟩⟩
theorem WL.enter_w {rest : List Oper} {o : Oper} {a : Act} {w : World} {f : FuncId} {args : Array Value} {R : Ending → World → Prop} (hw : Region.wanted o (yielded ops a.tmps) = true) (h : (execOp a.eval o).run P w = .ok (.enter f args) w) (hc : Calls P f args w R) (hr : ∀ e w', R e w' → ∃ v, e = .returned v ∧ WL P ops Q rest (a.put o.dst v) w') : WL P ops Q (o :: rest) a w :=
  ⟨wpList_enter_w hw h hc fun e w' hR => let ⟨v, he, h⟩ := hr e w' hR; ⟨v, he, h.out⟩⟩
theorem WL.fork (j : Nat) (g b : Bool) (body rest : List Oper) (a : Act) (w : World) (R : List Value → Prop) (hy : yielded ops a.tmps j = some b) (hg : body.all (fun o => o.guard == some (j, g)) = true) (hd : body.all (fun o => o.dst != (ops[j]?).bind (·.dst)) = true)
    (hrun : b = g → (∀ us : List Value, us.length = body.length → R us → WL P ops Q rest (forkPuts a (body.map (·.dst)) us) w) → WL P ops Q (body ++ rest) a w)
    (hrest : ∀ us : List Value, us.length = body.length → (b = g → R us) → WL P ops Q rest (forkPuts a (body.map (·.dst)) us) w) : WL P ops Q (body ++ rest) a w :=
  ⟨wpList_fork j g b body rest a w R hy hg hd (fun hb H => (hrun hb fun us hl hR => ⟨H us hl hR⟩).out) fun us hl h => (hrest us hl h).out⟩
/-- 1 operations behind an undecided guard, the last of which yields a Bool -/
theorem WL.link1 {o1 : Oper} {rest : List Oper} {a : Act} {w : World} (j : Nat) (g b c : Bool) (hy : yielded ops a.tmps j = some b) (hg : [o1].all (fun o => o.guard == some (j, g)) = true) (hd : [o1].all (fun o => o.dst != (ops[j]?).bind (·.dst)) = true)
    (hrun : b = g → (WL P ops Q rest (a.put o1.dst (.bool c)) w) → WL P ops Q (o1 :: rest) a w)
    (hrest : ∀ z, (b = g → z = .bool c) → WL P ops Q rest (a.put o1.dst z) w) : WL P ops Q (o1 :: rest) a w :=
  WL.fork j g b [o1] rest a w (fun us => us[0]? = some (.bool c)) hy hg hd
    (fun hb H => hrun hb (H [.bool c] rfl rfl))
    (fun us hl hR => by
      match us, hl with
      | [z], _ => exact hrest z fun h => by simpa using hR h)
/-- 2 operations behind an undecided guard, the last of which yields a Bool -/
theorem WL.link2 {o1 o2 : Oper} {rest : List Oper} {a : Act} {w : World} (j : Nat) (g b c : Bool) (hy : yielded ops a.tmps j = some b) (hg : [o1, o2].all (fun o => o.guard == some (j, g)) = true) (hd : [o1, o2].all (fun o => o.dst != (ops[j]?).bind (·.dst)) = true)
    (hrun : b = g → (∀ x1, WL P ops Q rest ((a.put o1.dst x1).put o2.dst (.bool c)) w) → WL P ops Q (o1 :: o2 :: rest) a w)
    (hrest : ∀ x1 z, (b = g → z = .bool c) → WL P ops Q rest ((a.put o1.dst x1).put o2.dst z) w) : WL P ops Q (o1 :: o2 :: rest) a w :=
  WL.fork j g b [o1, o2] rest a w (fun us => us[1]? = some (.bool c)) hy hg hd
    (fun hb H => hrun hb fun x1 => H [x1, .bool c] rfl rfl)
    (fun us hl hR => by
      match us, hl with
      | [x1, z], _ => exact hrest x1 z fun h => by simpa using hR h)
/-- 3 operations behind an undecided guard, the last of which yields a Bool -/
theorem WL.link3 {o1 o2 o3 : Oper} {rest : List Oper} {a : Act} {w : World} (j : Nat) (g b c : Bool) (hy : yielded ops a.tmps j = some b) (hg : [o1, o2, o3].all (fun o => o.guard == some (j, g)) = true) (hd : [o1, o2, o3].all (fun o => o.dst != (ops[j]?).bind (·.dst)) = true)
    (hrun : b = g → (∀ x1 x2, WL P ops Q rest (((a.put o1.dst x1).put o2.dst x2).put o3.dst (.bool c)) w) → WL P ops Q (o1 :: o2 :: o3 :: rest) a w)
    (hrest : ∀ x1 x2 z, (b = g → z = .bool c) → WL P ops Q rest (((a.put o1.dst x1).put o2.dst x2).put o3.dst z) w) : WL P ops Q (o1 :: o2 :: o3 :: rest) a w :=
  WL.fork j g b [o1, o2, o3] rest a w (fun us => us[2]? = some (.bool c)) hy hg hd
    (fun hb H => hrun hb fun x1 x2 => H [x1, x2, .bool c] rfl rfl)
    (fun us hl hR => by
      match us, hl with
      | [x1, x2, z], _ => exact hrest x1 x2 z fun h => by simpa using hR h)
/-- 4 operations behind an undecided guard, the last of which yields a Bool -/
theorem WL.link4 {o1 o2 o3 o4 : Oper} {rest : List Oper} {a : Act} {w : World} (j : Nat) (g b c : Bool) (hy : yielded ops a.tmps j = some b) (hg : [o1, o2, o3, o4].all (fun o => o.guard == some (j, g)) = true) (hd : [o1, o2, o3, o4].all (fun o => o.dst != (ops[j]?).bind (·.dst)) = true)
    (hrun : b = g → (∀ x1 x2 x3, WL P ops Q rest ((((a.put o1.dst x1).put o2.dst x2).put o3.dst x3).put o4.dst (.bool c)) w) → WL P ops Q (o1 :: o2 :: o3 :: o4 :: rest) a w)
    (hrest : ∀ x1 x2 x3 z, (b = g → z = .bool c) → WL P ops Q rest ((((a.put o1.dst x1).put o2.dst x2).put o3.dst x3).put o4.dst z) w) : WL P ops Q (o1 :: o2 :: o3 :: o4 :: rest) a w :=
  WL.fork j g b [o1, o2, o3, o4] rest a w (fun us => us[3]? = some (.bool c)) hy hg hd
    (fun hb H => hrun hb fun x1 x2 x3 => H [x1, x2, x3, .bool c] rfl rfl)
    (fun us hl hR => by
      match us, hl with
      | [x1, x2, x3, z], _ => exact hrest x1 x2 x3 z fun h => by simpa using hR h)
/-- 5 operations behind an undecided guard, the last of which yields a Bool -/
theorem WL.link5 {o1 o2 o3 o4 o5 : Oper} {rest : List Oper} {a : Act} {w : World} (j : Nat) (g b c : Bool) (hy : yielded ops a.tmps j = some b) (hg : [o1, o2, o3, o4, o5].all (fun o => o.guard == some (j, g)) = true) (hd : [o1, o2, o3, o4, o5].all (fun o => o.dst != (ops[j]?).bind (·.dst)) = true)
    (hrun : b = g → (∀ x1 x2 x3 x4, WL P ops Q rest (((((a.put o1.dst x1).put o2.dst x2).put o3.dst x3).put o4.dst x4).put o5.dst (.bool c)) w) → WL P ops Q (o1 :: o2 :: o3 :: o4 :: o5 :: rest) a w)
    (hrest : ∀ x1 x2 x3 x4 z, (b = g → z = .bool c) → WL P ops Q rest (((((a.put o1.dst x1).put o2.dst x2).put o3.dst x3).put o4.dst x4).put o5.dst z) w) : WL P ops Q (o1 :: o2 :: o3 :: o4 :: o5 :: rest) a w :=
  WL.fork j g b [o1, o2, o3, o4, o5] rest a w (fun us => us[4]? = some (.bool c)) hy hg hd
    (fun hb H => hrun hb fun x1 x2 x3 x4 => H [x1, x2, x3, x4, .bool c] rfl rfl)
    (fun us hl hR => by
      match us, hl with
      | [x1, x2, x3, x4, z], _ => exact hrest x1 x2 x3 x4 z fun h => by simpa using hR h)
/-- 6 operations behind an undecided guard, the last of which yields a Bool -/
theorem WL.link6 {o1 o2 o3 o4 o5 o6 : Oper} {rest : List Oper} {a : Act} {w : World} (j : Nat) (g b c : Bool) (hy : yielded ops a.tmps j = some b) (hg : [o1, o2, o3, o4, o5, o6].all (fun o => o.guard == some (j, g)) = true) (hd : [o1, o2, o3, o4, o5, o6].all (fun o => o.dst != (ops[j]?).bind (·.dst)) = true)
    (hrun : b = g → (∀ x1 x2 x3 x4 x5, WL P ops Q rest ((((((a.put o1.dst x1).put o2.dst x2).put o3.dst x3).put o4.dst x4).put o5.dst x5).put o6.dst (.bool c)) w) → WL P ops Q (o1 :: o2 :: o3 :: o4 :: o5 :: o6 :: rest) a w)
    (hrest : ∀ x1 x2 x3 x4 x5 z, (b = g → z = .bool c) → WL P ops Q rest ((((((a.put o1.dst x1).put o2.dst x2).put o3.dst x3).put o4.dst x4).put o5.dst x5).put o6.dst z) w) : WL P ops Q (o1 :: o2 :: o3 :: o4 :: o5 :: o6 :: rest) a w :=
  WL.fork j g b [o1, o2, o3, o4, o5, o6] rest a w (fun us => us[5]? = some (.bool c)) hy hg hd
    (fun hb H => hrun hb fun x1 x2 x3 x4 x5 => H [x1, x2, x3, x4, x5, .bool c] rfl rfl)
    (fun us hl hR => by
      match us, hl with
      | [x1, x2, x3, x4, x5, z], _ => exact hrest x1 x2 x3 x4 x5 z fun h => by simpa using hR h)
/-- 7 operations behind an undecided guard, the last of which yields a Bool -/
theorem WL.link7 {o1 o2 o3 o4 o5 o6 o7 : Oper} {rest : List Oper} {a : Act} {w : World} (j : Nat) (g b c : Bool) (hy : yielded ops a.tmps j = some b) (hg : [o1, o2, o3, o4, o5, o6, o7].all (fun o => o.guard == some (j, g)) = true) (hd : [o1, o2, o3, o4, o5, o6, o7].all (fun o => o.dst != (ops[j]?).bind (·.dst)) = true)
    (hrun : b = g → (∀ x1 x2 x3 x4 x5 x6, WL P ops Q rest (((((((a.put o1.dst x1).put o2.dst x2).put o3.dst x3).put o4.dst x4).put o5.dst x5).put o6.dst x6).put o7.dst (.bool c)) w) → WL P ops Q (o1 :: o2 :: o3 :: o4 :: o5 :: o6 :: o7 :: rest) a w)
    (hrest : ∀ x1 x2 x3 x4 x5 x6 z, (b = g → z = .bool c) → WL P ops Q rest (((((((a.put o1.dst x1).put o2.dst x2).put o3.dst x3).put o4.dst x4).put o5.dst x5).put o6.dst x6).put o7.dst z) w) : WL P ops Q (o1 :: o2 :: o3 :: o4 :: o5 :: o6 :: o7 :: rest) a w :=
  WL.fork j g b [o1, o2, o3, o4, o5, o6, o7] rest a w (fun us => us[6]? = some (.bool c)) hy hg hd
    (fun hb H => hrun hb fun x1 x2 x3 x4 x5 x6 => H [x1, x2, x3, x4, x5, x6, .bool c] rfl rfl)
    (fun us hl hR => by
      match us, hl with
      | [x1, x2, x3, x4, x5, x6, z], _ => exact hrest x1 x2 x3 x4 x5 x6 z fun h => by simpa using hR h)
/-- the pick behind such operations: 'a || b' -/
theorem exec_pick_or {ρ : Operand → Value} {o : Oper} {s z : Operand} {b c : Bool} {w : World} (ho : o.op = .pick s (.const (.bool true)) z) (hs : ρ s = .bool b) (ht : ρ (.const (.bool true)) = .bool true) (hz : b = false → ρ z = .bool c) : (execOp ρ o).run P w = .ok (.value (.bool (b || c))) w := by
  unfold execOp
  simp only [ho]
  cases b with
  | true => simp [hs, ht, Sem.run_pure, asBool]
  | false => simp [hs, hz rfl, Sem.run_pure, asBool]
theorem exec_pick_and {ρ : Operand → Value} {o : Oper} {s z : Operand} {b c : Bool} {w : World} (ho : o.op = .pick s z (.const (.bool false))) (hs : ρ s = .bool b) (ht : ρ (.const (.bool false)) = .bool false) (hz : b = true → ρ z = .bool c) : (execOp ρ o).run P w = .ok (.value (.bool (b && c))) w := by
  unfold execOp
  simp only [ho]
  cases b with
  | false => simp [hs, ht, Sem.run_pure, asBool]
  | true => simp [hs, hz rfl, Sem.run_pure, asBool]
end
end Go.Proofs.Ythdljigcfhjikaa
