/- Acts of the law that come in as arguments; a map of the times that were set last; an alarm is itself (layer 17). No condition. -/
import Derived.Test.YtfakejfpicjedaaTmI
import Derived.Test.YtfakejfpicjedaaTmK
import Derived.Test.YtfakejfpicjedaaEqs
import Derived.Deep.Slices
import Derived.WideShapes
import Derived.ChangeArms
import Derived.ChangeKeysEq
namespace Go.Proofs.Ytfakejfpicjedaa
set_option linter.unusedVariables false
open Go.ChangeShapes Go.WideShapes Go.RowKit Go.Deep Tm

namespace T17
theorem fields_at {P : Program} {fs : Array Field} {l : List (Nat × Nat × TypeId)} (h : fs.toList.map (fun f => (f.offset, P.cellsOf f.type, f.type)) = l) {i o c : Nat} {t : TypeId} (hi : l[i]? = some (o, c, t)) : ∃ f, fs[i]? = some f ∧ f.offset = o ∧ P.cellsOf f.type = c ∧ f.type = t := by
  rw [← h, List.getElem?_map] at hi
  cases hf : fs.toList[i]? with
  | none => rw [hf] at hi; cases hi
  | some f =>
    rw [hf] at hi
    injection hi with hi
    injection hi with h1 h2
    injection h2 with h2 h3
    exact ⟨f, by simpa using hf, h1, h2, h3⟩
theorem trod_field {H : Type} {enc : TypeId × Value → H} {P : Program} {w : World} {base : Nat} {spare : Nat → Bool} {held : Bool} {fuel : Nat} {t : TypeId} {cs : List Value} {x : DataW H × List MemPlace} {fs : Array Field} (hs : P.underlying t = some (.struct fs)) (h : DataW.trod enc P w base spare held fuel t cs = some x)
    {l : List (Nat × Nat × TypeId)} (hl : fs.toList.map (fun f => (f.offset, P.cellsOf f.type, f.type)) = l) {i o c : Nat} {u : TypeId} (hi : l[i]? = some (o, c, u)) : ∃ n y, DataW.trod enc P w base spare held n u ((cs.drop o).take c) = some y := by
  obtain ⟨xs, n, _, _, _, hlen, hfs⟩ := DataW.trod_struct hs h
  obtain ⟨f, hf, rfl, rfl, rfl⟩ := fields_at hl hi
  have hlt : i < xs.length := by rw [hlen]; exact (Array.getElem?_eq_some_iff.1 hf).1
  exact ⟨n, xs[i], (hfs i f hf).trans (List.getElem?_eq_getElem hlt)⟩
theorem sAct : Try.prog.underlying 29 = some (.struct (Try.prog.fieldsOf 29)) := by kernel_rfl
theorem fAct : (Try.prog.fieldsOf 29).toList.map (fun f => (f.offset, Try.prog.cellsOf f.type, f.type)) = [(0, 1, 3), (1, 1, 3), (2, 1, 27)] := by kernel_rfl
theorem cellsAct : Try.prog.cellsOf 29 = 3 := by kernel_rfl
set_option maxRecDepth 10000 in
theorem three {H : Type} {enc : TypeId × Value → H} {W : World} {base : Nat} {spare : Nat → Bool} {held : Bool} {fuel : Nat} {l : List Value} {x : DataW H × List MemPlace} (hsz : l.length = 3)
    (hf : DataW.trod enc Try.prog W base spare held fuel 29 l = some x) : ∃ k u t : Int, i64T u ∧ i64T t ∧ l = [.int .i64 k, .int .i64 u, .int .i64 t] := by
  match l, hsz with
  | [c0, c1, c2], _ =>
    obtain ⟨n0, y0, h0⟩ := trod_field sAct hf fAct (i := 0) rfl
    obtain ⟨n1, y1, h1⟩ := trod_field sAct hf fAct (i := 1) rfl
    obtain ⟨n2, y2, h2⟩ := trod_field sAct hf fAct (i := 2) rfl
    obtain ⟨a0, e0, _, _⟩ := DataW.trod_int Try.underlying3 h0
    obtain ⟨a1, e1, _, w1⟩ := DataW.trod_int Try.underlying3 h1
    obtain ⟨a2, e2, _, w2⟩ := DataW.trod_int Try.underlying27 h2
    have f0 : c0 = .int .i64 a0 := by simpa using e0
    have f1 : c1 = .int .i64 a1 := by simpa using e1
    have f2 : c2 = .int .i64 a2 := by simpa using e2
    subst f0 f1 f2
    refine ⟨_, _, _, ?_, ?_, rfl⟩
    · unfold i64T; simpa [Lit.wf, IntKind.min, IntKind.max, IntKind.signed, IntKind.bits] using w1
    · unfold i64T; simpa [Lit.wf, IntKind.min, IntKind.max, IntKind.signed, IntKind.bits] using w2
/-- an act: its kind, the name, when -/
structure Act where
  kind : Int
  u : Int
  t : Int
structure Act.Cells (w : World) (b o : Nat) (a : Act) : Prop where
  c0 : w.cell? ⟨b, o, none⟩ = some (.int .i64 a.kind)
  c1 : w.cell? ⟨b, o + 1, none⟩ = some (.int .i64 a.u)
  c2 : w.cell? ⟨b, o + 2, none⟩ = some (.int .i64 a.t)
  u64 : i64T a.u
  t64 : i64T a.t
def Acts (w : World) (ad : Option Addr) (len : Nat) (A : Nat → Act) : Prop := len ≤ 9223372036854775807 ∧ (0 < len → ∃ b off, ad = some ⟨b, off, none⟩ ∧ b < w.heap.size ∧ ∀ k, k < len → Act.Cells w b (off + k * 3) (A k))
instance : Inhabited Act := ⟨⟨0, 0, 0⟩⟩
set_option maxRecDepth 10000 in
theorem acts_open {H : Type} {enc : TypeId × Value → H} {W : World} {a : Option Addr} {len cap : Nat} {d : DataW H} {p : List MemPlace}
    (h : DataW.Trod enc Try.prog W 0 (fun _ => true) true 22 (.slice a len cap) d p) : ∃ A : Nat → Act, Acts W a len A ∧ len ≤ cap := by
  obtain ⟨fuel, hf⟩ := h
  rcases Go.Deep.open_slice Try.underlying22 hf with ⟨hcs, _⟩ | ⟨x, l, c, m, n, D, Pl, hcs, _, hl, hm, hmm, hd, hcell⟩
  · simp [Value.cells] at hcs
    obtain ⟨rfl, rfl, rfl⟩ := hcs
    exact ⟨fun _ => ⟨0, 0, 0⟩, ⟨by omega, fun h => absurd h (by omega)⟩, Nat.le_refl _⟩
  · simp [Value.cells] at hcs
    obtain ⟨rfl, rfl, rfl⟩ := hcs
    have hlm : len ≤ m := by rw [hmm]; split <;> omega
    rw [cellsAct] at hcell
    by_cases h0 : len = 0
    · exact ⟨fun _ => ⟨0, 0, 0⟩, ⟨by omega, fun h => absurd h (by omega)⟩, hl⟩
    obtain ⟨b, off, spot⟩ := x
    have hspot : spot = none := by
      obtain ⟨cs', h1, _⟩ := hcell 0 (by omega)
      obtain ⟨_, hlen, hc⟩ := World.cells?_some h1
      have := hc 0 (by omega)
      have hs : cs'[0]? = some cs'[0] := List.getElem?_eq_getElem (by omega)
      rw [hs] at this
      simpa [Addr.add] using World.cell?_spot this
    subst hspot
    have hplain : ∀ k, (⟨b, off, none⟩ : Addr).add k = ⟨b, off + k, none⟩ := fun k => by unfold Addr.add; split <;> simp_all
    have hplain2 : ∀ k j, ((⟨b, off, none⟩ : Addr).add k).add j = ⟨b, off + k + j, none⟩ := fun k j => by rw [Go.Deep.add_add, hplain, Nat.add_assoc]
    have each : ∀ i, i < len → ∃ q : Act, Act.Cells W b (off + i * 3) q := by
      intro i hi
      obtain ⟨cs', h1, h2⟩ := hcell i (by omega)
      obtain ⟨_, hlen, hc⟩ := World.cells?_some h1
      obtain ⟨k, u, t, b1, b2, rfl⟩ := three hlen h2
      have c : ∀ j, j < 3 → W.cell? ⟨b, off + i * 3 + j, none⟩ = [Value.int .i64 k, .int .i64 u, .int .i64 t][j]? := fun j hj => by rw [← hplain2]; exact hc j hj
      exact ⟨⟨k, u, t⟩, { c0 := c 0 (by decide), c1 := c 1 (by decide), c2 := c 2 (by decide), u64 := b1, t64 := b2 }⟩
    obtain ⟨A, hA⟩ := Go.Deep.choose_lt (α := Act) (p := fun i q => Act.Cells W b (off + i * 3) q) each
    have hb : b < W.heap.size := by
      obtain ⟨q, hq⟩ := each 0 (by omega)
      exact block_lt_of_cell hq.c0
    exact ⟨A, ⟨by unfold maxLen at hm; omega, fun _ => ⟨b, off, rfl, hb, hA⟩⟩, hl⟩
end T17
/-- when a name is due, behind a Set that goes -/
theorem at_cons (x : AL) (l : List AL) (a : Int) : atR (x :: l) a = if x.2 = a then some x.1 else atR l a := by
  unfold atR
  rw [List.find?_cons]
  by_cases h : x.2 = a
  · rw [if_pos h, show (x.2 == a) = true by simpa using h]; rfl
  · rw [if_neg h, show (x.2 == a) = false by simpa using h]
theorem at_del (R : List AL) (id a : Int) : atR (delR R id) a = if id = a then none else atR R a := by
  induction R with
  | nil => unfold atR delR; simp
  | cons y R ih =>
    have e : delR (y :: R) id = if y.2 = id then delR R id else y :: delR R id := by
      unfold delR
      rw [List.filter_cons]
      by_cases h : y.2 = id
      · rw [if_pos h, if_neg (by simpa using h)]
      · rw [if_neg h, if_pos (by simpa using h)]
    rw [e, at_cons]
    by_cases h : y.2 = id
    · rw [if_pos h, ih]
      by_cases h2 : id = a
      · rw [if_pos h2, if_pos h2]
      · rw [if_neg h2, if_neg h2, if_neg (by omega)]
    · rw [if_neg h, at_cons, ih]
      by_cases h2 : id = a
      · rw [if_pos h2, if_neg (by omega), if_pos h2]
      · rw [if_neg h2, if_neg h2]
theorem at_ins {x : AL} {l : List AL} (h : ∀ y ∈ l, y.2 ≠ x.2) (a : Int) : atR (insR x l) a = if x.2 = a then some x.1 else atR l a := by
  induction l with
  | nil => unfold insR; rw [at_cons]
  | cons y l ih =>
    have hy := h y List.mem_cons_self
    unfold insR
    split
    · rw [at_cons, ih fun z hz => h z (List.mem_cons_of_mem _ hz), at_cons]
      by_cases h2 : y.2 = a
      · rw [if_pos h2, if_neg (by omega), if_pos h2]
      · rw [if_neg h2, if_neg h2]
    · rw [at_cons]
theorem at_set (R : List AL) (id t a : Int) : atR (insR (t, id) (delR R id)) a = if id = a then some t else atR R a := by
  rw [at_ins fun y hy => (del_mem.1 hy).2, at_del]
  by_cases h : id = a
  · rw [if_pos h, if_pos h]
  · rw [if_neg h, if_neg h, if_neg h]
theorem at_in (R : List AL) (id : Int) : (atR R id).isSome = inR R id := by
  unfold atR inR
  rw [Option.isSome_map, Bool.eq_iff_iff, List.find?_isSome, List.any_eq_true]
noncomputable abbrev RU : Value → Option (DataW Unit × List MemPlace) := plainElem Try.prog 27
theorem RU_mk {u : Int} (h : i64T u) : RU (.int .i64 u) = some (.lit (.int .i64 u), []) := plainElem_int Try.underlying27 (wfT h)
theorem RU_inv {v : Value} {u : Int} {ps : List MemPlace} (h : RU v = some (.lit (.int .i64 u), ps)) : v = .int .i64 u := by
  obtain ⟨a, rfl, h2, _⟩ := plainElem_int_inv Try.underlying27 h
  injection h2 with h2
  injection h2 with h2
  injection h2 with _ h2
  rw [h2]
theorem zeroU (w : World) : (zeroValue 27).run Try.prog w = .ok (.int .i64 0) w := by kernel_rfl
/-- a map of the times that were set last -/
structure LM (w : World) (m : Nat) (R : List AL) : Prop where
  ex : ∃ D : DataW Unit, w.ownsMap Try.prog 3 RU m R.length D ∧ Maps.size D = R.length ∧ ∀ id, i64T id → Maps.has D (.int .i64 id) = (atR R id).isSome ∧ ∀ t, atR R id = some t → ∀ z, D.atKey (.int .i64 id) z = .lit (.int .i64 t)
theorem LM.blk {w : World} {m : Nat} {R : List AL} (h : LM w m R) : ∃ es clock, w.heap[m]? = some (.map es clock) := by
  obtain ⟨D, ⟨es, clock, hb, _⟩, _⟩ := h.ex
  exact ⟨es, clock, hb⟩
theorem LM.lt {w : World} {m : Nat} {R : List AL} (h : LM w m R) : m < w.heap.size := by
  obtain ⟨es, clock, hb⟩ := h.blk
  exact (Array.getElem?_eq_some_iff.1 hb).1
theorem LM.keep {w w' : World} {m : Nat} {R : List AL} (h : LM w m R) (hb : w'.heap[m]? = w.heap[m]?) : LM w' m R := by
  obtain ⟨D, ⟨es, clock, hbk, r⟩, hs⟩ := h.ex
  exact ⟨⟨D, ⟨es, clock, hb.trans hbk, r⟩, hs⟩⟩
theorem LM.made (w : World) : LM (w.alloc (.map #[] 0)) w.heap.size [] :=
  ⟨⟨.map [], World.ownsMap_made w Try.prog 3 RU, rfl, fun _ _ => ⟨rfl, fun _ h => by cases h⟩⟩⟩
theorem LM.look {w : World} {m : Nat} {R : List AL} (h : LM w m R) {id : Int} (hi : i64T id) {t : Int} (ht : atR R id = some t) :
    (Instr.lookup 51 (.map (some m)) (.int .i64 id) true).run Try.prog w = .ok (.tuple #[.int .i64 t, .bool true]) w := by
  obtain ⟨D, ho, _, hd⟩ := h.ex
  obtain ⟨h1, h2⟩ := hd id hi
  obtain ⟨v, ps, hrun, hv⟩ := ho.look_ok keyT Try.underlying51 (zeroU w) (RU_mk (u := 0) (by unfold i64T; omega)) (keyOfT hi)
  rw [hrun, h1, ht]
  rw [h2 t ht] at hv
  rw [RU_inv hv]
  rfl
theorem LM.len {w : World} {m : Nat} {R : List AL} (h : LM w m R) (ty : TypeId) : (Builtin.len_ #[51] ty #[.map (some m)]).run Try.prog w = .ok (.int .i64 (R.length : Int)) w := by
  obtain ⟨D, ho, hs, _⟩ := h.ex
  have := ho.len Try.underlying51 ty
  rw [hs] at this
  exact this
theorem LM.put {w : World} {m : Nat} {R : List AL} (h : LM w m R) (hc : R.length < 100000) {id t : Int} (hi : i64T id) (ht : i64T t) (hl : (insR (t, id) (delR R id)).length = if (atR R id).isSome then R.length else R.length + 1) :
    ∃ w', (Instr.mapUpdate 51 (.map (some m)) (.int .i64 id) (.int .i64 t)).run Try.prog w = .ok () w' ∧ LM w' m (insR (t, id) (delR R id)) ∧ w.mapTurned w' m := by
  obtain ⟨D, ho, hs, hd⟩ := h.ex
  obtain ⟨w', e1, e2, e3⟩ := ho.store keyT Try.underlying51 (by unfold maxLen; omega) (keyOfT hi) (RU_mk ht)
  have hh := (hd id hi).1
  have hsz : Maps.size (D.put (.int .i64 id) (.lit (.int .i64 t))) = (insR (t, id) (delR R id)).length := by
    rw [Maps.size_put (ho.tidy keyT), hh, hl, hs]
  refine ⟨w', e1, ⟨⟨_, ?_, hsz, fun x hx => ?_⟩⟩, e3⟩
  · have := own_tightM e2
    rw [hsz] at this
    exact this
  · rw [at_set]
    by_cases he : id = x
    · subst he
      rw [if_pos rfl]
      exact ⟨by rw [Maps.has_put_same ho.isMap (keyT.key (keyOfT hi))]; rfl, fun q hq z => by cases hq; exact Maps.atKey_put_same ho.isMap (keyT.key (keyOfT hi)) _ _⟩
    · rw [if_neg he, Maps.has_put_other (litne fun e => he e.symm)]
      refine ⟨(hd x hx).1, fun q hq z => ?_⟩
      rw [Maps.atKey_put_other (litne fun e => he e.symm)]
      exact (hd x hx).2 q hq z
set_option maxRecDepth 100000 in
theorem eqinA (a b : Int) (w : World) : (Op.equalIn 10000 42 (.agg #[.int .i64 a, .int .i64 b]) (.agg #[.int .i64 a, .int .i64 b])).run Try.prog w = .ok true w := by
  have hS : Try.prog.underlying 42 = some (.struct (Try.prog.fieldsOf 42)) := by kernel_rfl
  have hp : Try.prog.stoodInHeld 42 = false := by kernel_rfl
  have hm : (Try.prog.fieldsOf 42).toList.map (fun f => (f.name != "_", f.offset, f.type)) = [(true, 0, 27), (true, 1, 3)] := by kernel_rfl
  refine (run_equalIn_struct w 9999 _ _ _ hS hp).trans ?_
  rw [run_eqFields_all w (fun _ => true)]
  · simp
  · intro x hf
    have h1 : (x.name != "_", x.offset, x.type) ∈ (Try.prog.fieldsOf 42).toList.map (fun f => (f.name != "_", f.offset, f.type)) := List.mem_map.2 ⟨x, hf, rfl⟩
    rw [hm] at h1
    simp only [List.mem_cons, List.not_mem_nil, or_false, Prod.mk.injEq] at h1
    rcases h1 with ⟨h1, h2, h3⟩ | ⟨h1, h2, h3⟩
    · refine ⟨by simpa using h1, .int .i64 a, .int .i64 a, ?_, ?_, ?_⟩
      · rw [h2, h3]; simp [part, isAgg, run_underlying Try.underlying27]
      · rw [h2, h3]; simp [part, isAgg, run_underlying Try.underlying27]
      · rw [h3]; refine (run_equalIn_int w _ _ _ .i64 a a Try.underlying27).trans ?_; simp
    · refine ⟨by simpa using h1, .int .i64 b, .int .i64 b, ?_, ?_, ?_⟩
      · rw [h2, h3]; simp [part, isAgg, run_underlying Try.underlying3]
      · rw [h2, h3]; simp [part, isAgg, run_underlying Try.underlying3]
      · rw [h3]; refine (run_equalIn_int w _ _ _ .i64 b b Try.underlying3).trans ?_; simp
end Go.Proofs.Ytfakejfpicjedaa
