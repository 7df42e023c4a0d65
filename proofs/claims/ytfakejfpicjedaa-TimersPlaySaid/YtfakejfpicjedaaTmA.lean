/- A queue of alarms in memory (layer 17): its row, its places. No condition. -/
import Derived.Test.YtfakejfpicjedaaTmM
import Derived.Test.YtfakejfpicjedaaMid
import Derived.Test.YtfakejfpicjedaaAppTwo
import Derived.Test.YtfakejfpicjedaaAppOne
import Derived.Test.YtfakejfpicjedaaHeld2
import Derived.RangeFuncRecord
import Derived.Carry
import Derived.Deep.DrawnRows
import Derived.ProofKit
import Derived.OpenShut
import Derived.Outline
import Derived.WalkLawsBesides
import Derived.Lib.Hide
import Derived.OwnWalk
import Derived.Deep.CutBlock
import Derived.Deep.DeepCutAuto
import Derived.IntWalk
import Derived.LoopTactic
import Derived.RegionTactic
namespace Go.Proofs.Ytfakejfpicjedaa
set_option linter.unusedVariables false
open Go.ChangeShapes Go.WideShapes Go.ChangeAt Go.RowKit Tm
attribute [local go_sem ↓] Go.wp_at_zero Go.wp_at_succ comesTo_value_eq comesTo_skip_eq comesTo_enter_eq

def i64T (x : Int) : Prop := -9223372036854775808 ≤ x ∧ x ≤ 9223372036854775807
theorem keyT : Maps.Keyed Try.prog 3 := Maps.int_keyed Try.underlying3
theorem wfT {u : Int} (h : i64T u) : (Lit.int .i64 u).wf = true := by unfold i64T at h; simp [Lit.wf, IntKind.min, IntKind.max, IntKind.signed, IntKind.bits]; omega
theorem keyOfT {u : Int} (h : i64T u) : Go.keyOf Try.prog 3 (.int .i64 u) = some (.int .i64 u) := Maps.keyOf_int_mk Try.underlying3 (wfT h)
theorem zeroT (w : World) : (zeroValue 3).run Try.prog w = .ok (.int .i64 0) w := by kernel_rfl
noncomputable abbrev RT : Value → Option (DataW Unit × List MemPlace) := plainElem Try.prog 3
theorem RT_mk {u : Int} (h : i64T u) : RT (.int .i64 u) = some (.lit (.int .i64 u), []) := plainElem_int Try.underlying3 (wfT h)
theorem RT_inv {v : Value} {u : Int} {ps : List MemPlace} (h : RT v = some (.lit (.int .i64 u), ps)) : v = .int .i64 u := by
  obtain ⟨a, rfl, h2, _⟩ := plainElem_int_inv Try.underlying3 h
  injection h2 with h2
  injection h2 with h2
  injection h2 with _ h2
  rw [h2]
def updP (pm : Int → Option Nat) (id : Int) (k : Nat) : Int → Option Nat := fun x => if x = id then some k else pm x
def eraP (pm : Int → Option Nat) (id : Int) : Int → Option Nat := fun x => if x = id then none else pm x
/-- a map of places, as a function -/
structure PM (w : World) (m : Nat) (pm : Int → Option Nat) (c : Nat) : Prop where
  ex : ∃ D : DataW Unit, w.ownsMap Try.prog 3 RT m c D ∧ Maps.size D = c ∧ ∀ id, i64T id → Maps.has D (.int .i64 id) = (pm id).isSome ∧ ∀ k, pm id = some k → ∀ z, D.atKey (.int .i64 id) z = .lit (.int .i64 (k : Int))
  lt : ∀ id k, pm id = some k → k < 100000
theorem litne {a b : Int} (h : a ≠ b) : Lit.int .i64 a ≠ Lit.int .i64 b := fun e => by injection e with _ e; exact h e
theorem PM.blk {w : World} {m : Nat} {pm : Int → Option Nat} {c : Nat} (h : PM w m pm c) : ∃ es clock, w.heap[m]? = some (.map es clock) := by
  obtain ⟨D, ⟨es, clock, hb, _⟩, _⟩ := h.ex
  exact ⟨es, clock, hb⟩
theorem PM.mlt {w : World} {m : Nat} {pm : Int → Option Nat} {c : Nat} (h : PM w m pm c) : m < w.heap.size := by
  obtain ⟨es, clock, hb⟩ := h.blk
  exact (Array.getElem?_eq_some_iff.1 hb).1
theorem PM.keep {w w' : World} {m : Nat} {pm : Int → Option Nat} {c : Nat} (h : PM w m pm c) (hb : w'.heap[m]? = w.heap[m]?) : PM w' m pm c := by
  obtain ⟨D, ⟨es, clock, hbk, r⟩, hs⟩ := h.ex
  exact ⟨⟨D, ⟨es, clock, hb.trans hbk, r⟩, hs⟩, h.lt⟩
theorem PM.none_lit {w : World} {m : Nat} {pm : Int → Option Nat} {c : Nat} (h : PM w m pm c) {id : Int} (hi : i64T id) :
    (Instr.lookup 58 (.map (some m)) (.int .i64 id) true).run Try.prog w = .ok (.tuple #[.int .i64 (((pm id).getD 0 : Nat) : Int), .bool (pm id).isSome]) w := by
  obtain ⟨D, ho, _, hd⟩ := h.ex
  obtain ⟨h1, h2⟩ := hd id hi
  obtain ⟨v, ps, hrun, hv⟩ := ho.look_ok keyT Try.underlying58 (zeroT w) (RT_mk (u := 0) (by unfold i64T; omega)) (keyOfT hi)
  rw [hrun, h1]
  cases hp : pm id with
  | none =>
    rw [hp] at h1
    rw [Maps.atKey_of_not_has h1] at hv
    rw [RT_inv hv]
    rfl
  | some k =>
    rw [h2 k hp] at hv
    rw [RT_inv hv]
    rfl
theorem PM.entry {w : World} {m : Nat} {pm : Int → Option Nat} {c : Nat} (h : PM w m pm c) {id : Int} (hi : i64T id) {k : Nat} (hk : pm id = some k) :
    ∃ st, HasE w m (.int .i64 id) st ∧ (Instr.mapEntry 58 (.map (some m)) (.int .i64 id)).run Try.prog w = .ok (.tuple #[.int .i64 (k : Int), .int .i64 (st : Int)]) w := by
  obtain ⟨D, ho, _, hd⟩ := h.ex
  obtain ⟨h1, h2⟩ := hd id hi
  rw [hk] at h1
  obtain ⟨st, v, ps, he, hv, hrun⟩ := entry_there keyT Try.underlying58 ho (keyOfT hi) h1 (zeroT w) (RT_mk (u := 0) (by unfold i64T; omega))
  rw [h2 k hk] at hv
  rw [RT_inv hv] at hrun
  exact ⟨st, he, hrun⟩
theorem PM.put {w : World} {m : Nat} {pm : Int → Option Nat} {c : Nat} (h : PM w m pm c) (hc : c < 100000) {id : Int} (hi : i64T id) {k0 : Nat} (hk0 : pm id = some k0) {st : Nat} (hst : HasE w m (.int .i64 id) st) {k : Nat} (hk : k < 100000) :
    ∃ w', (Instr.entryStore 58 (.map (some m)) (.int .i64 (st : Int)) (.int .i64 (k : Int))).run Try.prog w = .ok () w' ∧ PM w' m (updP pm id k) c ∧ w.mapTurned w' m ∧ ∀ key' st', HasE w m key' st' → HasE w' m key' st' := by
  obtain ⟨D, ho, hs, hd⟩ := h.ex
  obtain ⟨w', e1, e2, e3, e4⟩ := entry_put keyT Try.underlying58 ho (by unfold maxLen; omega) (keyOfT hi) hst (RT_mk (u := (k : Int)) (by unfold i64T; omega))
  have hh := (hd id hi).1
  rw [hk0] at hh
  have hsz : Maps.size (D.put (.int .i64 id) (.lit (.int .i64 (k : Int)))) = c := by
    rw [Maps.size_put (ho.tidy keyT), hh]; simpa using hs
  refine ⟨w', e1, ⟨⟨_, ?_, hsz, fun x hx => ?_⟩, fun x q hq => ?_⟩, e3, e4⟩
  · have := own_tightM e2
    rw [hsz] at this
    exact this
  · unfold updP
    by_cases he : x = id
    · subst he
      rw [if_pos rfl]
      exact ⟨by rw [Maps.has_put_same ho.isMap (keyT.key (keyOfT hi))]; rfl, fun q hq z => by cases hq; exact Maps.atKey_put_same ho.isMap (keyT.key (keyOfT hi)) _ _⟩
    · rw [if_neg he, Maps.has_put_other (litne he)]
      refine ⟨(hd x hx).1, fun q hq z => ?_⟩
      rw [Maps.atKey_put_other (litne he)]
      exact (hd x hx).2 q hq z
  · unfold updP at hq
    split at hq
    · cases hq; exact hk
    · exact h.lt x q hq
theorem PM.new {w : World} {m : Nat} {pm : Int → Option Nat} {c : Nat} (h : PM w m pm c) (hc : c < 100000) {id : Int} (hi : i64T id) (hk0 : pm id = none) {k : Nat} (hk : k < 100000) :
    ∃ w', (Instr.mapUpdate 58 (.map (some m)) (.int .i64 id) (.int .i64 (k : Int))).run Try.prog w = .ok () w' ∧ PM w' m (updP pm id k) (c + 1) ∧ w.mapTurned w' m := by
  obtain ⟨D, ho, hs, hd⟩ := h.ex
  obtain ⟨w', e1, e2, e3⟩ := ho.store keyT Try.underlying58 (by unfold maxLen; omega) (keyOfT hi) (RT_mk (u := (k : Int)) (by unfold i64T; omega))
  have hh := (hd id hi).1
  rw [hk0] at hh
  have hsz : Maps.size (D.put (.int .i64 id) (.lit (.int .i64 (k : Int)))) = c + 1 := by
    rw [Maps.size_put (ho.tidy keyT), hh]; simpa using hs
  refine ⟨w', e1, ⟨⟨_, e2, hsz, fun x hx => ?_⟩, fun x q hq => ?_⟩, e3⟩
  · unfold updP
    by_cases he : x = id
    · subst he
      rw [if_pos rfl]
      exact ⟨by rw [Maps.has_put_same ho.isMap (keyT.key (keyOfT hi))]; rfl, fun q hq z => by cases hq; exact Maps.atKey_put_same ho.isMap (keyT.key (keyOfT hi)) _ _⟩
    · rw [if_neg he, Maps.has_put_other (litne he)]
      refine ⟨(hd x hx).1, fun q hq z => ?_⟩
      rw [Maps.atKey_put_other (litne he)]
      exact (hd x hx).2 q hq z
  · unfold updP at hq
    split at hq
    · cases hq; exact hk
    · exact h.lt x q hq
theorem PM.del {w : World} {m : Nat} {pm : Int → Option Nat} {c : Nat} (h : PM w m pm (c + 1)) {id : Int} (hi : i64T id) {k0 : Nat} (hk0 : pm id = some k0) (ty : TypeId) :
    ∃ w', (Builtin.delete_ #[58, 3] ty #[.map (some m), .int .i64 id]).run Try.prog w = .ok (.tuple #[]) w' ∧ PM w' m (eraP pm id) c ∧ w.mapTurned w' m := by
  obtain ⟨D, ho, hs, hd⟩ := h.ex
  obtain ⟨w', e1, e2, e3⟩ := ho.drop keyT Try.underlying58 (keyOfT hi) ty
  have hh := (hd id hi).1
  rw [hk0] at hh
  have hsz : Maps.size (D.del (.int .i64 id)) = c := by
    have := Maps.size_del (k := .int .i64 id) (ho.tidy keyT)
    rw [hh, hs] at this
    simp at this
    omega
  refine ⟨w', e1, ⟨⟨_, ?_, hsz, fun x hx => ?_⟩, fun x q hq => ?_⟩, e3⟩
  · have := own_tightM e2
    rw [hsz] at this
    exact this
  · unfold eraP
    by_cases he : x = id
    · subst he
      rw [if_pos rfl]
      exact ⟨by rw [Maps.has_del_same]; rfl, fun q hq => by cases hq⟩
    · rw [if_neg he, Maps.has_del_other (litne he)]
      refine ⟨(hd x hx).1, fun q hq z => ?_⟩
      rw [Maps.atKey_del_other (litne he)]
      exact (hd x hx).2 q hq z
  · unfold eraP at hq
    split at hq
    · cases hq
    · exact h.lt x q hq
theorem PM.made (w : World) : PM (w.alloc (.map #[] 0)) w.heap.size (fun _ => none) 0 :=
  ⟨⟨.map [], World.ownsMap_made w Try.prog 3 RT, rfl, fun _ _ => ⟨rfl, fun _ h => by cases h⟩⟩, fun _ _ h => by cases h⟩
/-- the cells of alarms -/
def flA (A : List AL) : List Value := A.flatMap fun x => [.int .i64 x.1, .int .i64 x.2]
theorem flA_len (A : List AL) : (flA A).length = A.length * 2 := by
  induction A with
  | nil => rfl
  | cons x A ih => simp only [flA, List.flatMap_cons, List.length_append, List.length_cons, List.length_nil] at ih ⊢; omega
theorem flA_app (A B : List AL) : flA (A ++ B) = flA A ++ flA B := by unfold flA; rw [List.flatMap_append]
theorem flA_get : ∀ (A : List AL) (k : Nat), k < A.length → (flA A)[k * 2]? = some (.int .i64 (gA A k).1) ∧ (flA A)[k * 2 + 1]? = some (.int .i64 (gA A k).2)
  | [], k, h => by simp at h
  | x :: A, 0, _ => ⟨rfl, rfl⟩
  | x :: A, k + 1, h => by
    have ih := flA_get A k (by simpa using h)
    have e : flA (x :: A) = .int .i64 x.1 :: .int .i64 x.2 :: flA A := rfl
    rw [e, show (k + 1) * 2 = k * 2 + 1 + 1 by omega]
    exact ih
theorem flA_set : ∀ (A : List AL) (k : Nat) (x : AL), ((flA A).set (k * 2) (.int .i64 x.1)).set (k * 2 + 1) (.int .i64 x.2) = flA (A.set k x)
  | [], k, x => rfl
  | y :: A, 0, x => rfl
  | y :: A, k + 1, x => by
    have ih := flA_set A k x
    have e : ∀ (z : AL) (B : List AL), flA (z :: B) = .int .i64 z.1 :: .int .i64 z.2 :: flA B := fun _ _ => rfl
    rw [e, List.set_cons_succ, e, show (k + 1) * 2 = k * 2 + 1 + 1 by omega, ← ih]
    rfl
theorem flA_take (A : List AL) (n : Nat) : flA (A.take n) = (flA A).take (n * 2) := by
  induction A generalizing n with
  | nil => simp [flA]
  | cons x A ih =>
    cases n with
    | zero => simp [flA]
    | succ n =>
      have e : ∀ (z : AL) (B : List AL), flA (z :: B) = .int .i64 z.1 :: .int .i64 z.2 :: flA B := fun _ _ => rfl
      rw [List.take_succ_cons, e, e, ih, show (n + 1) * 2 = n * 2 + 1 + 1 by omega]
      rfl
abbrev RowA (w : World) (v : Value) (A : List AL) : Prop := w.ownsRow 0 42 2 v A.length (flA A)
theorem RowA.form {w : World} {v : Value} {A : List AL} (h : RowA w v A) : ∃ a c, v = .slice a A.length c := by
  rcases h.2 with ⟨rfl, h0⟩ | ⟨g, cap, cur, hv, _⟩
  · exact ⟨none, 0, by rw [h0]⟩
  · exact ⟨_, _, hv⟩
/-- what a row that is not empty has in memory -/
theorem RowA.pos {w : World} {v : Value} {A : List AL} (h : RowA w v A) (h0 : 0 < A.length) : ∃ g cap cur, v = .slice (some ⟨g, 0, none⟩) A.length cap ∧ w.heap[g]? = some (.cells cur 42 (0, 0)) ∧ A.length ≤ cap ∧ cap ≤ maxLen ∧ cur.size = cap * 2 ∧ cur.toList.take (A.length * 2) = flA A := by
  rcases h.2 with ⟨_, h1⟩ | ⟨g, cap, cur, hv, _, hg, hc, hm, hs, ht⟩
  · omega
  · exact ⟨g, cap, cur, hv, hg, hc, hm, hs, ht⟩
theorem cur_get {cur : Array Value} {A : List AL} {k : Nat} (hk : k < A.length) (ht : cur.toList.take (A.length * 2) = flA A) : cur[k * 2]? = some (.int .i64 (gA A k).1) ∧ cur[k * 2 + 1]? = some (.int .i64 (gA A k).2) := by
  obtain ⟨a, b⟩ := flA_get A k hk
  rw [← ht, List.getElem?_take, if_pos (by omega)] at a
  rw [← ht, List.getElem?_take, if_pos (by omega)] at b
  exact ⟨by simpa using a, by simpa using b⟩
theorem cur_set {cur : Array Value} {A : List AL} (k : Nat) (x : AL) (ht : cur.toList.take (A.length * 2) = flA A) : ((cur.setIfInBounds (k * 2) (.int .i64 x.1)).setIfInBounds (k * 2 + 1) (.int .i64 x.2)).toList.take (A.length * 2) = flA (A.set k x) := by
  rw [← flA_set, ← ht]
  simp only [Array.toList_setIfInBounds, List.take_set]
/-- two cells of the row are written -/
theorem RowA.set {w w' : World} {A : List AL} {g cap : Nat} {cur : Array Value} {k : Nat} {x : AL} (hc : A.length ≤ cap) (hm : cap ≤ maxLen) (hs : cur.size = cap * 2) (ht : cur.toList.take (A.length * 2) = flA A)
    (hw : w'.heap[g]? = some (.cells ((cur.setIfInBounds (k * 2) (.int .i64 x.1)).setIfInBounds (k * 2 + 1) (.int .i64 x.2)) 42 (0, 0))) : RowA w' (.slice (some ⟨g, 0, none⟩) A.length cap) (A.set k x) := by
  refine ⟨by rw [flA_len], .inr ⟨g, cap, _, by rw [List.length_set], Nat.zero_le _, hw, by rw [List.length_set]; exact hc, hm, by simpa using hs, ?_⟩⟩
  rw [List.length_set]
  exact cur_set k x ht
/-- the queue in block Q, its places in block m, its row v -/
structure Tq (w : World) (Q m : Nat) (v : Value) (A : List AL) (pm : Int → Option Nat) (c : Nat) : Prop where
  blk : w.heap[Q]? = some (.cells #[v, .map (some m)] 60 (0, 0))
  row : RowA w v A
  map : PM w m pm c
theorem Tq.lt {w : World} {Q m : Nat} {v : Value} {A : List AL} {pm : Int → Option Nat} {c : Nat} (h : Tq w Q m v A pm c) : Q < w.heap.size := (Array.getElem?_eq_some_iff.1 h.blk).1
theorem Tq.ne {w : World} {Q m : Nat} {v : Value} {A : List AL} {pm : Int → Option Nat} {c : Nat} (h : Tq w Q m v A pm c) : Q ≠ m := by
  obtain ⟨es, clock, hb⟩ := h.map.blk
  rintro rfl
  rw [h.blk] at hb
  cases hb
theorem Tq.rne {w : World} {Q m : Nat} {v : Value} {A : List AL} {pm : Int → Option Nat} {c : Nat} (h : Tq w Q m v A pm c) {g : Nat} (hg : v.ownBlock = some g) : g ≠ Q ∧ g ≠ m ∧ g < w.heap.size := by
  rcases h.row.2 with ⟨rfl, _⟩ | ⟨g', cap, cur, rfl, _, hh, _⟩
  · cases hg
  · simp only [Value.ownBlock, Option.some.injEq] at hg
    subst hg
    refine ⟨?_, ?_, (Array.getElem?_eq_some_iff.1 hh).1⟩
    · rintro rfl
      rw [h.blk] at hh
      injection hh with hh
      injection hh with _ hh _
      exact absurd hh (by decide)
    · obtain ⟨es, clock, hb⟩ := h.map.blk
      rintro rfl
      rw [hh] at hb
      cases hb
theorem Tq.keep {w w' : World} {Q m : Nat} {v : Value} {A : List AL} {pm : Int → Option Nat} {c : Nat} (h : Tq w Q m v A pm c) (h1 : w'.heap[Q]? = w.heap[Q]?) (h2 : w'.heap[m]? = w.heap[m]?) (h3 : ∀ g, v.ownBlock = some g → w'.heap[g]? = w.heap[g]?) : Tq w' Q m v A pm c :=
  ⟨h1.trans h.blk, Ap.own_keep h.row h3, h.map.keep h2⟩
theorem Tq.below {w w' : World} {Q m : Nat} {v : Value} {A : List AL} {pm : Int → Option Nat} {c : Nat} (h : Tq w Q m v A pm c) (hb : Below w.heap.size w w') : Tq w' Q m v A pm c :=
  h.keep (hb.block Q h.lt) (hb.block m h.map.mlt) (fun g hg => hb.block g (h.rne hg).2.2)
/-- of the blocks that were there just the queue's, its places' and its row's may have turned -/
structure FrT (Q m : Nat) (v : Value) (w w' : World) : Prop where
  os : w'.os = w.os
  tape : w'.tape = w.tape
  output : w'.output = w.output
  size : w.heap.size ≤ w'.heap.size
  blk : ∀ j, j < w.heap.size → j ≠ Q → j ≠ m → v.ownBlock ≠ some j → w'.heap[j]? = w.heap[j]?
/-- a row that stays where it is, or lies anew -/
def RowN (w : World) (v v' : Value) : Prop := ∀ g, v'.ownBlock = some g → v.ownBlock = some g ∨ w.heap.size ≤ g
theorem RowN.refl (w : World) (v : Value) : RowN w v v := fun _ h => .inl h
theorem FrT.of_below {Q m : Nat} {v : Value} {w w' : World} (h : Below w.heap.size w w') : FrT Q m v w w' := ⟨h.os, h.tape, h.output, h.size, fun j hj _ _ _ => h.block j hj⟩
theorem FrT.refl (Q m : Nat) (v : Value) (w : World) : FrT Q m v w w := ⟨rfl, rfl, rfl, Nat.le_refl _, fun _ _ _ _ _ => rfl⟩
theorem FrT.trans {Q m : Nat} {v v1 : Value} {w w1 w2 : World} (h : FrT Q m v w w1) (k : FrT Q m v1 w1 w2) (hr : RowN w v v1) : FrT Q m v w w2 :=
  ⟨k.os.trans h.os, k.tape.trans h.tape, k.output.trans h.output, Nat.le_trans h.size k.size, fun j hj h1 h2 h3 => (k.blk j (Nat.lt_of_lt_of_le hj h.size) h1 h2 (fun e => by
    rcases hr j e with h4 | h4
    · exact h3 h4
    · omega)).trans (h.blk j hj h1 h2 h3)⟩
theorem RowN.trans {w w1 : World} {v v1 v2 : Value} (h : RowN w v v1) (k : RowN w1 v1 v2) (hs : w.heap.size ≤ w1.heap.size) : RowN w v v2 := fun g hg => by
  rcases k g hg with h1 | h1
  · exact h g h1
  · exact .inr (Nat.le_trans hs h1)
theorem FrT.below {B Q m : Nat} {v : Value} {w0 w w' : World} (h : FrT Q m v w w') (hb : Below B w0 w) (hQ : Q < w.heap.size) (h1 : B ≤ Q) (h2 : B ≤ m) (h3 : ∀ g, v.ownBlock = some g → B ≤ g) : Below B w0 w' :=
  ⟨h.os.trans hb.os, h.tape.trans hb.tape, h.output.trans hb.output, Nat.le_trans hb.size h.size, fun j hj =>
    (h.blk j (by omega) (by omega) (by omega) (fun e => by have := h3 j e; omega)).trans (hb.block j hj)⟩
/-- the places tell where each name stands -/
structure Co (A : List AL) (pm : Int → Option Nat) : Prop where
  pos : ∀ k, k < A.length → pm (gA A k).2 = some k
  is : ∀ id k, pm id = some k → k < A.length ∧ (gA A k).2 = id
  num : ∀ x ∈ A, i64T x.2 ∧ 0 ≤ x.1 ∧ x.1 < 1099511627776
  len : A.length ≤ 4096
theorem Co.inj {A : List AL} {pm : Int → Option Nat} (h : Co A pm) {i j : Nat} (hi : i < A.length) (hj : j < A.length) (e : (gA A i).2 = (gA A j).2) : i = j := by
  have h1 := h.pos i hi
  have h2 := h.pos j hj
  rw [e, h2] at h1
  injection h1 with h1
  exact h1.symm
/-- two change their places -/
def swapP (A : List AL) (pm : Int → Option Nat) (i j : Nat) : Int → Option Nat := updP (updP pm (gA A j).2 i) (gA A i).2 j
theorem Co.swap {A : List AL} {pm : Int → Option Nat} (h : Co A pm) {i j : Nat} (hi : i < A.length) (hj : j < A.length) : Co (swapA A i j) (swapP A pm i j) := by
  refine ⟨fun k hk => ?_, fun id k hk => ?_, fun x hx => ?_, by rw [swapA_len]; exact h.len⟩
  · rw [swapA_len] at hk
    rw [gA_swap hi hj]
    unfold swapP updP
    by_cases e1 : k = j
    · rw [if_pos e1, if_pos rfl, e1]
    · rw [if_neg e1]
      by_cases e2 : k = i
      · rw [if_pos e2]
        by_cases e3 : (gA A j).2 = (gA A i).2
        · have := h.inj hj hi e3
          omega
        · rw [if_neg e3, if_pos rfl, e2]
      · rw [if_neg e2]
        rw [if_neg (fun e => e2 (h.inj hk hi e)), if_neg (fun e => e1 (h.inj hk hj e))]
        exact h.pos k hk
  · rw [swapA_len, gA_swap hi hj]
    unfold swapP updP at hk
    by_cases e1 : id = (gA A i).2
    · rw [if_pos e1] at hk
      injection hk with hk
      subst hk
      exact ⟨hj, by rw [if_pos rfl, e1]⟩
    · rw [if_neg e1] at hk
      by_cases e2 : id = (gA A j).2
      · rw [if_pos e2] at hk
        injection hk with hk
        subst hk
        refine ⟨hi, ?_⟩
        by_cases e3 : i = j
        · subst e3; exact absurd e2 e1
        · rw [if_neg e3, if_pos rfl, e2]
      · rw [if_neg e2] at hk
        obtain ⟨a, b⟩ := h.is id k hk
        refine ⟨a, ?_⟩
        rw [if_neg (fun e => e2 (by rw [← b, e])), if_neg (fun e => e1 (by rw [← b, e]))]
        exact b
  · exact h.num x ((swapA_perm hi hj).mem_iff.1 hx)
theorem Co.at {A : List AL} {pm : Int → Option Nat} (h : Co A pm) {k : Nat} (hk : k < A.length) : i64T (gA A k).2 ∧ 0 ≤ (gA A k).1 ∧ (gA A k).1 < 1099511627776 := h.num _ (gA_mem hk)
end Go.Proofs.Ytfakejfpicjedaa
