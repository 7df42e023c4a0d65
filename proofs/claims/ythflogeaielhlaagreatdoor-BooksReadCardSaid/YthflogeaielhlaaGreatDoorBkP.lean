/- Books, plainly (layer 14): lines by users, as a map reads them. No condition. -/
import Derived.Maps.OwnSet
import Derived.Maps.Views
namespace Go.Proofs.YthflogeaielhlaaGreatDoor.Bk
set_option linter.unusedVariables false
set_option linter.unusedSimpArgs false
open Go Go.Maps Go.ChangeMaps

abbrev LV := List Int
def vL (l : LV) : List Value := l.map (Value.int .i64)
def zL : LV := List.replicate 9 0
def usr (l : LV) : Int := l.getD 0 0
abbrev DU := DataW Unit
def encL (l : LV) : DU := .agg (l.map fun n => DataW.lit (Lit.int .i64 n))
def decV : List Value → Option LV
  | [] => some []
  | .int .i64 n :: r => (decV r).map (n :: ·)
  | _ :: _ => none
def RL (v : Value) : Option (DU × List MemPlace) := match v with
  | .agg a => (decV a.toList).map fun l => (encL l, [])
  | _ => none
theorem decV_vL : ∀ l : LV, decV (vL l) = some l
  | [] => rfl
  | n :: l => by
    show (decV (vL l)).map (n :: ·) = _
    rw [decV_vL l]; rfl
theorem decV_inv : ∀ (vs : List Value) (l : LV), decV vs = some l → vs = vL l
  | [], l, h => by simp [decV] at h; subst h; rfl
  | v :: vs, l, h => by
    unfold decV at h
    split at h
    · rename_i heq; cases heq
    · rename_i n r heq
      cases heq
      cases hd : decV vs with
      | none => rw [hd] at h; cases h
      | some m =>
        rw [hd] at h
        simp only [Option.map_some, Option.some.injEq] at h
        subst h
        rw [decV_inv vs m hd]; rfl
    · cases h
theorem RL_mk (l : LV) : RL (.agg (vL l).toArray) = some (encL l, []) := by
  unfold RL
  simp [decV_vL]
theorem encL_inj : ∀ {l m : LV}, encL l = encL m → l = m := by
  intro l m h
  unfold encL at h
  injection h with h
  induction l generalizing m with
  | nil => cases m with
    | nil => rfl
    | cons x m => cases h
  | cons y l ih => cases m with
    | nil => cases h
    | cons x m =>
      simp only [List.map_cons, List.cons.injEq] at h
      obtain ⟨h1, h2⟩ := h
      injection h1 with h1
      injection h1 with _ h1
      rw [h1, ih h2]
theorem RL_inv {v : Value} {l : LV} {ps : List MemPlace} (h : RL v = some (encL l, ps)) : v = .agg (vL l).toArray := by
  unfold RL at h
  split at h
  · rename_i a
    cases hd : decV a.toList with
    | none => rw [hd] at h; cases h
    | some m =>
      rw [hd] at h
      simp only [Option.map_some, Option.some.injEq, Prod.mk.injEq] at h
      have e := encL_inj h.1
      subst e
      have := decV_inv _ _ hd
      rw [← this]
  · cases h
def bD (L : List LV) : DU := .map (L.map fun l => (Lit.int .i64 (usr l), encL l))
def getB (L : List LV) (u : Int) : Option LV := L.find? (fun l => usr l == u)
def lineB (L : List LV) (u : Int) : LV := (getB L u).getD zL
def putB : List LV → LV → List LV
  | [], x => [x]
  | y :: r, x => if usr x < usr y then x :: y :: r else if usr x = usr y then x :: r else y :: putB r x
def Up (L : List LV) : Prop := L.Pairwise (fun a b => usr a < usr b)
theorem same_iff (a b : Int) : Lit.sameKey (.int .i64 a) (.int .i64 b) = (a == b) := by
  unfold Lit.sameKey
  by_cases h : a = b
  · simp [h]
  · simp [h]
theorem bD_at : ∀ (L : List LV) (u : Int), (bD L).atKey (.int .i64 u) (encL zL) = encL (lineB L u)
  | [], u => rfl
  | y :: L, u => by
    have ih := bD_at L u
    unfold bD DataW.atKey lineB getB at *
    simp only [List.map_cons, List.find?_cons, same_iff] at *
    cases h : (usr y == u)
    · exact ih
    · rfl
theorem bD_has : ∀ (L : List LV) (u : Int), Maps.has (bD L) (.int .i64 u) = (getB L u).isSome
  | [], u => rfl
  | y :: L, u => by
    have ih := bD_has L u
    unfold bD getB at *
    rw [Maps.has_eq] at *
    simp only [List.map_cons, List.any_cons, List.find?_cons, same_iff] at *
    cases h : (usr y == u)
    · simpa using ih
    · simp
theorem filter_up : ∀ (L : List LV) (u : Int), (∀ l ∈ L, u < usr l) → (L.map fun l => (Lit.int .i64 (usr l), encL l)).filter (fun p => !p.1.sameKey (.int .i64 u)) = L.map fun l => (Lit.int .i64 (usr l), encL l)
  | [], _, _ => rfl
  | y :: L, u, h => by
    have h1 := h y List.mem_cons_self
    simp only [List.map_cons, List.filter_cons, same_iff]
    rw [show (usr y == u) = false by simp; omega, filter_up L u fun l hl => h l (List.mem_cons_of_mem _ hl)]
    simp
theorem bD_put : ∀ (L : List LV) (x : LV), Up L → (bD L).put (.int .i64 (usr x)) (encL x) = bD (putB L x)
  | [], x, _ => rfl
  | y :: L, x, h => by
    have h0 := List.pairwise_cons.1 h
    have ih := bD_put L x h0.2
    unfold putB
    unfold bD DataW.put at *
    simp only at ih
    injection ih with ih
    congr 1
    simp only [List.map_cons, List.filter_cons, same_iff]
    by_cases h1 : usr x < usr y
    · rw [if_pos h1, show (usr y == usr x) = false by simp; omega, filter_up L (usr x) fun l hl => by have := h0.1 l hl; omega]
      simp [DataW.insert, Lit.before, h1]
    · rw [if_neg h1]
      by_cases h2 : usr x = usr y
      · rw [if_pos h2, show (usr y == usr x) = true by simp [h2], filter_up L (usr x) fun l hl => by have := h0.1 l hl; omega]
        cases L with
        | nil => simp [DataW.insert]
        | cons z L =>
          have := h0.1 z List.mem_cons_self
          simp [DataW.insert, Lit.before, show usr x < usr z by omega]
      · rw [if_neg h2, show (usr y == usr x) = false by simp; omega]
        simp only [Bool.not_false, if_true, List.map_cons]
        rw [DataW.insert]
        rw [show Lit.before (Lit.int .i64 (usr x)) (Lit.int .i64 (usr y)) = false by simp [Lit.before, h1]]
        simp only [Bool.false_eq_true, if_false]
        rw [ih]
theorem putB_mem {x : LV} : ∀ {L : List LV} {l : LV}, l ∈ putB L x → l = x ∨ l ∈ L
  | [], l, h => by simp [putB] at h; exact .inl h
  | y :: L, l, h => by
    unfold putB at h
    split at h
    · rcases List.mem_cons.1 h with h | h
      · exact .inl h
      · exact .inr h
    · split at h
      · rcases List.mem_cons.1 h with h | h
        · exact .inl h
        · exact .inr (List.mem_cons_of_mem _ h)
      · rcases List.mem_cons.1 h with h | h
        · exact .inr (h ▸ List.mem_cons_self)
        · rcases putB_mem h with h | h
          · exact .inl h
          · exact .inr (List.mem_cons_of_mem _ h)
theorem putB_up {x : LV} : ∀ {L : List LV}, Up L → Up (putB L x)
  | [], _ => List.pairwise_singleton _ _
  | y :: L, h => by
    have h0 := List.pairwise_cons.1 h
    unfold putB
    split
    · rename_i h1
      exact List.pairwise_cons.2 ⟨fun l hl => by rcases List.mem_cons.1 hl with rfl | hl; exact h1; have := h0.1 l hl; omega, h⟩
    · split
      · rename_i h2
        exact List.pairwise_cons.2 ⟨fun l hl => by have := h0.1 l hl; omega, h0.2⟩
      · rename_i h1 h2
        exact List.pairwise_cons.2 ⟨fun l hl => by
          rcases putB_mem hl with rfl | hl
          · omega
          · exact h0.1 l hl, putB_up h0.2⟩
theorem getB_put {x : LV} {u : Int} : ∀ {L : List LV}, Up L → getB (putB L x) u = if usr x = u then some x else getB L u
  | [], _ => by
    simp only [putB, getB, List.find?_cons, List.find?_nil]
    by_cases h : usr x = u
    · simp [h]
    · rw [if_neg h, show (usr x == u) = false by simpa using h]
  | y :: L, h => by
    have h0 := List.pairwise_cons.1 h
    have ih := getB_put (x := x) (u := u) h0.2
    have hno : ∀ v, (∀ l ∈ L, v < usr l) → v < usr y → getB (y :: L) v = none := fun v h1 h2 => by
      unfold getB
      rw [List.find?_eq_none]
      intro l hl
      rcases List.mem_cons.1 hl with rfl | hl
      · simp; omega
      · have := h1 l hl; simp; omega
    unfold putB
    split
    · rename_i h1
      by_cases hu : usr x = u
      · rw [if_pos hu]; simp [getB, List.find?_cons, hu]
      · rw [if_neg hu]; simp [getB, List.find?_cons, hu]
    · split
      · rename_i h1 h2
        by_cases hu : usr x = u
        · rw [if_pos hu]; simp [getB, List.find?_cons, hu]
        · rw [if_neg hu]
          simp only [getB, List.find?_cons]
          rw [show (usr x == u) = false by simpa using hu, show (usr y == u) = false by rw [← h2]; simpa using hu]
      · rename_i h1 h2
        by_cases hy : usr y = u
        · rw [if_neg (by omega)]
          simp [getB, List.find?_cons, hy]
        · simp only [getB, List.find?_cons, show (usr y == u) = false by simpa using hy] at ih ⊢
          exact ih
theorem up_len : ∀ (L : List LV) (lo hi : Int), Up L → (∀ l ∈ L, lo ≤ usr l ∧ usr l ≤ hi) → (L.length : Int) ≤ max 0 (hi - lo + 1)
  | [], lo, hi, _, _ => by simp; omega
  | y :: L, lo, hi, h, hb => by
    have h0 := List.pairwise_cons.1 h
    have h1 := hb y List.mem_cons_self
    have := up_len L (usr y + 1) hi h0.2 fun l hl => ⟨by have := h0.1 l hl; omega, (hb l (List.mem_cons_of_mem _ hl)).2⟩
    simp only [List.length_cons]
    omega
theorem getB_usr {L : List LV} {u : Int} {l : LV} (h : getB L u = some l) : usr l = u ∧ l ∈ L := by
  unfold getB at h
  exact ⟨by simpa using List.find?_some h, List.mem_of_find?_eq_some h⟩
/-- books that may be: rising users, nine numbers a line -/
structure BG (L : List LV) : Prop where
  up : Up L
  all : ∀ l ∈ L, l.length = 9 ∧ 1 ≤ usr l ∧ usr l ≤ 16
theorem BG.nil : BG [] := ⟨List.Pairwise.nil, fun _ h => by cases h⟩
theorem BG.len {L : List LV} (h : BG L) : L.length ≤ 16 := by
  have := up_len L 1 16 h.up fun l hl => (h.all l hl).2
  omega
theorem BG.put {L : List LV} (h : BG L) {x : LV} (h1 : x.length = 9) (h2 : 1 ≤ usr x) (h3 : usr x ≤ 16) : BG (putB L x) :=
  ⟨putB_up h.up, fun l hl => by
    rcases putB_mem hl with rfl | hl
    · exact ⟨h1, h2, h3⟩
    · exact h.all l hl⟩
theorem BG.line {L : List LV} (h : BG L) (u : Int) : (lineB L u).length = 9 := by
  unfold lineB
  cases hg : getB L u with
  | none => rfl
  | some l => exact (h.all l (getB_usr hg).2).1
end Go.Proofs.YthflogeaielhlaaGreatDoor.Bk
