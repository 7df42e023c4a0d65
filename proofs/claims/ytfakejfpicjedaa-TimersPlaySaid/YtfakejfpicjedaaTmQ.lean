/- A clock's alarms in their order, plainly (layer 17). No condition. -/
import Derived.Test.YtfakejfpicjedaaTmA
namespace Go.Proofs.Ytfakejfpicjedaa
set_option linter.unusedVariables false
open Go.RowKit Tm

abbrev SrtT (R : List AL) : Prop := R.Pairwise (fun a b => ltB a b = true)
def delR (R : List AL) (id : Int) : List AL := R.filter fun y => y.2 != id
def insR (x : AL) : List AL → List AL
  | [] => [x]
  | y :: l => if ltB y x = true then y :: insR x l else x :: y :: l
def inR (R : List AL) (id : Int) : Bool := R.any fun y => y.2 == id
def atR (R : List AL) (id : Int) : Option Int := (R.find? fun y => y.2 == id).map (·.1)
def dueR (R : List AL) (now : Int) : List AL := R.takeWhile fun y => decide (y.1 ≤ now)
def restR (R : List AL) (now : Int) : List AL := R.dropWhile fun y => decide (y.1 ≤ now)
def nextR : List AL → Int
  | [] => 1099511627776
  | x :: _ => x.1
theorem ins_perm (x : AL) : ∀ l, (insR x l).Perm (x :: l)
  | [] => .refl _
  | y :: l => by
    unfold insR
    split
    · exact ((ins_perm x l).cons y).trans (.swap x y l)
    · exact .refl _
theorem ins_mem {x z : AL} {l : List AL} : z ∈ insR x l ↔ z = x ∨ z ∈ l := by
  rw [(ins_perm x l).mem_iff, List.mem_cons]
theorem lt_total {a b : AL} (h : a.2 ≠ b.2) (h1 : ltB a b = false) : ltB b a = true := by
  rw [lt_not] at h1
  rw [lt_iff]
  omega
theorem ins_srt {x : AL} : ∀ {l : List AL}, SrtT l → (∀ y ∈ l, y.2 ≠ x.2) → SrtT (insR x l)
  | [], _, _ => List.pairwise_singleton _ _
  | y :: l, h, hn => by
    have h0 := List.pairwise_cons.1 h
    unfold insR
    split
    · rename_i hlt
      refine List.pairwise_cons.2 ⟨fun z hz => ?_, ins_srt h0.2 fun z hz => hn z (List.mem_cons_of_mem _ hz)⟩
      rcases ins_mem.1 hz with rfl | hz
      · exact hlt
      · exact h0.1 z hz
    · rename_i hlt
      have hxy : ltB x y = true := lt_total (hn y List.mem_cons_self) (by simpa using hlt)
      refine List.pairwise_cons.2 ⟨fun z hz => ?_, h⟩
      rcases List.mem_cons.1 hz with rfl | hz
      · exact hxy
      · exact lt_tr hxy (h0.1 z hz)
theorem del_srt {R : List AL} (h : SrtT R) (id : Int) : SrtT (delR R id) := h.filter _
theorem del_mem {R : List AL} {id : Int} {y : AL} : y ∈ delR R id ↔ y ∈ R ∧ y.2 ≠ id := by
  unfold delR
  rw [List.mem_filter, bne_iff_ne]
/-- two lists in order that have the same alarms are one -/
theorem srt_eq : ∀ {l m : List AL}, l.Perm m → SrtT l → SrtT m → l = m
  | [], m, h, _, _ => (List.Perm.nil_eq h)
  | x :: l, [], h, _, _ => absurd h.length_eq (by simp)
  | x :: l, y :: m, h, hl, hm => by
    have a := List.pairwise_cons.1 hl
    have b := List.pairwise_cons.1 hm
    have hx : x ∈ y :: m := h.mem_iff.1 List.mem_cons_self
    have hy : y ∈ x :: l := h.mem_iff.2 List.mem_cons_self
    have e : x = y := by
      rcases List.mem_cons.1 hx with e | hx
      · exact e
      · rcases List.mem_cons.1 hy with e | hy
        · exact e.symm
        · have h1 := b.1 x hx
          have h2 := a.1 y hy
          rw [lt_asy h1] at h2
          cases h2
    subst e
    rw [srt_eq ((List.perm_cons x).1 h) a.2 b.2]
theorem ids_inj {A : List AL} {pm : Int → Option Nat} (h : Co A pm) {y z : AL} (hy : y ∈ A) (hz : z ∈ A) (e : y.2 = z.2) : y = z := by
  obtain ⟨i, hi, rfl⟩ := List.getElem_of_mem hy
  obtain ⟨j, hj, rfl⟩ := List.getElem_of_mem hz
  rw [← gA_get hi, ← gA_get hj] at *
  rw [h.inj hi hj e]
theorem known_iff {A R : List AL} {pm : Int → Option Nat} (h : Co A pm) (hp : A.Perm R) (id : Int) : (pm id).isSome = inR R id := by
  rw [Bool.eq_iff_iff]
  unfold inR
  rw [List.any_eq_true]
  constructor
  · intro hs
    obtain ⟨k, hk⟩ := Option.isSome_iff_exists.1 hs
    obtain ⟨a, b⟩ := h.is id k hk
    exact ⟨gA A k, hp.mem_iff.1 (gA_mem a), by simpa using b⟩
  · rintro ⟨y, hy, he⟩
    obtain ⟨i, hi, rfl⟩ := List.getElem_of_mem (hp.mem_iff.2 hy)
    have := h.pos i hi
    rw [gA_get hi, show A[i].2 = id by simpa using he] at this
    rw [this]
    rfl
theorem set_split {A : List AL} {i : Nat} (hi : i < A.length) (x : AL) : A.set i x = A.take i ++ x :: A.drop (i + 1) := by
  rw [List.set_eq_take_append_cons_drop, if_pos hi]
theorem take_drop_one {A : List AL} {i : Nat} (hi : i < A.length) : A = A.take i ++ gA A i :: A.drop (i + 1) := by
  rw [gA_get hi, ← List.drop_eq_getElem_cons hi, List.take_append_drop]
/-- without its one alarm of a name -/
theorem filter_one {A : List AL} {pm : Int → Option Nat} (h : Co A pm) {i : Nat} (hi : i < A.length) : delR A (gA A i).2 = A.take i ++ A.drop (i + 1) := by
  have e := take_drop_one hi
  have hne : ∀ y ∈ A.take i ++ A.drop (i + 1), (y.2 != (gA A i).2) = true := by
    intro y hy
    rw [bne_iff_ne]
    intro he
    rcases List.mem_append.1 hy with hy | hy
    · obtain ⟨j, hj, rfl⟩ := List.getElem_of_mem hy
      rw [List.length_take] at hj
      rw [List.getElem_take] at he
      have := h.inj (i := j) (j := i) (by omega) hi (by rw [gA_get (by omega)]; exact he)
      omega
    · obtain ⟨j, hj, rfl⟩ := List.getElem_of_mem hy
      rw [List.length_drop] at hj
      rw [List.getElem_drop] at he
      have := h.inj (i := i + 1 + j) (j := i) (by omega) hi (by rw [gA_get (by omega)]; exact he)
      omega
  obtain ⟨x, hx⟩ : ∃ x, x = gA A i := ⟨_, rfl⟩
  rw [← hx] at e hne ⊢
  unfold delR
  have e2 : A.filter (fun y => y.2 != x.2) = (A.take i ++ x :: A.drop (i + 1)).filter fun y => y.2 != x.2 := congrArg _ e
  rw [e2, List.filter_append, List.filter_cons, if_neg (by simp), ← List.filter_append]
  exact List.filter_eq_self.2 hne
theorem set_perm {A : List AL} {pm : Int → Option Nat} (h : Co A pm) {i : Nat} (hi : i < A.length) (x : AL) : (A.set i x).Perm (x :: delR A (gA A i).2) := by
  rw [filter_one h hi, set_split hi]
  exact List.perm_middle
theorem one_perm {A : List AL} {pm : Int → Option Nat} (h : Co A pm) {i : Nat} (hi : i < A.length) : A.Perm (gA A i :: delR A (gA A i).2) := by
  rw [filter_one h hi]
  have hm : (A.take i ++ gA A i :: A.drop (i + 1)).Perm (gA A i :: (A.take i ++ A.drop (i + 1))) := List.perm_middle
  rwa [← take_drop_one hi] at hm
theorem del_perm {A R : List AL} (h : A.Perm R) (id : Int) : (delR A id).Perm (delR R id) := h.filter _
theorem del_none {R : List AL} {id : Int} (h : inR R id = false) : delR R id = R := by
  unfold delR
  refine List.filter_eq_self.2 fun y hy => ?_
  unfold inR at h
  rw [List.any_eq_false] at h
  have := h y hy
  rw [bne_iff_ne]
  simpa using this
theorem Co.setAt {A : List AL} {pm : Int → Option Nat} (h : Co A pm) {i : Nat} (hi : i < A.length) {t : Int} (ht : 0 ≤ t ∧ t < 1099511627776) : Co (A.set i (t, (gA A i).2)) pm := by
  have hg : ∀ k, (gA (A.set i (t, (gA A i).2)) k).2 = (gA A k).2 := fun k => by
    rw [gA_set _ hi]
    split
    · rename_i e; rw [e]
    · rfl
  refine ⟨fun k hk => ?_, fun id k hk => ?_, fun y hy => ?_, by rw [List.length_set]; exact h.len⟩
  · rw [hg]
    exact h.pos k (by simpa using hk)
  · rw [hg, List.length_set]
    exact h.is id k hk
  · rcases List.mem_or_eq_of_mem_set hy with hy | rfl
    · exact h.num y hy
    · exact ⟨(h.at hi).1, ht⟩
/-- the head of the order is the heap's first -/
theorem head_is {A : List AL} {x : AL} {R : List AL} (h : HP A A.length) (hp : A.Perm (x :: R)) (hs : SrtT (x :: R)) : gA A 0 = x := by
  have hl := hp.length_eq
  have h0 : 0 < A.length := by rw [hl]; simp
  have hm : gA A 0 ∈ x :: R := hp.mem_iff.1 (gA_mem h0)
  rcases List.mem_cons.1 hm with e | hm
  · exact e
  · have h1 := (List.pairwise_cons.1 hs).1 _ hm
    obtain ⟨i, hi, hx⟩ := List.getElem_of_mem (hp.mem_iff.2 (List.mem_cons_self (a := x) (l := R)))
    have h2 := h.least i hi
    rw [gA_get hi, hx, h1] at h2
    cases h2
theorem due_cons {x : AL} {R : List AL} {now : Int} (h : x.1 ≤ now) : dueR (x :: R) now = x :: dueR R now ∧ restR (x :: R) now = restR R now := by
  unfold dueR restR
  rw [List.takeWhile_cons, List.dropWhile_cons]
  simp [h]
theorem due_stop {R : List AL} {now : Int} (h : R = [] ∨ ∃ x S, R = x :: S ∧ ¬ x.1 ≤ now) : dueR R now = [] ∧ restR R now = R := by
  rcases h with rfl | ⟨x, S, rfl, hx⟩
  · exact ⟨rfl, rfl⟩
  · unfold dueR restR
    rw [List.takeWhile_cons, List.dropWhile_cons]
    simp [hx]
theorem atR_mem {R : List AL} {id : Int} {y : AL} (hu : ∀ y ∈ R, ∀ z ∈ R, y.2 = z.2 → y = z) (hy : y ∈ R) (he : y.2 = id) : atR R id = some y.1 := by
  unfold atR
  cases hf : R.find? fun y => y.2 == id with
  | none =>
    rw [List.find?_eq_none] at hf
    exact absurd (by simpa using he) (hf y hy)
  | some z =>
    have h1 := List.mem_of_find?_eq_some hf
    have h2 := List.find?_some hf
    rw [hu z h1 y hy (by rw [he]; simpa using h2)]
    rfl
theorem atR_none {R : List AL} {id : Int} (h : inR R id = false) : atR R id = none := by
  unfold atR inR at *
  rw [List.any_eq_false] at h
  rw [List.find?_eq_none.2 h]
  rfl
end Go.Proofs.Ytfakejfpicjedaa
