/- Names and counts of lists of alarms, plainly (layer 17). No condition. -/
import Derived.Test.YtfakejfpicjedaaTmJ
import Derived.Test.YtfakejfpicjedaaMask
namespace Go.Proofs.Ytfakejfpicjedaa
set_option linter.unusedVariables false
open Go.RowKit Tm

theorem in_iff {R : List AL} {id : Int} : inR R id = true ↔ ∃ y ∈ R, y.2 = id := by
  unfold inR
  rw [List.any_eq_true]
  constructor
  · rintro ⟨y, hy, he⟩; exact ⟨y, hy, by simpa using he⟩
  · rintro ⟨y, hy, he⟩; exact ⟨y, hy, by simpa using he⟩
theorem in_not {R : List AL} {id : Int} : inR R id = false ↔ ∀ y ∈ R, y.2 ≠ id := by
  rw [← Bool.not_eq_true, in_iff]
  constructor
  · intro h y hy he; exact h ⟨y, hy, he⟩
  · rintro h ⟨y, hy, he⟩; exact h y hy he
theorem in_ins {x : AL} {l : List AL} {id : Int} : inR (insR x l) id = (x.2 == id || inR l id) := by
  unfold inR
  rw [(ins_perm x l).any_eq, List.any_cons]
theorem in_del {R : List AL} {a id : Int} : inR (delR R a) id = (id != a && inR R id) := by
  rw [Bool.eq_iff_iff, in_iff, Bool.and_eq_true, in_iff, bne_iff_ne]
  constructor
  · rintro ⟨y, hy, rfl⟩
    obtain ⟨h1, h2⟩ := del_mem.1 hy
    exact ⟨h2, y, h1, rfl⟩
  · rintro ⟨h, y, hy, rfl⟩
    exact ⟨y, del_mem.2 ⟨hy, h⟩, rfl⟩
theorem ins_len (x : AL) (l : List AL) : (insR x l).length = l.length + 1 := by rw [(ins_perm x l).length_eq, List.length_cons]
theorem Ck.del_len {w : World} {c Q m : Nat} {v : Value} {R : List AL} (h : Ck w c Q m v R) {id : Int} (hi : inR R id = true) : (delR R id).length + 1 = R.length := by
  obtain ⟨A, pm, _, hC, _, hp⟩ := h.q
  rw [← known_iff hC hp id] at hi
  obtain ⟨i, hi⟩ := Option.isSome_iff_exists.1 hi
  obtain ⟨h1, h2⟩ := hC.is id i hi
  have h3 := (one_perm hC h1).length_eq
  rw [List.length_cons, h2, (del_perm hp id).length_eq] at h3
  rw [← hp.length_eq, h3]
theorem CB.del_len {B : Nat} {w0 w : World} {c : Nat} {R : List AL} (h : CB B w0 w c R) {id : Int} (hi : inR R id = true) : (delR R id).length + 1 = R.length := by
  obtain ⟨Q, m, v, hK, _⟩ := h.ex
  exact hK.del_len hi
theorem CB.srt {B : Nat} {w0 w : World} {c : Nat} {R : List AL} (h : CB B w0 w c R) : SrtT R := by
  obtain ⟨Q, m, v, hK, _⟩ := h.ex
  exact hK.srt
theorem CB.inj {B : Nat} {w0 w : World} {c : Nat} {R : List AL} (h : CB B w0 w c R) : ∀ y ∈ R, ∀ z ∈ R, y.2 = z.2 → y = z := by
  obtain ⟨Q, m, v, hK, _⟩ := h.ex
  exact hK.inj
theorem set_ok {R : List AL} {id t : Int} (ht : 0 ≤ t ∧ t < 1099511627776) (h : inR R id = true ∨ R.length < 4096) : setR R id t = (insR (t, id) (delR R id), 0) := by
  unfold setR
  rw [if_neg (by omega), if_neg]
  rintro ⟨h1, h2⟩
  rcases h with h | h
  · rw [h1] at h; cases h
  · omega
theorem set_full {R : List AL} {id t : Int} (ht : 0 ≤ t ∧ t < 1099511627776) (h : inR R id = false) (hl : 4096 ≤ R.length) : setR R id t = (R, 15) := by
  unfold setR
  rw [if_neg (by omega), if_pos ⟨h, hl⟩]
/-- behind a Set that goes: names and count -/
theorem set_new_len {R : List AL} {id t : Int} (h : inR R id = false) : (insR (t, id) (delR R id)).length = R.length + 1 := by rw [ins_len, del_none h]
theorem set_old_len {B : Nat} {w0 w : World} {c : Nat} {R : List AL} (hC : CB B w0 w c R) {id t : Int} (h : inR R id = true) : (insR (t, id) (delR R id)).length = R.length := by rw [ins_len, hC.del_len h]
theorem in_set {R : List AL} {id t a : Int} : inR (insR (t, id) (delR R id)) a = (id == a || inR R a) := by
  rw [in_ins, in_del]
  by_cases h : id = a
  · subst h; simp
  · rw [show (id == a) = false by simpa using h, show (a != id) = true by simpa using fun e => h e.symm]
    simp
theorem next_min {R : List AL} (h : SrtT R) (h0 : R ≠ []) : (∃ y ∈ R, y.1 = nextR R) ∧ ∀ y ∈ R, nextR R ≤ y.1 := by
  cases R with
  | nil => exact absurd rfl h0
  | cons x R =>
    refine ⟨⟨x, List.mem_cons_self, rfl⟩, fun y hy => ?_⟩
    rcases List.mem_cons.1 hy with rfl | hy
    · exact Int.le_refl _
    · have := (List.pairwise_cons.1 h).1 y hy
      rw [lt_iff] at this
      show x.1 ≤ y.1
      omega
theorem due_rest (R : List AL) (t : Int) : dueR R t ++ restR R t = R := List.takeWhile_append_dropWhile
theorem due_le {R : List AL} {t : Int} : ∀ y ∈ dueR R t, y.1 ≤ t ∧ y ∈ R := by
  induction R with
  | nil => intro y hy; cases hy
  | cons x R ih =>
    intro y hy
    by_cases hx : x.1 ≤ t
    · rw [(due_cons hx).1] at hy
      rcases List.mem_cons.1 hy with rfl | hy
      · exact ⟨hx, List.mem_cons_self⟩
      · exact ⟨(ih y hy).1, List.mem_cons_of_mem _ (ih y hy).2⟩
    · rw [(due_stop (.inr ⟨x, R, rfl, hx⟩)).1] at hy
      cases hy
theorem rest_gt {R : List AL} {t : Int} (h : SrtT R) : ∀ y ∈ restR R t, t < y.1 ∧ y ∈ R := by
  induction R with
  | nil => intro y hy; cases hy
  | cons x R ih =>
    have hc := List.pairwise_cons.1 h
    intro y hy
    by_cases hx : x.1 ≤ t
    · rw [(due_cons hx).2] at hy
      obtain ⟨a, b⟩ := ih hc.2 y hy
      exact ⟨a, List.mem_cons_of_mem _ b⟩
    · rw [(due_stop (.inr ⟨x, R, rfl, hx⟩)).2] at hy
      refine ⟨?_, hy⟩
      rcases List.mem_cons.1 hy with rfl | hy
      · omega
      · have := hc.1 y hy
        rw [lt_iff] at this
        omega
theorem due_len (R : List AL) (t : Int) : (dueR R t).length + (restR R t).length = R.length := by
  rw [← List.length_append, due_rest]
theorem due_all {R : List AL} {t : Int} (h : ∀ y ∈ R, y.1 ≤ t) : dueR R t = R ∧ restR R t = [] := by
  induction R with
  | nil => exact ⟨rfl, rfl⟩
  | cons x R ih =>
    have hx := h x List.mem_cons_self
    obtain ⟨a, b⟩ := ih fun y hy => h y (List.mem_cons_of_mem _ hy)
    rw [(due_cons hx).1, (due_cons hx).2, a, b]
    exact ⟨rfl, rfl⟩
end Go.Proofs.Ytfakejfpicjedaa
