/- The stable sort, plainly: slices' stableCmpFunc, symMergeCmpFunc, rotateCmpFunc, swapRangeCmpFunc row for row over arrays; for a strict weak order what comes of it is the stable sort of the list. No condition. -/
import Derived.Sort.Lot0
import Derived.Sort.LotA
namespace Go.Proofs.Ytbhnjmdlagjfbaa.Ss
set_option linter.unusedVariables false
set_option linter.unusedSectionVars false
open Go.Sort
variable {α : Type} [Inhabited α]

def mrg (lt : α → α → Bool) : List α → List α → List α
  | [], v => v
  | x :: u, [] => x :: u
  | x :: u, y :: v => if lt y x = true then y :: mrg lt (x :: u) v else x :: mrg lt u (y :: v)
termination_by u v => u.length + v.length
def ins (lt : α → α → Bool) (x : α) : List α → List α
  | [] => [x]
  | y :: l => if lt y x = true then y :: ins lt x l else x :: y :: l
def isort (lt : α → α → Bool) : List α → List α
  | [] => []
  | x :: l => ins lt x (isort lt l)
def Srt (lt : α → α → Bool) (l : List α) : Prop := l.Pairwise (fun x y => lt y x = false)

theorem mrg_nil (lt : α → α → Bool) (u : List α) : mrg lt u [] = u := by cases u <;> simp [mrg]
theorem nil_mrg (lt : α → α → Bool) (v : List α) : mrg lt [] v = v := by cases v <;> simp [mrg]
theorem mrg_take (lt : α → α → Bool) {x y : α} (u v : List α) (h : lt y x = true) : mrg lt (x :: u) (y :: v) = y :: mrg lt (x :: u) v := by rw [mrg, if_pos h]
theorem mrg_keep (lt : α → α → Bool) {x y : α} (u v : List α) (h : lt y x = false) : mrg lt (x :: u) (y :: v) = x :: mrg lt u (y :: v) := by rw [mrg, if_neg (by rw [h]; decide)]
theorem mrg_one (lt : α → α → Bool) (x : α) : ∀ v, mrg lt [x] v = ins lt x v
  | [] => by simp [mrg, ins]
  | y :: v => by
    cases h : lt y x with
    | true => rw [mrg_take lt _ _ h, mrg_one lt x v]; simp [ins, h]
    | false => rw [mrg_keep lt _ _ h, nil_mrg]; simp [ins, h]
theorem mrg_split (lt : α → α → Bool) : ∀ (u1 v1 u2 v2 : List α), (∀ x ∈ u2, ∀ y ∈ v1, lt y x = true) → (∀ x ∈ u1, ∀ y ∈ v2, lt y x = false) → mrg lt (u1 ++ u2) (v1 ++ v2) = mrg lt u1 v1 ++ mrg lt u2 v2
  | [], [], u2, v2, _, _ => by simp [nil_mrg]
  | [], y :: v1, [], v2, _, _ => by simp [nil_mrg]
  | [], y :: v1, x :: u2, v2, h, h' => by
    have e := mrg_split lt [] v1 (x :: u2) v2 (fun a ha b hb => h a ha b (List.mem_cons_of_mem _ hb)) (fun _ ha => by cases ha)
    simp only [List.nil_append, List.cons_append, nil_mrg] at e ⊢
    rw [mrg_take lt _ _ (h x List.mem_cons_self y List.mem_cons_self), e]
  | x :: u1, [], u2, [], _, _ => by simp [mrg_nil]
  | x :: u1, [], u2, y :: v2, h, h' => by
    have e := mrg_split lt u1 [] u2 (y :: v2) (fun _ _ _ hb => by cases hb) (fun a ha b hb => h' a (List.mem_cons_of_mem _ ha) b hb)
    simp only [List.nil_append, List.cons_append, mrg_nil] at e ⊢
    rw [mrg_keep lt _ _ (h' x List.mem_cons_self y List.mem_cons_self), e]
  | x :: u1, y :: v1, u2, v2, h, h' => by
    cases hc : lt y x with
    | true =>
      have e := mrg_split lt (x :: u1) v1 u2 v2 (fun a ha b hb => h a ha b (List.mem_cons_of_mem _ hb)) h'
      simp only [List.cons_append] at e ⊢
      rw [mrg_take lt _ _ hc, e, mrg_take lt _ _ hc, List.cons_append]
    | false =>
      have e := mrg_split lt u1 (y :: v1) u2 v2 h (fun a ha b hb => h' a (List.mem_cons_of_mem _ ha) b hb)
      simp only [List.cons_append] at e ⊢
      rw [mrg_keep lt _ _ hc, e, mrg_keep lt _ _ hc, List.cons_append]
termination_by u1 v1 => u1.length + v1.length

theorem ins_perm (lt : α → α → Bool) (x : α) : ∀ l, (ins lt x l).Perm (x :: l)
  | [] => .refl _
  | y :: l => by
    unfold ins
    split
    · exact ((ins_perm lt x l).cons y).trans (.swap x y l)
    · exact .refl _
theorem isort_perm (lt : α → α → Bool) : ∀ l, (isort lt l).Perm l
  | [] => .refl _
  | x :: l => (ins_perm lt x _).trans ((isort_perm lt l).cons x)
theorem mrg_perm (lt : α → α → Bool) : ∀ (u v : List α), (mrg lt u v).Perm (u ++ v)
  | [], v => by rw [nil_mrg]; exact .refl _
  | x :: u, [] => by rw [mrg_nil]; simp
  | x :: u, y :: v => by
    cases h : lt y x with
    | true =>
      rw [mrg_take lt _ _ h]
      refine ((mrg_perm lt (x :: u) v).cons y).trans ?_
      exact (List.perm_middle (l₁ := x :: u) (l₂ := v) (a := y)).symm
    | false => rw [mrg_keep lt _ _ h]; exact (mrg_perm lt u (y :: v)).cons x
termination_by u v => u.length + v.length
theorem mrg_length (lt : α → α → Bool) (u v : List α) : (mrg lt u v).length = u.length + v.length := by rw [(mrg_perm lt u v).length_eq, List.length_append]
theorem isort_length (lt : α → α → Bool) (l : List α) : (isort lt l).length = l.length := (isort_perm lt l).length_eq
/-- 'not less' both ways along -/
theorem SWO.asymm {lt : α → α → Bool} (S : SWO lt) {x y : α} (h : lt x y = true) : lt y x = false := by
  cases h2 : lt y x with
  | false => rfl
  | true => have := S.trans x y x h h2; rw [S.irrefl] at this; cases this
theorem ins_srt {lt : α → α → Bool} (S : SWO lt) (x : α) : ∀ l, Srt lt l → Srt lt (ins lt x l)
  | [], _ => by simp [ins, Srt]
  | y :: l, h => by
    have h0 := List.pairwise_cons.1 h
    unfold ins
    split
    · rename_i hc
      refine List.pairwise_cons.2 ⟨fun z hz => ?_, ins_srt S x l h0.2⟩
      rcases List.mem_cons.1 ((ins_perm lt x l).mem_iff.1 hz) with rfl | hz'
      · exact SWO.asymm S hc
      · exact h0.1 z hz'
    · rename_i hc
      have hc' : lt y x = false := by simpa using hc
      refine List.pairwise_cons.2 ⟨fun z hz => ?_, h⟩
      rcases List.mem_cons.1 hz with rfl | hz'
      · exact hc'
      · exact S.ntrans z y x (h0.1 z hz') hc'
theorem isort_srt {lt : α → α → Bool} (S : SWO lt) : ∀ l, Srt lt (isort lt l)
  | [] => List.Pairwise.nil
  | x :: l => ins_srt S x _ (isort_srt S l)
theorem ins_mrg {lt : α → α → Bool} (S : SWO lt) (x : α) : ∀ (u v : List α), Srt lt u → ins lt x (mrg lt u v) = mrg lt (ins lt x u) v
  | [], v, _ => by rw [nil_mrg]; simp only [ins]; rw [mrg_one]
  | a :: u, [], _ => by rw [mrg_nil, mrg_nil]
  | a :: u, c :: v, h => by
    have h0 := List.pairwise_cons.1 h
    cases hca : lt c a with
    | true =>
      rw [mrg_take lt _ _ hca]
      cases hcx : lt c x with
      | true =>
        have e := ins_mrg S x (a :: u) v h
        simp only [ins, hcx, if_true]
        simp only [ins] at e
        cases hax : lt a x with
        | true => simp only [hax, if_true] at e ⊢; rw [mrg_take lt _ _ hca, e]
        | false => simp only [hax, Bool.false_eq_true, if_false] at e ⊢; rw [mrg_take lt _ _ hcx, e]
      | false =>
        have hax : lt a x = false := by
          cases hax : lt a x with
          | false => rfl
          | true => have := S.trans c a x hca hax; rw [hcx] at this; cases this
        simp only [ins, hcx, hax, Bool.false_eq_true, if_false]
        rw [mrg_keep lt _ _ hcx, mrg_take lt _ _ hca]
    | false =>
      rw [mrg_keep lt _ _ hca]
      cases hax : lt a x with
      | true =>
        simp only [ins, hax, if_true]
        rw [mrg_keep lt _ _ hca, ins_mrg S x u (c :: v) h0.2]
      | false =>
        simp only [ins, hax, Bool.false_eq_true, if_false]
        rw [mrg_keep lt _ _ (S.ntrans c a x hca hax), mrg_keep lt _ _ hca]
termination_by u v => u.length + v.length
theorem isort_append {lt : α → α → Bool} (S : SWO lt) : ∀ (u v : List α), isort lt (u ++ v) = mrg lt (isort lt u) (isort lt v)
  | [], v => by simp [isort, nil_mrg]
  | x :: u, v => by
    show ins lt x (isort lt (u ++ v)) = mrg lt (ins lt x (isort lt u)) _
    rw [isort_append S u v, ins_mrg S x _ _ (isort_srt S u)]
theorem mrg_srt {lt : α → α → Bool} (S : SWO lt) : ∀ (u v : List α), Srt lt u → Srt lt v → Srt lt (mrg lt u v)
  | [], v, _, hv => by rw [nil_mrg]; exact hv
  | x :: u, [], hu, _ => by rw [mrg_nil]; exact hu
  | x :: u, y :: v, hu, hv => by
    have h0 := List.pairwise_cons.1 hu
    have h1 := List.pairwise_cons.1 hv
    cases h : lt y x with
    | true =>
      rw [mrg_take lt _ _ h]
      refine List.pairwise_cons.2 ⟨fun z hz => ?_, mrg_srt S (x :: u) v hu h1.2⟩
      have := (mrg_perm lt (x :: u) v).mem_iff.1 hz
      rcases List.mem_append.1 this with h2 | h2
      · rcases List.mem_cons.1 h2 with rfl | h3
        · exact SWO.asymm S h
        · exact S.ntrans z x y (h0.1 z h3) (SWO.asymm S h)
      · exact h1.1 z h2
    | false =>
      rw [mrg_keep lt _ _ h]
      refine List.pairwise_cons.2 ⟨fun z hz => ?_, mrg_srt S u (y :: v) h0.2 hv⟩
      have := (mrg_perm lt u (y :: v)).mem_iff.1 hz
      rcases List.mem_append.1 this with h2 | h2
      · exact h0.1 z h2
      · rcases List.mem_cons.1 h2 with rfl | h3
        · exact h
        · exact S.ntrans z y x (h1.1 z h3) h
termination_by u v => u.length + v.length
/-- what is sorted stays -/
theorem isort_id {lt : α → α → Bool} : ∀ {l : List α}, Srt lt l → isort lt l = l
  | [], _ => rfl
  | x :: l, h => by
    have h0 := List.pairwise_cons.1 h
    show ins lt x (isort lt l) = _
    rw [isort_id h0.2]
    cases l with
    | nil => rfl
    | cons y l => simp [ins, h0.1 y List.mem_cons_self]

/-! ### exchanges -/
theorem get_at {d : Array α} {A C : List α} {x : α} (h : d.toList = A ++ x :: C) : d[A.length]! = x := by
  have : d = (A ++ x :: C).toArray := by rw [← h]
  subst this
  simp
theorem swp_list {d : Array α} {A B C : List α} {x y : α} (h : d.toList = A ++ x :: (B ++ y :: C)) {i j : Nat} (hi : i = A.length) (hj : j = A.length + 1 + B.length) : (swp d i j).toList = A ++ y :: (B ++ x :: C) := by
  have h1 := get_at h
  have h2 : d[A.length + 1 + B.length]! = y := by
    have := get_at (d := d) (A := A ++ x :: B) (x := y) (C := C) (by rw [h]; simp)
    rw [← this]
    congr 1
    simp; omega
  subst hi hj
  unfold swp
  rw [h1, h2]
  simp only [Array.toList_setIfInBounds, h]
  rw [List.set_append_right _ _ (Nat.le_refl _)]
  simp only [Nat.sub_self, List.set_cons_zero]
  rw [List.set_append_right _ _ (by omega)]
  have : A.length + 1 + B.length - A.length = B.length + 1 := by omega
  rw [this, List.set_cons_succ, List.set_append_right _ _ (Nat.le_refl _)]
  simp
def swapR (d : Array α) (a b : Nat) : Nat → Array α
  | 0 => d
  | n + 1 => swp (swapR d a b n) (a + n) (b + n)
theorem swapR_size (d : Array α) (a b : Nat) : ∀ n, (swapR d a b n).size = d.size
  | 0 => rfl
  | n + 1 => by rw [swapR, size_swp, swapR_size d a b n]
theorem swapR_list : ∀ (n : Nat) {d : Array α} {p s q t r : List α} {a b : Nat}, d.toList = p ++ (s ++ (q ++ (t ++ r))) → s.length = n → t.length = n → a = p.length → b = p.length + n + q.length →
    (swapR d a b n).toList = p ++ (t ++ (q ++ (s ++ r)))
  | 0, d, p, s, q, t, r, a, b, h, hs, ht, _, _ => by
    obtain rfl := List.eq_nil_of_length_eq_zero hs
    obtain rfl := List.eq_nil_of_length_eq_zero ht
    exact h
  | n + 1, d, p, s, q, t, r, a, b, h, hs, ht, ha, hb => by
    obtain ⟨s', x, rfl⟩ : ∃ s' x, s = s' ++ [x] := ⟨s.dropLast, s.getLast (by intro e; subst e; simp at hs), (List.dropLast_concat_getLast _).symm⟩
    obtain ⟨t', y, rfl⟩ : ∃ t' y, t = t' ++ [y] := ⟨t.dropLast, t.getLast (by intro e; subst e; simp at ht), (List.dropLast_concat_getLast _).symm⟩
    simp only [List.length_append, List.length_cons, List.length_nil] at hs ht
    have e := swapR_list n (d := d) (p := p) (s := s') (q := x :: q) (t := t') (r := y :: r) (a := a) (b := b) (by rw [h]; simp) (by omega) (by omega) ha (by simp; omega)
    unfold swapR
    rw [swp_list (A := p ++ t') (B := q ++ s') (C := r) (x := x) (y := y) (by rw [e]; simp) (by simp; omega) (by simp; omega)]
    simp
/-- rotate, from (i, j) on -/
def rotF (m : Nat) : Nat → Array α → Nat → Nat → Array α
  | 0, d, _, _ => d
  | f + 1, d, i, j => if i = j then swapR d (m - i) m i else if j < i then rotF m f (swapR d (m - i) m j) (i - j) j else rotF m f (swapR d (m - i) (m + j - i) i) i (j - i)
theorem rotF_size (m : Nat) : ∀ (f : Nat) (d : Array α) (i j : Nat), (rotF m f d i j).size = d.size
  | 0, _, _, _ => rfl
  | f + 1, d, i, j => by
    unfold rotF
    split
    · exact swapR_size _ _ _ _
    · split <;> rw [rotF_size m f, swapR_size]
theorem rotF_list (m : Nat) : ∀ (f : Nat) {d : Array α} {p u v r : List α} {i j : Nat}, d.toList = p ++ (u ++ (v ++ r)) → u.length = i → v.length = j → 0 < i → 0 < j → p.length + i = m → i + j ≤ f →
    (rotF m f d i j).toList = p ++ (v ++ (u ++ r))
  | 0, _, _, _, _, _, _, _, _, _, _, h0, _, _, hf => by omega
  | f + 1, d, p, u, v, r, i, j, h, hu, hv, h0, h1, hm, hf => by
    unfold rotF
    by_cases hij : i = j
    · rw [if_pos hij]
      exact swapR_list i (q := []) (by simpa using h) hu (by omega) (by omega) (by simp; omega)
    · rw [if_neg hij]
      by_cases hlt : j < i
      · rw [if_pos hlt]
        obtain ⟨u1, u2, rfl, hl⟩ : ∃ u1 u2, u = u1 ++ u2 ∧ u1.length = j := ⟨u.take j, u.drop j, (List.take_append_drop _ _).symm, by simp; omega⟩
        simp only [List.length_append] at hu
        have e := swapR_list j (d := d) (p := p) (s := u1) (q := u2) (t := v) (r := r) (a := m - i) (b := m) (by rw [h]; simp) hl hv (by omega) (by omega)
        rw [rotF_list m f (p := p ++ v) (u := u2) (v := u1) (r := r) (by rw [e]; simp) (by omega) hl (by omega) h1 (by simp; omega) (by omega)]
        simp
      · rw [if_neg hlt]
        obtain ⟨v1, v2, rfl, hl⟩ : ∃ v1 v2, v = v1 ++ v2 ∧ v1.length = j - i := ⟨v.take (j - i), v.drop (j - i), (List.take_append_drop _ _).symm, by simp; omega⟩
        simp only [List.length_append] at hv
        have e := swapR_list i (d := d) (p := p) (s := u) (q := v1) (t := v2) (r := r) (a := m - i) (b := m + j - i) (by rw [h]; simp) hu (by omega) (by omega) (by omega)
        rw [rotF_list m f (p := p) (u := v2) (v := v1) (r := u ++ r) (by rw [e]) (by omega) (by omega) h0 (by omega) hm (by omega)]
        simp
/-- for k := a; so often; k++: exchange k, k+1 -/
def shU (d : Array α) (a : Nat) : Nat → Array α
  | 0 => d
  | n + 1 => swp (shU d a n) (a + n) (a + n + 1)
theorem shU_size (d : Array α) (a : Nat) : ∀ n, (shU d a n).size = d.size
  | 0 => rfl
  | n + 1 => by rw [shU, size_swp, shU_size d a n]
theorem shU_list : ∀ (n : Nat) {d : Array α} {p t r : List α} {x : α} {a : Nat}, d.toList = p ++ x :: (t ++ r) → t.length = n → a = p.length → (shU d a n).toList = p ++ (t ++ x :: r)
  | 0, d, p, t, r, x, a, h, ht, _ => by
    obtain rfl := List.eq_nil_of_length_eq_zero ht
    exact h
  | n + 1, d, p, t, r, x, a, h, ht, ha => by
    obtain ⟨t', y, rfl⟩ : ∃ t' y, t = t' ++ [y] := ⟨t.dropLast, t.getLast (by intro e; subst e; simp at ht), (List.dropLast_concat_getLast _).symm⟩
    simp only [List.length_append, List.length_cons, List.length_nil] at ht
    have e := shU_list n (d := d) (p := p) (t := t') (r := y :: r) (x := x) (a := a) (by rw [h]; simp) (by omega) ha
    unfold shU
    rw [swp_list (A := p ++ t') (B := []) (C := r) (x := x) (y := y) (by rw [e]; simp) (by simp; omega) (by simp; omega)]
    simp
/-- for k := m; so often; k--: exchange k, k-1 -/
def shD (d : Array α) (m : Nat) : Nat → Array α
  | 0 => d
  | n + 1 => swp (shD d m n) (m - n) (m - n - 1)
theorem shD_size (d : Array α) (m : Nat) : ∀ n, (shD d m n).size = d.size
  | 0 => rfl
  | n + 1 => by rw [shD, size_swp, shD_size d m n]
theorem swp_comm (d : Array α) (i j : Nat) (hi : i < d.size) (hj : j < d.size) : swp d i j = swp d j i := by
  apply Array.ext
  · rw [size_swp, size_swp]
  · intro k h1 h2
    have e : ∀ (i j : Nat) (h : k < (swp d i j).size), (swp d i j)[k] = (swp d i j)[k]! := fun i j h => (getElem!_pos _ k h).symm
    rw [e i j h1, e j i h2, swp_get d hi hj k, swp_get d hj hi k]
    by_cases h3 : k = i <;> by_cases h4 : k = j <;> simp_all
theorem shD_list : ∀ (n : Nat) {d : Array α} {p t r : List α} {x : α} {m : Nat}, d.toList = p ++ (t ++ x :: r) → t.length = n → m = p.length + n → (shD d m n).toList = p ++ x :: (t ++ r)
  | 0, d, p, t, r, x, m, h, ht, _ => by
    obtain rfl := List.eq_nil_of_length_eq_zero ht
    exact h
  | n + 1, d, p, t, r, x, m, h, ht, hm => by
    obtain ⟨y, t', rfl⟩ : ∃ y t', t = y :: t' := by cases t with | nil => simp at ht | cons y t' => exact ⟨y, t', rfl⟩
    simp only [List.length_cons] at ht
    have e := shD_list n (d := d) (p := p ++ [y]) (t := t') (r := r) (x := x) (m := m) (by rw [h]; simp) (by omega) (by simp; omega)
    unfold shD
    have hsz : (shD d m n).size = p.length + 1 + t'.length + 1 + r.length := by rw [shD_size, ← Array.length_toList, h]; simp; omega
    rw [swp_comm _ _ _ (by omega) (by omega), swp_list (A := p) (B := []) (C := t' ++ r) (x := y) (y := x) (by rw [e]; simp) (by omega) (by simp; omega)]
    simp

/-! ### halving -/
def bsW (P : Nat → Bool) (i j : Nat) : Nat := if i < j then (if P ((i + j) / 2) then bsW P ((i + j) / 2 + 1) j else bsW P i ((i + j) / 2)) else i
termination_by j - i
decreasing_by all_goals omega
theorem bsW_go1 {P : Nat → Bool} {i j : Nat} (h : i < j) (hp : P ((i + j) / 2) = true) : bsW P i j = bsW P ((i + j) / 2 + 1) j := by rw [bsW, if_pos h, if_pos hp]
theorem bsW_go0 {P : Nat → Bool} {i j : Nat} (h : i < j) (hp : P ((i + j) / 2) = false) : bsW P i j = bsW P i ((i + j) / 2) := by rw [bsW, if_pos h, if_neg (by rw [hp]; decide)]
theorem bsW_end {P : Nat → Bool} {i j : Nat} (h : ¬ i < j) : bsW P i j = i := by rw [bsW, if_neg h]
/-- where the tests turn from true to false -/
theorem bsW_spec {P : Nat → Bool} : ∀ (n i j : Nat), j - i = n → i ≤ j → (∀ x y, i ≤ x → x ≤ y → y < j → P y = true → P x = true) →
    i ≤ bsW P i j ∧ bsW P i j ≤ j ∧ (∀ x, i ≤ x → x < bsW P i j → P x = true) ∧ (∀ x, bsW P i j ≤ x → x < j → P x = false) := by
  intro n
  induction n using Nat.strongRecOn with
  | _ n ih =>
    intro i j hn hij hm
    by_cases h : i < j
    · cases hp : P ((i + j) / 2) with
      | true =>
        rw [bsW_go1 h hp]
        obtain ⟨h1, h2, h3, h4⟩ := ih (j - ((i + j) / 2 + 1)) (by omega) ((i + j) / 2 + 1) j rfl (by omega) (fun x y hx hxy hy => hm x y (by omega) hxy hy)
        refine ⟨by omega, h2, fun x hx hxs => ?_, h4⟩
        by_cases hx2 : (i + j) / 2 + 1 ≤ x
        · exact h3 x hx2 hxs
        · exact hm x ((i + j) / 2) hx (by omega) (by omega) hp
      | false =>
        rw [bsW_go0 h hp]
        obtain ⟨h1, h2, h3, h4⟩ := ih ((i + j) / 2 - i) (by omega) i ((i + j) / 2) rfl (by omega) (fun x y hx hxy hy => hm x y hx hxy (by omega))
        refine ⟨h1, by omega, h3, fun x hx hxs => ?_⟩
        by_cases hx2 : x < (i + j) / 2
        · exact h4 x hx hx2
        · cases hpx : P x with
          | false => rfl
          | true => have := hm ((i + j) / 2) x (by omega) (by omega) hxs hpx; rw [hp] at this; cases this
    · rw [bsW_end h]
      exact ⟨Nat.le_refl _, hij, fun x hx hxs => by omega, fun x hx hxs => by omega⟩

/-! ### symMerge -/
def symStart (lt : α → α → Bool) (d : Array α) (a m b : Nat) : Nat :=
  if (a + b) / 2 < m then bsW (fun c => !lt d[(a + b) / 2 + m - 1 - c]! d[c]!) ((a + b) / 2 + m - b) ((a + b) / 2) else bsW (fun c => !lt d[(a + b) / 2 + m - 1 - c]! d[c]!) a m
def symRot (d : Array α) (s m e : Nat) : Array α := if s < m ∧ m < e then rotF m (e - s) d (m - s) (e - m) else d
def symM (lt : α → α → Bool) : Nat → Array α → Nat → Nat → Nat → Array α
  | 0, d, _, _, _ => d
  | f + 1, d, a, m, b =>
    if m - a = 1 then shU d a (bsW (fun h => lt d[h]! d[a]!) m b - 1 - a)
    else if b - m = 1 then shD d m (m - bsW (fun h => !lt d[m]! d[h]!) a m)
    else
      let mid := (a + b) / 2
      let s := symStart lt d a m b
      let e := mid + m - s
      let d1 := symRot d s m e
      let d2 := if a < s ∧ s < mid then symM lt f d1 a s mid else d1
      if mid < e ∧ e < b then symM lt f d2 mid e b else d2
theorem symM_main {lt : α → α → Bool} {f : Nat} {d : Array α} {a m b s e md : Nat} (h1 : ¬ m - a = 1) (h2 : ¬ b - m = 1) (hmd : md = (a + b) / 2) (h3 : s = symStart lt d a m b) (h4 : e = md + m - s) :
    symM lt (f + 1) d a m b = (if md < e ∧ e < b then symM lt f (if a < s ∧ s < md then symM lt f (symRot d s m e) a s md else symRot d s m e) md e b else if a < s ∧ s < md then symM lt f (symRot d s m e) a s md else symRot d s m e) := by
  subst h4 h3 hmd
  rw [symM, if_neg h1, if_neg h2]
theorem symRot_size (d : Array α) (s m e : Nat) : (symRot d s m e).size = d.size := by unfold symRot; split <;> simp [rotF_size]
theorem symM_size (lt : α → α → Bool) : ∀ (f : Nat) (d : Array α) (a m b : Nat), (symM lt f d a m b).size = d.size
  | 0, _, _, _, _ => rfl
  | f + 1, d, a, m, b => by
    unfold symM
    dsimp only
    split
    · exact shU_size _ _ _
    · split
      · exact shD_size _ _ _
      · split <;> split <;> simp [symM_size lt f, symRot_size]
theorem srt_app {lt : α → α → Bool} {u v : List α} (h : Srt lt (u ++ v)) : Srt lt u ∧ Srt lt v ∧ ∀ x ∈ u, ∀ y ∈ v, lt y x = false := List.pairwise_append.1 h
theorem srt_get {lt : α → α → Bool} (S : SWO lt) {d : Array α} {p u r : List α} (h : d.toList = p ++ (u ++ r)) (hs : Srt lt u) {i j : Nat} (hi : p.length ≤ i) (hij : i ≤ j) (hj : j < p.length + u.length) : lt d[j]! d[i]! = false := by
  by_cases e : i = j
  · subst e; exact S.irrefl _
  · have hd : d = (p ++ (u ++ r)).toArray := by rw [← h]
    have g : ∀ k, p.length ≤ k → (hk : k < p.length + u.length) → d[k]! = u[k - p.length]'(by omega) := fun k h1 h2 => by
      subst hd
      rw [getElem!_pos _ k (by simp; omega)]
      simp only [List.getElem_toArray]
      rw [List.getElem_append_right h1, List.getElem_append_left]
    rw [g i hi (by omega), g j (by omega) hj]
    exact List.pairwise_iff_getElem.1 hs _ _ _ _ (by omega)
theorem get_mid {d : Array α} {p u r : List α} (h : d.toList = p ++ (u ++ r)) {x : α} (hx : x ∈ u) : ∃ k, p.length ≤ k ∧ k < p.length + u.length ∧ d[k]! = x := by
  obtain ⟨n, hn, e⟩ := List.getElem_of_mem hx
  refine ⟨p.length + n, by omega, by omega, ?_⟩
  have hd : d = (p ++ (u ++ r)).toArray := by rw [← h]
  subst hd
  rw [getElem!_pos _ _ (by simp; omega)]
  simp only [List.getElem_toArray]
  rw [List.getElem_append_right (by omega), List.getElem_append_left (by omega)]
  simpa using e
/-- the split of both parts: u = u1 ++ u2, v = v1 ++ v2, of s - a and e - m -/
theorem symM_list {lt : α → α → Bool} (S : SWO lt) : ∀ (f : Nat) {d : Array α} {p u v r : List α} {a m b : Nat}, d.toList = p ++ (u ++ (v ++ r)) → a = p.length → m = a + u.length → b = m + v.length → 0 < u.length → 0 < v.length → b - a ≤ f → Srt lt u → Srt lt v →
    (symM lt f d a m b).toList = p ++ (mrg lt u v ++ r)
  | 0, _, _, _, _, _, _, _, _, _, ha, hm, hb, hu, hv, hf, _, _ => by omega
  | f + 1, d, p, u, v, r, a, m, b, h, ha, hm, hb, hu, hv, hf, su, sv => by
    have hV : d.toList = (p ++ u) ++ (v ++ r) := by rw [h]; simp
    have lpu : (p ++ u).length = m := by simp; omega
    unfold symM
    dsimp only
    by_cases h1 : m - a = 1
    · rw [if_pos h1]
      obtain ⟨x, rfl⟩ : ∃ x, u = [x] := List.length_eq_one_iff.1 (by omega)
      have hx : d[a]! = x := by rw [ha]; exact get_at (by simpa using h)
      obtain ⟨b1, b2, b3, b4⟩ := bsW_spec (P := fun k => lt d[k]! d[a]!) _ m b rfl (by omega) (fun x' y' hx' hxy hy hp => by
        cases hq : lt d[x']! d[a]! with
        | true => rfl
        | false =>
          have := S.ntrans d[y']! d[x']! d[a]! (srt_get S hV sv (by omega) hxy (by omega)) hq
          have hp' : lt d[y']! d[a]! = true := hp
          rw [hp'] at this; cases this)
      generalize bsW (fun k => lt d[k]! d[a]!) m b = i at *
      obtain ⟨v1, v2, rfl, hl⟩ : ∃ v1 v2, v = v1 ++ v2 ∧ v1.length = i - m := ⟨v.take (i - m), v.drop (i - m), (List.take_append_drop _ _).symm, by simp; omega⟩
      have hb' : b = m + (v1.length + v2.length) := by rw [hb]; simp
      have hm' : m = a + 1 := by rw [hm]; simp
      have q1 : ∀ y ∈ v1, lt y x = true := fun y hy => by
        obtain ⟨k, k1, k2, k3⟩ := get_mid (d := d) (p := p ++ [x]) (u := v1) (r := v2 ++ r) (by rw [h]; simp) hy
        simp only [List.length_append, List.length_cons, List.length_nil] at k1 k2
        have := b3 k (by omega) (by omega)
        rw [k3, hx] at this; exact this
      have q2 : ∀ y ∈ v2, lt y x = false := fun y hy => by
        obtain ⟨k, k1, k2, k3⟩ := get_mid (d := d) (p := p ++ [x] ++ v1) (u := v2) (r := r) (by rw [h]; simp) hy
        simp only [List.length_append, List.length_cons, List.length_nil] at k1 k2
        have := b4 k (by omega) (by omega)
        rw [k3, hx] at this; exact this
      rw [shU_list (i - 1 - a) (p := p) (t := v1) (r := v2 ++ r) (x := x) (by rw [h]; simp) (by omega) ha]
      have e := mrg_split lt [] v1 [x] v2 (fun z hz y hy => by rw [List.mem_singleton.1 hz]; exact q1 y hy) (fun _ hz => by cases hz)
      simp only [List.nil_append, nil_mrg] at e
      rw [e]
      cases v2 with
      | nil => simp [mrg_nil]
      | cons y v2 => rw [mrg_keep lt _ _ (q2 y List.mem_cons_self), nil_mrg]; simp
    · rw [if_neg h1]
      by_cases h2 : b - m = 1
      · rw [if_pos h2]
        obtain ⟨y, rfl⟩ : ∃ y, v = [y] := List.length_eq_one_iff.1 (by omega)
        have hy : d[m]! = y := by rw [← lpu]; exact get_at (by simpa using hV)
        obtain ⟨b1, b2, b3, b4⟩ := bsW_spec (P := fun k => !lt d[m]! d[k]!) _ a m rfl (by omega) (fun x' y' hx' hxy hy' hp => by
          have h3 := srt_get S h su (by omega) hxy (by omega)
          simp only [Bool.not_eq_true'] at hp ⊢
          exact S.ntrans _ _ _ hp h3)
        generalize bsW (fun k => !lt d[m]! d[k]!) a m = i at *
        obtain ⟨u1, u2, rfl, hl⟩ : ∃ u1 u2, u = u1 ++ u2 ∧ u1.length = i - a := ⟨u.take (i - a), u.drop (i - a), (List.take_append_drop _ _).symm, by simp; omega⟩
        simp only [List.length_append] at hm
        have q1 : ∀ x ∈ u1, lt y x = false := fun x hx => by
          obtain ⟨k, k1, k2, k3⟩ := get_mid (d := d) (p := p) (u := u1) (r := u2 ++ ([y] ++ r)) (by rw [h]; simp) hx
          have := b3 k (by omega) (by omega)
          rw [k3, hy] at this; simpa using this
        have q2 : ∀ x ∈ u2, lt y x = true := fun x hx => by
          obtain ⟨k, k1, k2, k3⟩ := get_mid (d := d) (p := p ++ u1) (u := u2) (r := [y] ++ r) (by rw [h]; simp) hx
          simp only [List.length_append] at k1 k2
          have := b4 k (by omega) (by omega)
          rw [k3, hy] at this; simpa using this
        rw [shD_list (m - i) (p := p ++ u1) (t := u2) (r := r) (x := y) (by rw [h]; simp) (by omega) (by simp; omega)]
        have e := mrg_split lt u1 [] u2 [y] (fun _ _ _ hz => by cases hz) (fun x hx z hz => by rw [List.mem_singleton.1 hz]; exact q1 x hx)
        simp only [List.nil_append, mrg_nil] at e
        rw [e]
        cases u2 with
        | nil => simp [nil_mrg]
        | cons x u2 => rw [mrg_take lt _ _ (q2 x List.mem_cons_self), mrg_nil]; simp
      · rw [if_neg h2]
        -- where the tests turn
        have KEY : a ≤ symStart lt d a m b ∧ symStart lt d a m b ≤ m ∧ symStart lt d a m b ≤ (a + b) / 2 ∧ m ≤ (a + b) / 2 + m - symStart lt d a m b ∧ (a + b) / 2 + m - symStart lt d a m b ≤ b ∧
            (symStart lt d a m b < m → m < (a + b) / 2 + m - symStart lt d a m b → lt d[(a + b) / 2 + m - symStart lt d a m b - 1]! d[symStart lt d a m b]! = true) ∧
            (a < symStart lt d a m b → (a + b) / 2 + m - symStart lt d a m b < b → lt d[(a + b) / 2 + m - symStart lt d a m b]! d[symStart lt d a m b - 1]! = false) := by
          have mono : ∀ lo hi, a ≤ lo → hi ≤ m → hi ≤ (a + b) / 2 → (a + b) / 2 + m - b ≤ lo → ∀ x y, lo ≤ x → x ≤ y → y < hi → (!lt d[(a + b) / 2 + m - 1 - y]! d[y]!) = true → (!lt d[(a + b) / 2 + m - 1 - x]! d[x]!) = true := fun lo hi g1 g2 g3 g4 x y hx hxy hy hp => by
            have h3 := srt_get S h su (i := x) (j := y) (by omega) hxy (by omega)
            have h4 := srt_get S hV sv (i := (a + b) / 2 + m - 1 - y) (j := (a + b) / 2 + m - 1 - x) (by omega) (by omega) (by omega)
            simp only [Bool.not_eq_true'] at hp ⊢
            exact S.ntrans _ _ _ h4 (S.ntrans _ _ _ hp h3)
          unfold symStart
          by_cases h3 : (a + b) / 2 < m
          · rw [if_pos h3]
            obtain ⟨b1, b2, b3, b4⟩ := bsW_spec (P := fun c => !lt d[(a + b) / 2 + m - 1 - c]! d[c]!) _ ((a + b) / 2 + m - b) ((a + b) / 2) rfl (by omega) (mono _ _ (by omega) (by omega) (Nat.le_refl _) (Nat.le_refl _))
            generalize bsW (fun c => !lt d[(a + b) / 2 + m - 1 - c]! d[c]!) ((a + b) / 2 + m - b) ((a + b) / 2) = s at *
            refine ⟨by omega, by omega, by omega, by omega, by omega, fun h5 h6 => ?_, fun h5 h6 => ?_⟩
            · have := b4 s (Nat.le_refl _) (by omega)
              simp only [Bool.not_eq_false'] at this
              rw [show (a + b) / 2 + m - s - 1 = (a + b) / 2 + m - 1 - s by omega]; exact this
            · have := b3 (s - 1) (by omega) (by omega)
              simp only [Bool.not_eq_true'] at this
              rw [show (a + b) / 2 + m - s = (a + b) / 2 + m - 1 - (s - 1) by omega]; exact this
          · rw [if_neg h3]
            obtain ⟨b1, b2, b3, b4⟩ := bsW_spec (P := fun c => !lt d[(a + b) / 2 + m - 1 - c]! d[c]!) _ a m rfl (by omega) (mono _ _ (Nat.le_refl _) (Nat.le_refl _) (by omega) (by omega))
            generalize bsW (fun c => !lt d[(a + b) / 2 + m - 1 - c]! d[c]!) a m = s at *
            refine ⟨by omega, by omega, by omega, by omega, by omega, fun h5 h6 => ?_, fun h5 h6 => ?_⟩
            · have := b4 s (Nat.le_refl _) (by omega)
              simp only [Bool.not_eq_false'] at this
              rw [show (a + b) / 2 + m - s - 1 = (a + b) / 2 + m - 1 - s by omega]; exact this
            · have := b3 (s - 1) (by omega) (by omega)
              simp only [Bool.not_eq_true'] at this
              rw [show (a + b) / 2 + m - s = (a + b) / 2 + m - 1 - (s - 1) by omega]; exact this
        generalize symStart lt d a m b = s at *
        obtain ⟨c1, c2, c3, c4, c5, c6, c7⟩ := KEY
        obtain ⟨e, he⟩ : ∃ e, e = (a + b) / 2 + m - s := ⟨_, rfl⟩
        rw [← he] at c4 c5 c6 c7 ⊢
        obtain ⟨u1, u2, rfl, hl⟩ : ∃ u1 u2, u = u1 ++ u2 ∧ u1.length = s - a := ⟨u.take (s - a), u.drop (s - a), (List.take_append_drop _ _).symm, by simp; omega⟩
        obtain ⟨v1, v2, rfl, hl2⟩ : ∃ v1 v2, v = v1 ++ v2 ∧ v1.length = e - m := ⟨v.take (e - m), v.drop (e - m), (List.take_append_drop _ _).symm, by simp; omega⟩
        simp only [List.length_append] at hm hb hu hv
        obtain ⟨su1, su2, su3⟩ := srt_app su
        obtain ⟨sv1, sv2, sv3⟩ := srt_app sv
        have q1 : ∀ x ∈ u2, ∀ y ∈ v1, lt y x = true := fun x hx y hy => by
          obtain ⟨k, k1, k2, k3⟩ := get_mid (d := d) (p := p ++ u1) (u := u2) (r := (v1 ++ v2) ++ r) (by rw [h]; simp) hx
          obtain ⟨k', k1', k2', k3'⟩ := get_mid (d := d) (p := p ++ (u1 ++ u2)) (u := v1) (r := v2 ++ r) (by rw [h]; simp) hy
          simp only [List.length_append] at k1 k2 k1' k2'
          have g := c6 (by omega) (by omega)
          have g1 := srt_get S h su (i := s) (j := k) (by omega) (by omega) (by simp; omega)
          have g2 := srt_get S hV sv (i := k') (j := e - 1) (by omega) (by omega) (by simp; omega)
          rw [← k3, ← k3']
          cases hq : lt d[k']! d[k]! with
          | true => rfl
          | false =>
            have := S.ntrans _ _ _ g2 (S.ntrans _ _ _ hq g1)
            rw [g] at this; cases this
        have q2 : ∀ x ∈ u1, ∀ y ∈ v2, lt y x = false := fun x hx y hy => by
          obtain ⟨k, k1, k2, k3⟩ := get_mid (d := d) (p := p) (u := u1) (r := u2 ++ ((v1 ++ v2) ++ r)) (by rw [h]; simp) hx
          obtain ⟨k', k1', k2', k3'⟩ := get_mid (d := d) (p := p ++ (u1 ++ u2) ++ v1) (u := v2) (r := r) (by rw [h]; simp) hy
          simp only [List.length_append] at k1 k2 k1' k2'
          have g := c7 (by omega) (by omega)
          have g1 := srt_get S h su (i := k) (j := s - 1) (by omega) (by omega) (by simp; omega)
          have g2 := srt_get S hV sv (i := e) (j := k') (by omega) (by omega) (by simp; omega)
          rw [← k3, ← k3']
          exact S.ntrans _ _ _ g2 (S.ntrans _ _ _ g g1)
        rw [mrg_split lt u1 v1 u2 v2 q1 q2]
        have D1 : (symRot d s m e).toList = p ++ (u1 ++ (v1 ++ (u2 ++ (v2 ++ r)))) := by
          unfold symRot
          split
          · rename_i hc
            rw [rotF_list m (e - s) (p := p ++ u1) (u := u2) (v := v1) (r := v2 ++ r) (by rw [h]; simp) (by omega) (by omega) (by omega) (by omega) (by simp; omega) (by omega)]
            simp
          · rename_i hc
            rcases (by omega : u2.length = 0 ∨ v1.length = 0) with h0 | h0
            · obtain rfl := List.eq_nil_of_length_eq_zero h0; rw [h]; simp
            · obtain rfl := List.eq_nil_of_length_eq_zero h0; rw [h]; simp
        generalize symRot d s m e = d1 at *
        have D2 : (if a < s ∧ s < (a + b) / 2 then symM lt f d1 a s ((a + b) / 2) else d1).toList = p ++ (mrg lt u1 v1 ++ (u2 ++ (v2 ++ r))) := by
          split
          · rw [symM_list S f (p := p) (u := u1) (v := v1) (r := u2 ++ (v2 ++ r)) D1 ha (by omega) (by omega) (by omega) (by omega) (by omega) su1 sv1]
          · rename_i hc
            rcases (by omega : u1.length = 0 ∨ v1.length = 0) with h0 | h0
            · obtain rfl := List.eq_nil_of_length_eq_zero h0; rw [nil_mrg, D1]; simp
            · obtain rfl := List.eq_nil_of_length_eq_zero h0; rw [mrg_nil, D1]; simp
        generalize (if a < s ∧ s < (a + b) / 2 then symM lt f d1 a s ((a + b) / 2) else d1) = d2 at *
        split
        · rw [symM_list S f (d := d2) (p := p ++ mrg lt u1 v1) (u := u2) (v := v2) (r := r) (by rw [D2]; simp) (by simp [mrg_length]; omega) (by omega) (by omega) (by omega) (by omega) (by omega) su2 sv2]
          simp
        · rename_i hc
          rw [D2]
          rcases (by omega : u2.length = 0 ∨ v2.length = 0) with h0 | h0
          · obtain rfl := List.eq_nil_of_length_eq_zero h0; simp [nil_mrg]
          · obtain rfl := List.eq_nil_of_length_eq_zero h0; simp [mrg_nil]
/-! ### insertion -/
theorem isort_one (lt : α → α → Bool) (x : α) : isort lt [x] = [x] := rfl
theorem insInner_list {lt : α → α → Bool} (S : SWO lt) : ∀ (n : Nat) {d : Array α} {p u r : List α} {x : α} {a j : Nat}, d.toList = p ++ (u ++ x :: r) → u.length = n → a = p.length → j = a + n → Srt lt u → (insInner lt a j d).toList = p ++ (mrg lt u [x] ++ r)
  | 0, d, p, u, r, x, a, j, h, hu, ha, hj, _ => by
    obtain rfl := List.eq_nil_of_length_eq_zero hu
    obtain rfl : j = a := by omega
    rw [nil_mrg]
    cases j with
    | zero => unfold insInner; rw [h]; simp
    | succ j => unfold insInner; rw [if_neg (by simp), h]; simp
  | n + 1, d, p, u, r, x, a, j, h, hu, ha, hj, su => by
    obtain ⟨u', y, rfl⟩ : ∃ u' y, u = u' ++ [y] := ⟨u.dropLast, u.getLast (by intro e; subst e; simp at hu), (List.dropLast_concat_getLast _).symm⟩
    simp only [List.length_append, List.length_cons, List.length_nil] at hu
    obtain ⟨su1, _, su3⟩ := srt_app su
    obtain ⟨k, rfl⟩ : ∃ k, j = k + 1 := ⟨a + n, by omega⟩
    have gy : d[k]! = y := by
      have := get_at (d := d) (A := p ++ u') (x := y) (C := x :: r) (by rw [h]; simp)
      rw [← this]; congr 1; simp; omega
    have gx : d[k + 1]! = x := by
      have := get_at (d := d) (A := p ++ u' ++ [y]) (x := x) (C := r) (by rw [h]; simp)
      rw [← this]; congr 1; simp; omega
    unfold insInner
    cases hc : lt x y with
    | true =>
      rw [if_pos (by rw [gy, gx, hc]; simp; omega)]
      have hsz : d.size = p.length + u'.length + 2 + r.length := by rw [← Array.length_toList, h]; simp; omega
      have e0 : (swp d (k + 1) k).toList = p ++ (u' ++ x :: y :: r) := by
        rw [swp_comm _ _ _ (by omega) (by omega), swp_list (A := p ++ u') (B := []) (C := r) (x := y) (y := x) (by rw [h]; simp) (by simp; omega) (by simp; omega)]
        simp
      rw [insInner_list S n (p := p) (u := u') (r := y :: r) (x := x) e0 (by omega) ha (by omega) su1]
      have e := mrg_split lt u' [x] [y] [] (fun z hz w hw => by rw [List.mem_singleton.1 hz, List.mem_singleton.1 hw]; exact hc) (fun _ _ _ hz => by cases hz)
      simp only [List.append_nil, mrg_nil] at e
      rw [e]; simp
    | false =>
      rw [if_neg (by rw [gy, gx, hc]; simp)]
      have e := mrg_split lt (u' ++ [y]) [] [] [x] (fun _ hz => by cases hz) (fun z hz w hw => by
        rw [List.mem_singleton.1 hw]
        rcases List.mem_append.1 hz with h1 | h1
        · exact S.ntrans _ _ _ hc (su3 z h1 y (List.mem_singleton.2 rfl))
        · rw [List.mem_singleton.1 h1]; exact hc)
      simp only [List.nil_append, List.append_nil, mrg_nil, nil_mrg] at e
      rw [e, h]; simp
theorem insOuter_list {lt : α → α → Bool} (S : SWO lt) : ∀ (s2 : List α) {d : Array α} {p s1 r : List α} {a b i : Nat}, d.toList = p ++ (isort lt s1 ++ (s2 ++ r)) → a = p.length → i = a + s1.length → b = i + s2.length → (insOuter lt a b i d).toList = p ++ (isort lt (s1 ++ s2) ++ r)
  | [], d, p, s1, r, a, b, i, h, ha, hi, hb => by
    rw [insOuter, if_neg (by simp at hb; omega), h]; simp
  | x :: s2, d, p, s1, r, a, b, i, h, ha, hi, hb => by
    simp only [List.length_cons] at hb
    rw [insOuter, if_pos (by omega)]
    have e := insInner_list S (isort lt s1).length (d := d) (p := p) (u := isort lt s1) (r := s2 ++ r) (x := x) (a := a) (j := i) (by rw [h]; simp) rfl ha (by rw [isort_length]; exact hi) (isort_srt S s1)
    rw [← isort_one lt x, ← isort_append S] at e
    rw [insOuter_list S s2 (p := p) (s1 := s1 ++ [x]) (r := r) (by rw [e]) ha (by simp; omega) (by omega)]
    simp
theorem insertionSort_list {lt : α → α → Bool} (S : SWO lt) {d : Array α} {p s r : List α} {a b : Nat} (h : d.toList = p ++ (s ++ r)) (ha : a = p.length) (hb : b = a + s.length) : (insertionSort lt d a b).toList = p ++ (isort lt s ++ r) := by
  unfold insertionSort
  cases s with
  | nil => rw [insOuter, if_neg (by simp at hb; omega), h]; simp [isort]
  | cons x s =>
    have := insOuter_list S s (d := d) (p := p) (s1 := [x]) (r := r) (a := a) (b := b) (i := a + 1) (by rw [h]; simp [isort, ins]) ha (by simp) (by simp at hb; omega)
    simpa using this
theorem insInner_size (lt : α → α → Bool) (a : Nat) : ∀ (j : Nat) (d : Array α), (insInner lt a j d).size = d.size
  | 0, _ => rfl
  | j + 1, d => by
    unfold insInner
    split
    · rw [insInner_size lt a j, size_swp]
    · rfl
theorem insOuter_size (lt : α → α → Bool) (a b : Nat) : ∀ (n i : Nat) (d : Array α), b - i = n → (insOuter lt a b i d).size = d.size := by
  intro n
  induction n with
  | zero => intro i d h; rw [insOuter, if_neg (by omega)]
  | succ n ih => intro i d h; rw [insOuter, if_pos (by omega), ih _ _ (by omega), insInner_size]
theorem insertionSort_size (lt : α → α → Bool) (d : Array α) (a b : Nat) : (insertionSort lt d a b).size = d.size := insOuter_size lt a b _ _ d rfl

/-! ### stable -/
def blkF (lt : α → α → Bool) (d : Array α) (a n : Nat) : Array α := if a + 20 ≤ n then blkF lt (insertionSort lt d a (a + 20)) (a + 20) n else insertionSort lt d a n
termination_by n - a
decreasing_by omega
theorem blkF_go {lt : α → α → Bool} {d : Array α} {a n : Nat} (h : a + 20 ≤ n) : blkF lt d a n = blkF lt (insertionSort lt d a (a + 20)) (a + 20) n := by rw [blkF, if_pos h]
theorem blkF_end {lt : α → α → Bool} {d : Array α} {a n : Nat} (h : ¬ a + 20 ≤ n) : blkF lt d a n = insertionSort lt d a n := by rw [blkF, if_neg h]
def passF (lt : α → α → Bool) (d : Array α) (bs a n : Nat) : Array α :=
  if _h : 0 < bs ∧ a + 2 * bs ≤ n then passF lt (symM lt (2 * bs) d a (a + bs) (a + 2 * bs)) bs (a + 2 * bs) n else if a + bs < n then symM lt (n - a) d a (a + bs) n else d
termination_by n - a
decreasing_by omega
theorem passF_go {lt : α → α → Bool} {d : Array α} {bs a n : Nat} (h0 : 0 < bs) (h : a + 2 * bs ≤ n) : passF lt d bs a n = passF lt (symM lt (2 * bs) d a (a + bs) (a + 2 * bs)) bs (a + 2 * bs) n := by rw [passF, dif_pos ⟨h0, h⟩]
theorem passF_part {lt : α → α → Bool} {d : Array α} {bs a n : Nat} (h : ¬ a + 2 * bs ≤ n) (h2 : a + bs < n) : passF lt d bs a n = symM lt (n - a) d a (a + bs) n := by rw [passF, dif_neg (fun x => h x.2), if_pos h2]
theorem passF_end {lt : α → α → Bool} {d : Array α} {bs a n : Nat} (h : ¬ a + 2 * bs ≤ n) (h2 : ¬ a + bs < n) : passF lt d bs a n = d := by rw [passF, dif_neg (fun x => h x.2), if_neg h2]
def passesF (lt : α → α → Bool) (d : Array α) (bs n : Nat) : Array α := if _h : 0 < bs ∧ bs < n then passesF lt (passF lt d bs 0 n) (bs * 2) n else d
termination_by n - bs
decreasing_by omega
theorem passesF_go {lt : α → α → Bool} {d : Array α} {bs n : Nat} (h0 : 0 < bs) (h : bs < n) : passesF lt d bs n = passesF lt (passF lt d bs 0 n) (bs * 2) n := by rw [passesF, dif_pos ⟨h0, h⟩]
theorem passesF_end {lt : α → α → Bool} {d : Array α} {bs n : Nat} (h : ¬ bs < n) : passesF lt d bs n = d := by rw [passesF, dif_neg (fun x => h x.2)]
def chS (lt : α → α → Bool) (bs : Nat) (l : List α) : List α := if _h : 0 < bs ∧ bs ≤ l.length then isort lt (l.take bs) ++ chS lt bs (l.drop bs) else isort lt l
termination_by l.length
decreasing_by simp; omega
theorem chS_go {lt : α → α → Bool} {bs : Nat} {l : List α} (h0 : 0 < bs) (h : bs ≤ l.length) : chS lt bs l = isort lt (l.take bs) ++ chS lt bs (l.drop bs) := by rw [chS, dif_pos ⟨h0, h⟩]
theorem chS_end {lt : α → α → Bool} {bs : Nat} {l : List α} (h : ¬ bs ≤ l.length) : chS lt bs l = isort lt l := by rw [chS, dif_neg (fun x => h x.2)]
theorem chS_all {lt : α → α → Bool} {bs : Nat} {l : List α} (h0 : 0 < bs) (h : l.length ≤ bs) : chS lt bs l = isort lt l := by
  by_cases e : bs ≤ l.length
  · rw [chS_go h0 e, chS_end (by simp; omega), List.take_of_length_le h, List.drop_of_length_le h]; simp [isort]
  · exact chS_end e
theorem chS_length {lt : α → α → Bool} {bs : Nat} : ∀ (n : Nat) (l : List α), l.length = n → (chS lt bs l).length = l.length := by
  intro n
  induction n using Nat.strongRecOn with
  | _ n ih =>
    intro l hl
    by_cases h : 0 < bs ∧ bs ≤ l.length
    · rw [chS_go h.1 h.2, List.length_append, isort_length, ih (l.drop bs).length (by simp; omega) _ rfl]
      simp; omega
    · rw [chS, dif_neg h, isort_length]
theorem blkF_list {lt : α → α → Bool} (S : SWO lt) : ∀ (k : Nat) {d : Array α} {p l : List α} {a n : Nat}, d.toList = p ++ l → a = p.length → n = a + l.length → l.length = k → (blkF lt d a n).toList = p ++ chS lt 20 l := by
  intro k
  induction k using Nat.strongRecOn with
  | _ k ih =>
    intro d p l a n h ha hn hk
    by_cases hc : 20 ≤ l.length
    · rw [blkF_go (by omega), chS_go (by decide) hc]
      have e := insertionSort_list S (d := d) (p := p) (s := l.take 20) (r := l.drop 20) (a := a) (b := a + 20) (by rw [List.take_append_drop, h]) ha (by simp; omega)
      rw [ih (l.drop 20).length (by simp; omega) (p := p ++ isort lt (l.take 20)) (l := l.drop 20) (by rw [e]; simp) (by simp [isort_length]; omega) (by simp; omega) rfl]
      simp
    · rw [blkF_end (by omega), chS_end hc]
      have e := insertionSort_list S (d := d) (p := p) (s := l) (r := []) (a := a) (b := n) (by rw [h]; simp) ha (by omega)
      rw [e]; simp
theorem passF_list {lt : α → α → Bool} (S : SWO lt) {bs : Nat} (h0 : 0 < bs) : ∀ (k : Nat) {d : Array α} {p l : List α} {a n : Nat}, d.toList = p ++ chS lt bs l → a = p.length → n = a + l.length → l.length = k → (passF lt d bs a n).toList = p ++ chS lt (bs * 2) l := by
  intro k
  induction k using Nat.strongRecOn with
  | _ k ih =>
    intro d p l a n h ha hn hk
    by_cases hc : 2 * bs ≤ l.length
    · rw [passF_go h0 (by omega), chS_go (bs := bs * 2) (by omega) (by omega)]
      rw [chS_go h0 (by omega), chS_go h0 (by simp; omega), List.drop_drop] at h
      have e := symM_list S (2 * bs) (d := d) (p := p) (u := isort lt (l.take bs)) (v := isort lt ((l.drop bs).take bs)) (r := chS lt bs (l.drop (bs + bs))) (a := a) (m := a + bs) (b := a + 2 * bs)
        h ha (by simp [isort_length]; omega) (by simp [isort_length]; omega) (by simp [isort_length]; omega) (by simp [isort_length]; omega) (by omega) (isort_srt S _) (isort_srt S _)
      rw [← isort_append S, ← List.take_add] at e
      rw [ih (l.drop (bs + bs)).length (by simp; omega) (p := p ++ isort lt (l.take (bs + bs))) (l := l.drop (bs + bs)) (by rw [e]; simp) (by simp [isort_length]; omega) (by simp; omega) rfl]
      rw [show bs * 2 = bs + bs by omega]
      simp
    · by_cases hc2 : bs < l.length
      · rw [passF_part (by omega) (by omega), chS_end (bs := bs * 2) (by omega)]
        rw [chS_go h0 (by omega), chS_end (by simp; omega)] at h
        have e := symM_list S (n - a) (d := d) (p := p) (u := isort lt (l.take bs)) (v := isort lt (l.drop bs)) (r := []) (a := a) (m := a + bs) (b := n)
          (by rw [h]; simp) ha (by simp [isort_length]; omega) (by simp [isort_length]; omega) (by simp [isort_length]; omega) (by simp [isort_length]; omega) (by omega) (isort_srt S _) (isort_srt S _)
        rw [← isort_append S, List.take_append_drop] at e
        rw [e]; simp
      · rw [passF_end (by omega) (by omega), chS_end (bs := bs * 2) (by omega), h, chS_all h0 (by omega)]
theorem passesF_list {lt : α → α → Bool} (S : SWO lt) : ∀ (k : Nat) {d : Array α} {l : List α} {bs n : Nat}, 0 < bs → d.toList = chS lt bs l → n = l.length → n - bs = k → (passesF lt d bs n).toList = isort lt l := by
  intro k
  induction k using Nat.strongRecOn with
  | _ k ih =>
    intro d l bs n h0 h hn hk
    by_cases hc : bs < n
    · rw [passesF_go h0 hc]
      exact ih (n - bs * 2) (by omega) (by omega) (by
        have := passF_list S h0 l.length (d := d) (p := []) (l := l) (a := 0) (n := n) (by rw [h]; simp) rfl (by omega) rfl
        simpa using this) hn rfl
    · rw [passesF_end hc, h, chS_all h0 (by omega)]
/-- **the stable sort, as the library does it, is the stable sort** -/
theorem stable_list {lt : α → α → Bool} (S : SWO lt) (d : Array α) : (passesF lt (blkF lt d 0 d.size) 20 d.size).toList = isort lt d.toList :=
  passesF_list S _ (by decide) (by
    have := blkF_list S d.toList.length (d := d) (p := []) (l := d.toList) (a := 0) (n := d.size) (by simp) rfl (by simp) rfl
    simpa using this) (by simp) rfl
end Go.Proofs.Ytbhnjmdlagjfbaa.Ss
