/- What is laid of a command is read, and what is read is laid so; plainly (layer 22). No condition. -/
import Derived.Test.YtlejicmpefdhpaaDoorCmdD
namespace Go.Proofs.YtlejicmpefdhpaaDoor
set_option linter.unusedVariables false
open Go Go.RowKit

theorem fold_unfold (m : Nat) : foldF (unfoldF m) = m := by unfold foldF unfoldF; split <;> split <;> omega
theorem scan_back (xs : List Int) : ∀ (i u : Nat) (ys : List Int) (v : Int), (∀ x ∈ xs, 0 ≤ x ∧ x ≤ 255) → scan i u xs = (ys, 0, v) → ∃ m : Nat, xs = putU m ++ ys ∧ v = unfoldF (u + m * 2 ^ (7 * i)) ∧ (0 < i → 0 < m) := by
  induction xs with
  | nil => intro i u ys v _ h; unfold scan at h; simp at h
  | cons x xs ih =>
    intro i u ys v hb h
    have hx := hb x List.mem_cons_self
    have hp : 2 ^ (7 * (i + 1)) = 128 * 2 ^ (7 * i) := by rw [show 7 * (i + 1) = 7 + 7 * i by omega, Nat.pow_add]
    unfold scan at h
    by_cases h9 : i = 9 ∧ 1 < x
    · rw [if_pos h9] at h; simp at h
    · rw [if_neg h9] at h
      by_cases h1 : 128 ≤ x
      · rw [if_pos h1] at h
        obtain ⟨m, hm, hv, h0⟩ := ih (i + 1) _ ys v (fun y hy => hb y (List.mem_cons_of_mem _ hy)) h
        have hm0 := h0 (by omega)
        refine ⟨(x - 128).toNat + 128 * m, ?_, ?_, fun _ => by omega⟩
        · rw [putU_ge (by omega), hm, show ((x - 128).toNat + 128 * m) / 128 = m by omega, show (((x - 128).toNat + 128 * m) % 128 + 128 : Nat) = x.toNat by omega, show ((x.toNat : Nat) : Int) = x by omega]
          rfl
        · rw [hv, hp, Nat.add_mul, show 128 * m * 2 ^ (7 * i) = m * (128 * 2 ^ (7 * i)) by rw [← Nat.mul_assoc, Nat.mul_comm 128 m], Nat.add_assoc]
      · rw [if_neg h1] at h
        by_cases h2 : 0 < i ∧ x = 0
        · rw [if_pos h2] at h; simp at h
        · rw [if_neg h2] at h
          injection h with e1 e2
          injection e2 with _ e3
          subst e1
          refine ⟨x.toNat, ?_, e3.symm, fun hi => by omega⟩
          rw [putU_lt (by omega), show ((x.toNat : Nat) : Int) = x by omega]
          rfl
theorem intF_back {xs ys : List Int} {v : Int} (hb : ∀ x ∈ xs, 0 ≤ x ∧ x ≤ 255) (h : intF ⟨xs, 0⟩ = (⟨ys, 0⟩, v)) : xs = putI v ++ ys := by
  unfold intF at h
  rw [if_pos rfl] at h
  injection h with e1 e2
  injection e1 with e3 e4
  obtain ⟨m, hm, hv, _⟩ := scan_back xs 0 0 ys v hb (by
    rw [← e2, ← e3, ← e4])
  rw [hm]
  unfold putI
  rw [hv]
  simp [fold_unfold]
theorem intF_rest {xs : List Int} (hb : ∀ x ∈ xs, 0 ≤ x ∧ x ≤ 255) : ∀ y ∈ (intF ⟨xs, 0⟩).1.xs, 0 ≤ y ∧ y ≤ 255 := by
  unfold intF
  rw [if_pos rfl]
  exact scan_rest xs 0 0 hb
theorem readN_back : ∀ (k : Nat) (xs ys l : List Int), (∀ x ∈ xs, 0 ≤ x ∧ x ≤ 255) → readN k ⟨xs, 0⟩ = (⟨ys, 0⟩, l) → l.length = k ∧ xs = l.flatMap putI ++ ys
  | 0, xs, ys, l, _, h => by
    injection h with e1 e2
    injection e1 with e3
    subst e2 e3
    exact ⟨rfl, rfl⟩
  | k + 1, xs, ys, l, hb, h => by
    rw [readN_succ, if_pos rfl] at h
    have hr := intF_rest hb
    rcases hi : intF ⟨xs, 0⟩ with ⟨⟨zs, bd⟩, v⟩
    rw [hi] at h hr
    simp only at h hr
    by_cases h0 : bd = 0
    · subst h0
      have hx := intF_back hb hi
      rcases hk : readN k ⟨zs, 0⟩ with ⟨st, l'⟩
      rw [hk] at h
      injection h with e1 e2
      simp only at e1 e2
      rw [e1] at hk
      obtain ⟨hl, hz⟩ := readN_back k zs ys l' hr hk
      subst e2
      refine ⟨by simp [hl], ?_⟩
      rw [hx, hz, List.flatMap_cons, List.append_assoc]
    · rw [readN_bad h0] at h
      injection h with e1 e2
      injection e1 with _ e3
      exact absurd e3 h0
theorem endF_ok {st : CS} (h : endF st = 0) : st = ⟨[], 0⟩ := by
  unfold endF at h
  obtain ⟨xs, bd⟩ := st
  simp only at h
  split at h
  · omega
  · rename_i hn
    subst h
    simp at hn
    rw [hn]
theorem readN_putC {xs : List Int} (h : Cmd12 xs) (ys : List Int) : readN 12 ⟨putC xs ++ ys, 0⟩ = (⟨ys, 0⟩, cleanL xs) := by
  have := readN_put (cleanL xs) 0 ys (cleanL_cmd h).inb
  rw [cleanL_len] at this
  unfold putC
  rw [this]
  simp [readN]
theorem ysC_put {xs : List Int} (h : Cmd12 xs) : ysC (putC xs) = cleanL xs := by
  have := readN_putC h []
  rw [List.append_nil] at this
  unfold ysC
  rw [this, cleanL_len]
  simp
theorem readB_put {xs : List Int} (h : Cmd12 xs) : readB (putC xs) = rightL xs := by
  have hr := readN_putC h []
  rw [List.append_nil] at hr
  unfold readB
  rw [hr, ysC_put h, nzC_same (cleanL_len xs) (cleanL_cmd h).last, right_clean, clean_clean]
  simp [endF]
theorem readB_more {xs : List Int} (h : Cmd12 xs) : readB (putC xs ++ [0]) = false := by
  unfold readB
  rw [readN_putC h]
  rfl
theorem flat_pos : ∀ (l : List Int), l.length ≤ (l.flatMap putI).length
  | [] => by simp
  | x :: l => by
    have h1 := putI_pos x
    have h2 := flat_pos l
    simp only [List.flatMap_cons, List.length_append, List.length_cons]
    omega
theorem putC_pos (xs : List Int) : 12 ≤ (putC xs).length := by
  have := flat_pos (cleanL xs)
  rw [cleanL_len] at this
  exact this
theorem putC_le {xs : List Int} (h : Cmd12 xs) : (putC xs).length ≤ 120 := by
  have := flat_len (cleanL xs) (cleanL_cmd h).inb
  rw [cleanL_len] at this
  unfold putC
  omega
theorem readB_cut {xs : List Int} (h : Cmd12 xs) : readB ((putC xs).take ((putC xs).length - 1)) = false := by
  have hcl := cleanL_cmd h
  have hn : cleanL xs ≠ [] := fun e => by have := cleanL_len xs; rw [e] at this; cases this
  rcases List.eq_nil_or_concat (cleanL xs) with e | ⟨i, x, e⟩
  · exact absurd e hn
  · rw [List.concat_eq_append] at e
    have hl : i.length = 11 := by have := cleanL_len xs; rw [e] at this; simpa using this
    have hx : -9223372036854775808 ≤ x ∧ x ≤ 9223372036854775807 := hcl.inb x (by rw [e]; simp)
    have hi : ∀ y ∈ i, -9223372036854775808 ≤ y ∧ y ≤ 9223372036854775807 := fun y hy => hcl.inb y (by rw [e]; simp [hy])
    have hp := putI_pos x
    have ht : (putC xs).take ((putC xs).length - 1) = i.flatMap putI ++ (putI x).take ((putI x).length - 1) := by
      unfold putC
      rw [e, List.flatMap_append, show [x].flatMap putI = putI x by simp]
      generalize i.flatMap putI = A
      rw [List.take_append, List.length_append, List.take_of_length_le (by omega), show A.length + (putI x).length - 1 - A.length = (putI x).length - 1 by omega]
    have h3 := readN_put i 1 ((putI x).take ((putI x).length - 1)) hi
    have hc : readN 1 ⟨(putI x).take ((putI x).length - 1), 0⟩ = (⟨[], 10⟩, [0]) := by
      rw [readN_succ, if_pos rfl, intF_cut hx (by omega)]
      rfl
    rw [hc, hl] at h3
    unfold readB
    rw [ht, h3]
    rfl
/-- what is read is laid as it was -/
theorem readB_back {bs : List Int} (hb : ∀ x ∈ bs, 0 ≤ x ∧ x ≤ 255) (h : readB bs = true) : putC (ysC bs) = bs ∧ Cmd12 (ysC bs) ∧ cleanL (ysC bs) = ysC bs ∧ rightL (ysC bs) = true := by
  unfold readB at h
  rw [Bool.and_eq_true, Bool.and_eq_true, beq_iff_eq, decide_eq_true_eq] at h
  obtain ⟨⟨h1, h2⟩, h3⟩ := h
  have hz := nzC_cmd (ysC_len bs) (ysC_in hb)
  have hc : Cmd12 (ysC bs) := by rw [← h3]; exact cleanL_cmd hz
  have hn : nzC (ysC bs) = ysC bs := nzC_same (ysC_len bs) hc.last
  rw [hn] at h2 h3
  refine ⟨?_, hc, h3, h2⟩
  have he := endF_ok h1
  rcases hr : readN 12 ⟨bs, 0⟩ with ⟨st, l⟩
  rw [hr] at he
  simp only at he
  subst he
  obtain ⟨hl, hbs⟩ := readN_back 12 bs [] l hb hr
  have hys : ysC bs = l := by unfold ysC; rw [hr]; simp [hl]
  unfold putC
  rw [h3, hys, hbs]
  simp
theorem putC_inj {xs ys : List Int} (hx : Cmd12 xs) (hy : Cmd12 ys) (h : putC xs = putC ys) : cleanL xs = cleanL ys := by
  rw [← ysC_put hx, ← ysC_put hy, h]
theorem putC_mem (xs : List Int) : ∀ x ∈ putC xs, 0 ≤ x ∧ x ≤ 255 := by
  intro x hx
  unfold putC at hx
  obtain ⟨y, _, hy⟩ := List.mem_flatMap.1 hx
  exact putI_mem y x hy
end Go.Proofs.YtlejicmpefdhpaaDoor
