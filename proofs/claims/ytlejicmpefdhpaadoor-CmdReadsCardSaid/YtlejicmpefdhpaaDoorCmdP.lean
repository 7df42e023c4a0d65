/- Commands as twelve numbers, plainly: which count, which may be, how they are laid and read (layer 22). No condition. -/
import Derived.Test.YtlejicmpefdhpaaDoorCmdK
import Derived.Test.YtlejicmpefdhpaaDoorCmdB
import Derived.Test.YtlejicmpefdhpaaDoorCmdM
import Derived.Test.YtlejicmpefdhpaaDoorCodQ
namespace Go.Proofs.YtlejicmpefdhpaaDoor
set_option linter.unusedVariables false
open Go.ChangeShapes Go.WideShapes Go.ChangeAt Go.RowKit

/-- a command's numbers: what is held is 0 or 1 -/
structure Cmd12 (xs : List Int) : Prop where
  len : xs.length = 12
  last : xs.getD 11 0 = 0 ∨ xs.getD 11 0 = 1
  inb : ∀ x ∈ xs, -9223372036854775808 ≤ x ∧ x ≤ 9223372036854775807
def numC (xs : List Int) : List Value := xs.map (.int .i64)
def cmdC (xs : List Int) : List Value := (xs.take 11).map (.int .i64) ++ [.bool (xs.getD 11 0 == 1)]
theorem cmdC_len {xs : List Int} (h : xs.length = 12) : (cmdC xs).length = 12 := by simp [cmdC, h]
theorem numC_len (xs : List Int) : (numC xs).length = xs.length := by simp [numC]
theorem numC_at {xs : List Int} {i : Nat} (h : i < xs.length) : (numC xs)[i]? = some (.int .i64 (xs.getD i 0)) := by simp [numC, List.getD, h]
theorem cmdC_kind {xs : List Int} (h : xs.length = 12) : (cmdC xs)[0]? = some (.int .i64 (xs.getD 0 0)) := by
  rcases xs with _ | ⟨x, xs⟩
  · simp at h
  · rfl
theorem twelve {xs : List Int} (h : xs.length = 12) : ∃ x0 x1 x2 x3 x4 x5 x6 x7 x8 x9 x10 x11, xs = [x0, x1, x2, x3, x4, x5, x6, x7, x8, x9, x10, x11] := by
  rcases xs with _ | ⟨x0, _ | ⟨x1, _ | ⟨x2, _ | ⟨x3, _ | ⟨x4, _ | ⟨x5, _ | ⟨x6, _ | ⟨x7, _ | ⟨x8, _ | ⟨x9, _ | ⟨x10, _ | ⟨x11, _ | ⟨x12, xs⟩⟩⟩⟩⟩⟩⟩⟩⟩⟩⟩⟩⟩ <;> simp at h
  exact ⟨x0, x1, x2, x3, x4, x5, x6, x7, x8, x9, x10, x11, rfl⟩
theorem laid_c {xs : List Int} (h : Cmd12 xs) (w : World) : Calls Tryd.prog 24 #[.agg (cmdC xs).toArray] w fun e w' => e = .returned (.agg (numC xs).toArray) ∧ Below w.heap.size w w' := by
  obtain ⟨x0, x1, x2, x3, x4, x5, x6, x7, x8, x9, x10, x11, rfl⟩ := twelve h.len
  have hl := h.last
  refine (laid_any x0 x1 x2 x3 x4 x5 x6 x7 x8 x9 x10 (x11 == 1) w).mono fun e w' hh => ?_
  rw [show heldN (x11 == 1) = x11 by
    rcases (show x11 = 0 ∨ x11 = 1 from hl) with rfl | rfl <;> rfl] at hh
  exact hh
theorem of_c {xs : List Int} (h : xs.length = 12) (w : World) : Calls Tryd.prog 26 #[.agg (numC xs).toArray] w fun e w' => e = .returned (.agg (cmdC xs).toArray) ∧ Below w.heap.size w w' := by
  obtain ⟨x0, x1, x2, x3, x4, x5, x6, x7, x8, x9, x10, x11, rfl⟩ := twelve h
  exact cmdof12_any x0 x1 x2 x3 x4 x5 x6 x7 x8 x9 x10 x11 (x11 == 1) rfl w

/-- which fields count -/
def cntN (k : Nat) : List Nat := [[], [2, 3, 4, 5, 6, 9, 11], [1], [1], [1], [1, 9], [3, 9, 10, 4], [3, 1], [3, 4], [3], [9], [3, 7, 8], [1]].getD k []
theorem cnt_cases (k : Nat) : (k = 0 ∨ 12 < k) ∧ cntN k = [] ∨ k = 1 ∨ k = 2 ∨ k = 3 ∨ k = 4 ∨ k = 5 ∨ k = 6 ∨ k = 7 ∨ k = 8 ∨ k = 9 ∨ k = 10 ∨ k = 11 ∨ k = 12 := by
  rcases Nat.lt_or_ge 12 k with h | h
  · exact .inl ⟨.inr h, by unfold cntN; rw [List.getD_eq_getElem?_getD, List.getElem?_eq_none (by simp; omega)]; rfl⟩
  · rcases (by omega : k = 0 ∨ 1 ≤ k) with rfl | h1
    · exact .inl ⟨.inl rfl, rfl⟩
    · right; omega
theorem cntF_eq (k : Nat) : cntF k = (cntN k).map fun (f : Nat) => (f : Int) := by
  rcases Nat.lt_or_ge 12 k with h | h
  · unfold cntF cntN
    rw [List.getD_eq_getElem?_getD, List.getElem?_eq_none (by simp; omega), List.getD_eq_getElem?_getD, List.getElem?_eq_none (by simp; omega)]
    rfl
  · have := of_decide_eq_true (show decide (∀ k : Nat, k < 13 → cntF k = (cntN k).map fun (f : Nat) => (f : Int)) = true by decide +kernel)
    exact this k (by omega)
theorem cntN_in (k : Nat) : ∀ f ∈ cntN k, 1 ≤ f ∧ f ≤ 11 := by
  rcases Nat.lt_or_ge 12 k with h | h
  · unfold cntN
    rw [List.getD_eq_getElem?_getD, List.getElem?_eq_none (by simp; omega)]
    intro f hf; cases hf
  · have := of_decide_eq_true (show decide (∀ k : Nat, k < 13 → ∀ f ∈ cntN k, 1 ≤ f ∧ f ≤ 11) = true by decide +kernel)
    exact this k (by omega)
theorem cntN_len (k : Nat) : (cntN k).length ≤ 7 := by
  rcases Nat.lt_or_ge 12 k with h | h
  · unfold cntN
    rw [List.getD_eq_getElem?_getD, List.getElem?_eq_none (by simp; omega)]
    decide
  · have := of_decide_eq_true (show decide (∀ k : Nat, k < 13 → (cntN k).length ≤ 7) = true by decide +kernel)
    exact this k (by omega)

/-- the numbers of some fields alone, beside the kind -/
def partL (xs : List Int) (fs : List Nat) : List Int := (List.range 12).map fun i => if i = 0 then xs.getD 0 0 else if i ∈ fs then xs.getD i 0 else 0
theorem partL_len (xs : List Int) (fs : List Nat) : (partL xs fs).length = 12 := by simp [partL]
theorem partL_get {xs : List Int} {fs : List Nat} {i : Nat} (h : i < 12) : (partL xs fs).getD i 0 = if i = 0 then xs.getD 0 0 else if i ∈ fs then xs.getD i 0 else 0 := by
  unfold partL
  rw [List.getD_eq_getElem?_getD, List.getElem?_map, List.getElem?_range h]
  rfl
theorem partL_nil (xs : List Int) : partL xs [] = [xs.getD 0 0, 0, 0, 0, 0, 0, 0, 0, 0, 0, 0, 0] := by
  unfold partL
  simp [List.range_succ]
theorem partL_set {xs : List Int} {fs : List Nat} {f : Nat} (h1 : 1 ≤ f) (h2 : f ≤ 11) : (partL xs fs).set f (xs.getD f 0) = partL xs (fs ++ [f]) := by
  apply List.ext_getElem?
  intro i
  rw [List.getElem?_set]
  unfold partL
  simp only [List.length_map, List.length_range, List.getElem?_map]
  by_cases hi : i < 12
  · rw [List.getElem?_range hi]
    by_cases he : f = i
    · subst he
      rw [if_pos rfl, if_pos hi]
      simp only [Option.map_some]
      rw [if_neg (by omega), if_pos (by simp)]
    · rw [if_neg he]
      simp only [Option.map_some, List.mem_append, List.mem_singleton]
      have : (i ∈ fs ∨ i = f) ↔ i ∈ fs := ⟨fun h => h.resolve_right fun e => he e.symm, .inl⟩
      simp only [this]
  · rw [List.getElem?_eq_none (by simp; omega)]
    by_cases he : f = i
    · omega
    · rw [if_neg he]; rfl
def kindB (xs : List Int) : Bool := decide (1 ≤ xs.getD 0 0) && decide (xs.getD 0 0 ≤ 12)
def kN (xs : List Int) : Nat := (xs.getD 0 0).toNat
/-- a command without what does not count -/
def cleanL (xs : List Int) : List Int := if kindB xs = true then partL xs (cntN (kN xs)) else List.replicate 12 0
theorem cleanL_len (xs : List Int) : (cleanL xs).length = 12 := by unfold cleanL; split; exact partL_len _ _; simp
theorem getD_inb {xs : List Int} (h : ∀ x ∈ xs, -9223372036854775808 ≤ x ∧ x ≤ 9223372036854775807) (i : Nat) : -9223372036854775808 ≤ xs.getD i 0 ∧ xs.getD i 0 ≤ 9223372036854775807 := by
  rw [List.getD_eq_getElem?_getD]
  by_cases hi : i < xs.length
  · rw [List.getElem?_eq_getElem hi]; exact h _ (List.getElem_mem hi)
  · rw [List.getElem?_eq_none (by omega)]; decide
theorem partL_cmd {xs : List Int} (h : Cmd12 xs) (fs : List Nat) : Cmd12 (partL xs fs) := by
  refine ⟨partL_len _ _, ?_, ?_⟩
  · rw [partL_get (by decide), if_neg (by decide)]
    split
    · exact h.last
    · exact .inl rfl
  · intro x hx
    unfold partL at hx
    obtain ⟨i, _, rfl⟩ := List.mem_map.1 hx
    have h0 := getD_inb h.inb 0
    have hi := getD_inb h.inb i
    split
    · exact h0
    · split
      · exact hi
      · decide
theorem zeros_cmd : Cmd12 (List.replicate 12 0) := ⟨rfl, .inl rfl, by decide⟩
theorem cleanL_cmd {xs : List Int} (h : Cmd12 xs) : Cmd12 (cleanL xs) := by
  unfold cleanL
  split
  · exact partL_cmd h _
  · exact zeros_cmd
theorem kindB_clean (xs : List Int) : (cleanL xs).getD 0 0 = if kindB xs = true then xs.getD 0 0 else 0 := by
  unfold cleanL
  split
  · rw [partL_get (by decide), if_pos rfl]
  · rfl
theorem kind_clean (xs : List Int) : kindB (cleanL xs) = kindB xs := by
  have h := kindB_clean xs
  cases hk : kindB xs with
  | true =>
    rw [hk, if_pos rfl] at h
    unfold kindB at hk ⊢
    rw [h]; exact hk
  | false =>
    rw [hk, if_neg (by decide)] at h
    unfold kindB
    rw [h]; rfl
theorem clean_get {xs : List Int} (hk : kindB xs = true) {i : Nat} (hi : i < 12) : (cleanL xs).getD i 0 = if i = 0 then xs.getD 0 0 else if i ∈ cntN (kN xs) then xs.getD i 0 else 0 := by
  unfold cleanL
  rw [if_pos hk, partL_get hi]
theorem list_ext12 {a b : List Int} (ha : a.length = 12) (hb : b.length = 12) (h : ∀ i, i < 12 → a.getD i 0 = b.getD i 0) : a = b := by
  apply List.ext_getElem?
  intro i
  by_cases hi : i < 12
  · have := h i hi
    rw [List.getD_eq_getElem?_getD, List.getD_eq_getElem?_getD, List.getElem?_eq_getElem (by omega), List.getElem?_eq_getElem (by omega)] at this
    rw [List.getElem?_eq_getElem (by omega), List.getElem?_eq_getElem (by omega)]
    exact congrArg some this
  · rw [List.getElem?_eq_none (by omega), List.getElem?_eq_none (by omega)]
theorem clean_clean (xs : List Int) : cleanL (cleanL xs) = cleanL xs := by
  cases hk : kindB xs with
  | false =>
    have h1 : cleanL xs = List.replicate 12 0 := by unfold cleanL; rw [hk, if_neg (by decide)]
    rw [h1]
    rfl
  | true =>
    have hk2 : kindB (cleanL xs) = true := by rw [kind_clean, hk]
    have hkn : kN (cleanL xs) = kN xs := by unfold kN; rw [kindB_clean, hk, if_pos rfl]
    refine list_ext12 (cleanL_len _) (cleanL_len _) fun i hi => ?_
    rw [clean_get hk2 hi, hkn, clean_get hk hi, clean_get hk (by decide)]
    by_cases h0 : i = 0
    · subst h0; rfl
    · rw [if_neg h0, if_neg h0]
      split <;> rfl
/-- whether one may be -/
def rightL (xs : List Int) : Bool := kindB xs && (cntN (kN xs)).all fun f => decide ((bndF (xs.getD 0 0) f).1 ≤ xs.getD f 0) && decide (xs.getD f 0 ≤ (bndF (xs.getD 0 0) f).2)
theorem right_clean (xs : List Int) : rightL (cleanL xs) = rightL xs := by
  unfold rightL
  rw [kind_clean]
  cases hk : kindB xs with
  | false => rfl
  | true =>
    have h0 : (cleanL xs).getD 0 0 = xs.getD 0 0 := by rw [kindB_clean, hk, if_pos rfl]
    have hkn : kN (cleanL xs) = kN xs := by unfold kN; rw [h0]
    rw [hkn, h0]
    congr 1
    rw [Bool.eq_iff_iff, List.all_eq_true, List.all_eq_true]
    refine forall_congr' fun f => forall_congr' fun hf => ?_
    have hb := cntN_in _ f hf
    rw [clean_get hk (by omega), if_neg (by omega), if_pos hf]
/-- the bytes -/
def putC (xs : List Int) : List Int := (cleanL xs).flatMap putI
/-- what is read: numbers, or none -/
def ysC (bs : List Int) : List Int := (readN 12 ⟨bs, 0⟩).2 ++ List.replicate (12 - (readN 12 ⟨bs, 0⟩).2.length) 0
def nzC (ys : List Int) : List Int := ys.take 11 ++ [if ys.getD 11 0 = 1 then 1 else 0]
def readB (bs : List Int) : Bool := (endF (readN 12 ⟨bs, 0⟩).1 == 0) && rightL (nzC (ysC bs)) && decide (cleanL (nzC (ysC bs)) = ysC bs)
theorem readN_len : ∀ (k : Nat) (st : CS), (readN k st).2.length ≤ k
  | 0, st => by simp [readN]
  | k + 1, st => by
    rw [readN_succ]
    split
    · have := readN_len k (intF st).1; simp; omega
    · simp
theorem ysC_len (bs : List Int) : (ysC bs).length = 12 := by
  have := readN_len 12 ⟨bs, 0⟩
  unfold ysC
  simp; omega
theorem nzC_len {ys : List Int} (h : ys.length = 12) : (nzC ys).length = 12 := by simp [nzC, h]
theorem nzC_cmd {ys : List Int} (h : ys.length = 12) (hi : ∀ x ∈ ys, -9223372036854775808 ≤ x ∧ x ≤ 9223372036854775807) : Cmd12 (nzC ys) := by
  obtain ⟨x0, x1, x2, x3, x4, x5, x6, x7, x8, x9, x10, x11, rfl⟩ := twelve h
  refine ⟨rfl, ?_, ?_⟩
  · show (if x11 = 1 then (1 : Int) else 0) = 0 ∨ (if x11 = 1 then (1 : Int) else 0) = 1
    split
    · exact .inr rfl
    · exact .inl rfl
  · intro x hx
    unfold nzC at hx
    rcases List.mem_append.1 hx with hx | hx
    · exact hi x (List.mem_of_mem_take hx)
    · rw [List.mem_singleton.1 hx]
      split <;> decide
theorem nzC_same {ys : List Int} (h : ys.length = 12) (hl : ys.getD 11 0 = 0 ∨ ys.getD 11 0 = 1) : nzC ys = ys := by
  obtain ⟨x0, x1, x2, x3, x4, x5, x6, x7, x8, x9, x10, x11, rfl⟩ := twelve h
  show [x0, x1, x2, x3, x4, x5, x6, x7, x8, x9, x10, if x11 = 1 then 1 else 0] = _
  rcases (show x11 = 0 ∨ x11 = 1 from hl) with rfl | rfl <;> rfl
theorem cmdC_nz {ys : List Int} (h : ys.length = 12) : cmdC (nzC ys) = cmdC ys := by
  obtain ⟨x0, x1, x2, x3, x4, x5, x6, x7, x8, x9, x10, x11, rfl⟩ := twelve h
  have hq : ((if x11 = 1 then (1 : Int) else 0) == 1) = (x11 == 1) := by
    by_cases h1 : x11 = 1
    · rw [if_pos h1, h1]
    · rw [if_neg h1, beq_eq_false_iff_ne.2 h1]; rfl
  show [Value.int .i64 x0, .int .i64 x1, .int .i64 x2, .int .i64 x3, .int .i64 x4, .int .i64 x5, .int .i64 x6, .int .i64 x7, .int .i64 x8, .int .i64 x9, .int .i64 x10, Value.bool ((if x11 = 1 then (1 : Int) else 0) == 1)] = _
  rw [hq]
  rfl
theorem scan_rest (xs : List Int) : ∀ (i u : Nat), (∀ x ∈ xs, 0 ≤ x ∧ x ≤ 255) → ∀ y ∈ (scan i u xs).1, 0 ≤ y ∧ y ≤ 255 := by
  induction xs with
  | nil => intro i u _ y hy; cases hy
  | cons x xs ih =>
    intro i u h y hy
    have ht : ∀ z ∈ xs, 0 ≤ z ∧ z ≤ 255 := fun z hz => h z (List.mem_cons_of_mem _ hz)
    unfold scan at hy
    split at hy
    · cases hy
    · split at hy
      · exact ih _ _ ht y hy
      · split at hy
        · cases hy
        · exact ht y hy
theorem readN_in : ∀ (k : Nat) (st : CS), st.bytes → (∀ x ∈ (readN k st).2, -9223372036854775808 ≤ x ∧ x ≤ 9223372036854775807)
  | 0, st, _ => by simp [readN]
  | k + 1, st, h => by
    rw [readN_succ]
    split
    · intro x hx
      rcases List.mem_cons.1 hx with rfl | hx
      · exact intF_in h
      · refine readN_in k _ ?_ x hx
        intro y hy
        unfold intF at hy
        by_cases hb : st.bad = 0
        · rw [if_pos hb] at hy
          exact scan_rest _ _ _ h y hy
        · rw [if_neg hb] at hy
          exact h y hy
    · intro x hx; cases hx
theorem ysC_in {bs : List Int} (h : ∀ x ∈ bs, 0 ≤ x ∧ x ≤ 255) : ∀ x ∈ ysC bs, -9223372036854775808 ≤ x ∧ x ≤ 9223372036854775807 := by
  intro x hx
  unfold ysC at hx
  rcases List.mem_append.1 hx with hx | hx
  · exact readN_in 12 ⟨bs, 0⟩ h x hx
  · rw [(List.mem_replicate.1 hx).2]; decide
end Go.Proofs.YtlejicmpefdhpaaDoor
