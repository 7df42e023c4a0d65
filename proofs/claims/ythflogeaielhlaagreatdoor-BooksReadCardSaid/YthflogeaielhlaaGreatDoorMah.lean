/- Laws that belong together: append of bytes to a slice of bytes that the call has made itself; what such a slice holds, as a text. No condition but the lengths' bound.; append of bytes to a row of one's own, told where what comes of it lies: in the same block, or in a new one. No condition but the lengths' bound. -/
import Derived.Test.YthflogeaielhlaaGreatDoorTxt
import Derived.Laws.AppendOwnNone
import Derived.OwnWalk
import Derived.ArgAppend
namespace Go.Proofs.YthflogeaielhlaaGreatDoor
set_option linter.unusedVariables false
open Go.ChangeShapes Go.WideShapes Go.ChangeAt Go.RowKit

theorem info_u8 : (Tryz.prog.info? 5).map (fun i => (i.zero, i.size, i.bytes)) = some (some (.int .u8 0), 1, 1) := by kernel_rfl
/-- numbers as the cells of bytes -/
def cellsOf8 (xs : List Int) : List Value := xs.map (Value.int .u8)
theorem cellsOf8_append (xs ys : List Int) : cellsOf8 (xs ++ ys) = cellsOf8 xs ++ cellsOf8 ys := by simp [cellsOf8]
/-- a slice of bytes of the call's own, from block B on -/
structure OwnTxt (w : World) (B : Nat) (v : Value) (xs : List Int) : Prop where
  own : w.ownsRow B 5 1 v xs.length (cellsOf8 xs)
  lo : ∀ k, k < xs.length → 0 ≤ xs.getD k 0
  hi : ∀ k, k < xs.length → xs.getD k 0 ≤ 255
theorem OwnTxt.len {w : World} {B : Nat} {v : Value} {xs : List Int} (h : OwnTxt w B v xs) : xs.length ≤ 9223372036854775807 := by
  rcases h.own.2 with ⟨_, h0⟩ | ⟨g, cap, cur, _, _, _, h1, h2, _⟩
  · omega
  · unfold maxLen at h2; omega
theorem OwnTxt.at {w : World} {B : Nat} {v : Value} {xs : List Int} (h : OwnTxt w B v xs) : TxtAt w v xs := by
  have hlen := h.len
  by_cases h0 : xs.length = 0
  · have hx : xs = [] := List.eq_nil_of_length_eq_zero h0
    subst hx
    rcases h.own.2 with ⟨rfl, _⟩ | ⟨g, cap, cur, rfl, _⟩
    · exact .inr ⟨rfl, none, 0, rfl, fun _ => rfl⟩
    · exact .inr ⟨rfl, some _, cap, rfl, fun h => by cases h⟩
  · rcases h.own.2 with ⟨_, h1⟩ | ⟨g, cap, cur, rfl, hb, hg, _⟩
    · omega
    · refine .inl ⟨g, 0, cap, rfl, by omega, ⟨fun k hk => ?_, h.lo, h.hi, hlen⟩⟩
      have := h.own.cells (g := g) rfl k (.int .u8 (xs.getD k 0)) (by simp [cellsOf8, hk])
      have hplain : (⟨g, 0, none⟩ : Addr).add k = ⟨g, 0 + k, none⟩ := by unfold Addr.add; split <;> simp_all
      rwa [hplain] at this
theorem OwnTxt.new {w : World} {B : Nat} (hB : B ≤ w.heap.size) : OwnTxt (w.alloc (.cells #[] 5)) B (.slice (some ⟨w.heap.size, 0, none⟩) 0 0) [] :=
  ⟨⟨rfl, .inr ⟨w.heap.size, 0, #[], rfl, hB, by show (w.heap.push _)[w.heap.size]? = _; simp, Nat.le_refl _, Nat.zero_le _, rfl, rfl⟩⟩, fun k hk => by simp at hk, fun k hk => by simp at hk⟩
theorem OwnTxt.nil {w : World} {B : Nat} : OwnTxt w B (.slice none 0 0) [] :=
  ⟨⟨rfl, .inl ⟨rfl, rfl⟩⟩, fun k hk => by simp at hk, fun k hk => by simp at hk⟩
/-- in a world that has grown by another row -/
theorem OwnTxt.below {w w' : World} {B : Nat} {v : Value} {xs : List Int} (h : OwnTxt w B v xs) (hb : Below w.heap.size w w') : OwnTxt w' B v xs := by
  refine ⟨⟨h.own.1, ?_⟩, h.lo, h.hi⟩
  rcases h.own.2 with hn | ⟨g, cap, cur, hv, hB, hg, rest⟩
  · exact .inl hn
  · refine .inr ⟨g, cap, cur, hv, hB, ?_, rest⟩
    have hlt : g < w.heap.size := by
      rcases Nat.lt_or_ge g w.heap.size with h | h
      · exact h
      · rw [Array.getElem?_eq_none h] at hg; cases hg
    rw [hb.block g hlt]; exact hg

section
variable {ops : Array Oper} {rest : List Oper} {o : Oper} {a : Act} {w : World} {Q : Exit → Act → World → Prop}
/-- APPEND of a text: what stands behind it is the call's own, and holds both. -/
theorem wpList_append_txt (hgd : o.guard = none) (s x : Operand)
    (ho : o.op = .call { callee := .builtin .append, args := #[s, x], argTypes := #[22, 22] })
    (B : Nat) (v : Value) (xs : List Int) (hs : a.eval s = v) (hown : OwnTxt w B v xs) (u : Value) (ys : List Int) (hx : a.eval x = u) (ht : TxtAt w u ys)
    (h63 : xs.length + ys.length ≤ 140737488355328) (hB : B ≤ w.heap.size)
    (h' : ∀ (ad : Option Addr) (n c : Nat) (w' : World), OwnTxt w' B (.slice ad n c) (xs ++ ys) → Below B w w' → w.grownBy w' v.ownBlock → wpList Tryz.prog ops Q rest (a.put o.dst (.slice ad n c)) w') : wpList Tryz.prog ops Q (o :: rest) a w := by
  have h : ∀ v' w', OwnTxt w' B v' (xs ++ ys) → Below B w w' → w.grownBy w' v.ownBlock → wpList Tryz.prog ops Q rest (a.put o.dst v') w' := fun v' w' h1 h2 h3 => by
    rcases h1.own.2 with ⟨e, _⟩ | ⟨g, cap, cur, e, _⟩
    · subst e; exact h' none 0 0 w' h1 h2 h3
    · subst e; exact h' _ _ cap w' h1 h2 h3
  obtain ⟨i0, hi, hz0, hz1, hz2⟩ := info_parts info_u8
  have hblk : ∀ k, v.ownBlock = some k → B ≤ k := fun k hk => by
    rcases hown.own.2 with ⟨rfl, _⟩ | ⟨g, cap, cur, rfl, hg, _⟩
    · cases hk
    · simp only [Value.ownBlock, Option.some.injEq] at hk; omega
  have hgd0 : ∀ k, k < ys.length → (xs ++ ys).getD (xs.length + k) 0 = ys.getD k 0 := fun k hk => by simp [List.getD, List.getElem?_append_right]
  rcases ht with ⟨b, off, cap, rfl, h0, hr⟩ | ⟨rfl, ad, cap, rfl, hnil⟩
  · refine wpList_append_own _ hgd s x 22 ho B 5 i0 (.int .u8 0) 1 1 Tryz.underlying22 hi hz0 hz1 hz2 rfl (by decide) v xs.length (cellsOf8 xs) hs hown.own
      ⟨b, off, none⟩ ys.length cap (cellsOf8 ys) hx (by simp [cellsOf8]) (fun j u hj => ?_) (fun u hu => ?_) (by unfold maxLen; omega) (by omega) hB (fun v' w' h1 h2 _ => ?_)
    · have hjl : j < ys.length := by
        rcases Nat.lt_or_ge j ys.length with h | h
        · exact h
        · rw [List.getElem?_eq_none (by simpa [cellsOf8] using h)] at hj; cases hj
      have hplain : (⟨b, off, none⟩ : Addr).add j = ⟨b, off + j, none⟩ := by unfold Addr.add; split <;> simp_all
      rw [hplain, hr.cell j hjl]
      simp [cellsOf8, hjl] at hj
      simp [List.getD, hjl, hj]
    · simp [cellsOf8] at hu
      obtain ⟨n, _, rfl⟩ := hu
      rfl
    · refine h v' w' ⟨by rw [List.length_append, cellsOf8_append]; exact h1, fun k hk => ?_, fun k hk => ?_⟩ (Below.grown (Below.refl _ _) h2 hB hblk) h2
      · rw [List.length_append] at hk
        by_cases hlt : k < xs.length
        · rw [show (xs ++ ys).getD k 0 = xs.getD k 0 by simp [List.getD, List.getElem?_append_left, hlt]]; exact hown.lo k hlt
        · rw [show k = xs.length + (k - xs.length) by omega, hgd0 _ (by omega)]; exact hr.lo _ (by omega)
      · rw [List.length_append] at hk
        by_cases hlt : k < xs.length
        · rw [show (xs ++ ys).getD k 0 = xs.getD k 0 by simp [List.getD, List.getElem?_append_left, hlt]]; exact hown.hi k hlt
        · rw [show k = xs.length + (k - xs.length) by omega, hgd0 _ (by omega)]; exact hr.hi _ (by omega)
  · cases ad with
    | none =>
      obtain rfl := hnil rfl
      exact wpList_append_own_none hgd s x 22 ho B 5 i0 1 Tryz.underlying22 hi v xs.length (cellsOf8 xs) hs hown.own hx (h v w (by rw [List.append_nil]; exact hown) (Below.refl _ _) ⟨rfl, rfl, rfl, Nat.le_refl _, fun _ _ _ => rfl⟩)
    | some ad =>
      refine wpList_append_own _ hgd s x 22 ho B 5 i0 (.int .u8 0) 1 1 Tryz.underlying22 hi hz0 hz1 hz2 rfl (by decide) v xs.length (cellsOf8 xs) hs hown.own
        ad 0 cap [] hx rfl (fun j u hj => by cases hj) (fun u hu => by cases hu) (by unfold maxLen; simp at h63; omega) (by simp at h63; omega) hB (fun v' w' h1 h2 _ => ?_)
      exact h v' w' ⟨by simpa using h1, by simpa using hown.lo, by simpa using hown.hi⟩ (Below.grown (Below.refl _ _) h2 hB hblk) h2
end
end Go.Proofs.YthflogeaielhlaaGreatDoor
namespace Go.Proofs.YthflogeaielhlaaGreatDoor
set_option linter.unusedVariables false
open Go.ChangeShapes Go.WideShapes Go.ChangeAt Go.RowKit

/-- the numbers of two rows, one behind the other, are bytes -/
theorem bytes_both {xs ys : List Int} (hx : ∀ k, k < xs.length → 0 ≤ xs.getD k 0) (hx2 : ∀ k, k < xs.length → xs.getD k 0 ≤ 255) (hy : ∀ k, k < ys.length → 0 ≤ ys.getD k 0) (hy2 : ∀ k, k < ys.length → ys.getD k 0 ≤ 255) :
    (∀ k, k < (xs ++ ys).length → 0 ≤ (xs ++ ys).getD k 0) ∧ (∀ k, k < (xs ++ ys).length → (xs ++ ys).getD k 0 ≤ 255) := by
  refine ⟨fun k hk => ?_, fun k hk => ?_⟩
  all_goals
    rw [List.length_append] at hk
    by_cases hlt : k < xs.length
    · rw [show (xs ++ ys).getD k 0 = xs.getD k 0 by simp [List.getD, List.getElem?_append_left, hlt]]
      first | exact hx k hlt | exact hx2 k hlt
    · rw [show (xs ++ ys).getD k 0 = ys.getD (k - xs.length) 0 by simp [List.getD, List.getElem?_append_right (Nat.le_of_not_lt hlt)]]
      first | exact hy _ (by omega) | exact hy2 _ (by omega)
theorem TxtAt.bytes {w : World} {v : Value} {zs : List Int} (h : TxtAt w v zs) : (∀ k, k < zs.length → 0 ≤ zs.getD k 0) ∧ (∀ k, k < zs.length → zs.getD k 0 ≤ 255) := by
  rcases h with ⟨_, _, _, _, _, hr⟩ | ⟨rfl, _⟩
  · exact ⟨hr.lo, hr.hi⟩
  · exact ⟨fun k hk => by simp at hk, fun k hk => by simp at hk⟩
theorem OwnTxt.form'' {w : World} {B : Nat} {v : Value} {xs : List Int} (h : OwnTxt w B v xs) : (v = .slice none 0 0 ∧ xs = []) ∨ ∃ g c, v = .slice (some ⟨g, 0, none⟩) xs.length c ∧ xs.length ≤ c := by
  rcases h.own.2 with ⟨rfl, h0⟩ | ⟨g, cap, cur, rfl, _, _, h1, h2, _⟩
  · exact .inl ⟨rfl, List.eq_nil_of_length_eq_zero h0⟩
  · exact .inr ⟨g, cap, rfl, h1⟩
theorem OwnTxt.form' {w : World} {B : Nat} {v : Value} {xs : List Int} (h : OwnTxt w B v xs) : (v = .slice none 0 0 ∧ xs = []) ∨ ∃ g c, v = .slice (some ⟨g, 0, none⟩) xs.length c := by
  rcases h.form'' with h | ⟨g, c, h, _⟩
  · exact .inl h
  · exact .inr ⟨g, c, h⟩
theorem OwnTxt.base' {w : World} {B B' : Nat} {v : Value} {xs : List Int} (h : OwnTxt w B v xs) (hB : B' ≤ B) : OwnTxt w B' v xs := by
  refine ⟨⟨h.own.1, ?_⟩, h.lo, h.hi⟩
  rcases h.own.2 with hn | ⟨g, cap, cur, rfl, hB, hg, rest⟩
  · exact .inl hn
  · exact .inr ⟨g, cap, cur, rfl, by omega, hg, rest⟩
theorem OwnTxt.blockGe' {w : World} {B : Nat} {v : Value} {xs : List Int} (h : OwnTxt w B v xs) {g : Nat} (hg : v.ownBlock = some g) : B ≤ g := by
  rcases h.own.2 with ⟨rfl, _⟩ | ⟨g', cap, cur, rfl, hB, _⟩
  · cases hg
  · simp only [Value.ownBlock, Option.some.injEq] at hg; omega
section
variable {ops : Array Oper} {rest : List Oper} {o : Oper} {a : Act} {w : World} {Q : Exit → Act → World → Prop}
theorem wpList_append_txt2 (hgd : o.guard = none) (s x : Operand)
    (ho : o.op = .call { callee := .builtin .append, args := #[s, x], argTypes := #[22, 22] })
    (B : Nat) (v : Value) (xs : List Int) (hs : a.eval s = v) (hown : OwnTxt w B v xs) (u : Value) (ys : List Int) (hx : a.eval x = u) (ht : TxtAt w u ys)
    (h63 : xs.length + ys.length ≤ 140737488355328) (hB : B ≤ w.heap.size)
    (h' : ∀ (ad : Option Addr) (n c : Nat) (w' : World), OwnTxt w' B (.slice ad n c) (xs ++ ys) → w.grownBy w' v.ownBlock → (∀ g, (Value.slice ad n c).ownBlock = some g → v.ownBlock = some g ∨ w.heap.size ≤ g) → wpList Tryz.prog ops Q rest (a.put o.dst (.slice ad n c)) w') : wpList Tryz.prog ops Q (o :: rest) a w := by
  obtain ⟨i0, hi, hz0, hz1, hz2⟩ := info_parts info_u8
  have hbb := bytes_both hown.lo hown.hi ht.bytes.1 ht.bytes.2
  have hlen : (cellsOf8 (xs ++ ys)).length = (xs ++ ys).length := by simp [cellsOf8]
  have hc8 : ∀ b off, BytesRow w b off ys → ∀ (j : Nat) (u : Value), (cellsOf8 ys)[j]? = some u → w.cell? ((⟨b, off, none⟩ : Addr).add j) = some u := fun b off hr j u hj => by
    have hjl : j < ys.length := by
      rcases Nat.lt_or_ge j ys.length with h | h
      · exact h
      · rw [List.getElem?_eq_none (by simpa [cellsOf8] using h)] at hj; cases hj
    have hplain : (⟨b, off, none⟩ : Addr).add j = ⟨b, off + j, none⟩ := by unfold Addr.add; split <;> simp_all
    rw [hplain, hr.cell j hjl]
    simp [cellsOf8, hjl] at hj
    simp [List.getD, hjl, hj]
  have h1c : ∀ u ∈ cellsOf8 ys, u.oneCell' = true := fun u hu => by
    simp [cellsOf8] at hu
    obtain ⟨n, _, rfl⟩ := hu
    rfl
  have same : ys = [] → wpList Tryz.prog ops Q rest (a.put o.dst v) w := fun hy => by
    subst hy
    rcases hown.form' with ⟨rfl, rfl⟩ | ⟨g, c, rfl⟩
    · exact h' none 0 0 w hown (World.grownBy.refl _ _) (fun g hg => by cases hg)
    · exact h' _ _ _ w (by rw [List.append_nil]; exact hown) (World.grownBy.refl _ _) (fun g hg => .inl hg)
  have fresh : ∀ v' w', w'.ownsRow w.heap.size 5 1 v' (xs.length + ys.length) (cellsOf8 xs ++ cellsOf8 ys) → w.grownBy w' none → wpList Tryz.prog ops Q rest (a.put o.dst v') w' := fun v' w' h1 h2 => by
    have ho : OwnTxt w' w.heap.size v' (xs ++ ys) := ⟨by rw [List.length_append, cellsOf8_append]; exact h1, hbb.1, hbb.2⟩
    have hg : w.grownBy w' v.ownBlock := ⟨h2.os, h2.tape, h2.output, h2.size, fun k hk _ => h2.block k hk (by simp)⟩
    rcases ho.form' with ⟨rfl, _⟩ | ⟨g, c, rfl⟩
    · exact h' none 0 0 w' (ho.base' hB) hg (fun g hg => by cases hg)
    · exact h' _ _ _ w' (ho.base' hB) hg (fun g' hg' => .inr (ho.blockGe' hg'))
  rcases hown.form'' with ⟨rfl, rfl⟩ | ⟨g, c, rfl, hcap⟩
  · -- nothing yet
    rcases ht with ⟨b, off, cap, rfl, h0, hr⟩ | ⟨rfl, ad, cap, rfl, hnil⟩
    · exact wpList_append_own _ hgd s x 22 ho w.heap.size 5 i0 (.int .u8 0) 1 1 Tryz.underlying22 hi hz0 hz1 hz2 rfl (by decide) (.slice none 0 0) 0 [] hs (World.ownsRow_nil _ _ _ _)
        ⟨b, off, none⟩ ys.length cap (cellsOf8 ys) hx (by simp [cellsOf8]) (hc8 b off hr) h1c (by unfold maxLen; omega) (by simpa using h63) (Nat.le_refl _)
        (fun v' w' h1 h2 _ => fresh v' w' (by simpa [cellsOf8] using h1) h2)
    · cases ad with
      | none =>
        obtain rfl := hnil rfl
        exact wpList_append_own_none hgd s x 22 ho B 5 i0 1 Tryz.underlying22 hi (.slice none 0 0) 0 [] hs (World.ownsRow_nil _ _ _ _) hx (same rfl)
      | some ad =>
        exact wpList_append_own _ hgd s x 22 ho w.heap.size 5 i0 (.int .u8 0) 1 1 Tryz.underlying22 hi hz0 hz1 hz2 rfl (by decide) (.slice none 0 0) 0 [] hs (World.ownsRow_nil _ _ _ _)
          ad 0 cap [] hx rfl (fun j u hj => by cases hj) (fun u hu => by cases hu) (by unfold maxLen; omega) (by omega) (Nat.le_refl _)
          (fun v' w' h1 h2 _ => fresh v' w' (by simpa [cellsOf8] using h1) h2)
  · rcases ht with ⟨b, off, cap, rfl, h0, hr⟩ | ⟨rfl, ad, cap, rfl, hnil⟩
    · by_cases hroom : xs.length + ys.length ≤ c
      · exact wpList_append_fits w hgd s x 22 ho B 5 i0 1 Tryz.underlying22 hi hz1 g xs.length c (cellsOf8 xs) hs hown.own ⟨b, off, none⟩ ys.length cap (cellsOf8 ys) hx (by simp [cellsOf8]) (hc8 b off hr) h1c hroom
          (fun w' h1 h2 => h' _ _ _ w' ⟨by rw [List.length_append, cellsOf8_append]; exact h1, hbb.1, hbb.2⟩ h2 (fun g' hg' => .inl hg'))
      · exact wpList_append_grows w hgd s x 22 ho 5 i0 (.int .u8 0) 1 1 Tryz.underlying22 hi hz0 hz1 hz2 rfl (by decide) (some ⟨g, 0, none⟩) xs.length c (cellsOf8 xs) hs (fun h => by cases h) (by simp [cellsOf8])
          (fun b' hb' j u hj => by cases hb'; exact hown.own.cells (g := g) rfl j u hj)
          ⟨b, off, none⟩ ys.length cap (cellsOf8 ys) hx (by simp [cellsOf8]) (hc8 b off hr) h1c (by omega) (by unfold maxLen; omega) (by omega) fresh
    · cases ad with
      | none =>
        obtain rfl := hnil rfl
        exact wpList_append_own_none hgd s x 22 ho B 5 i0 1 Tryz.underlying22 hi _ xs.length (cellsOf8 xs) hs hown.own hx (same rfl)
      | some ad =>
        exact wpList_append_fits w hgd s x 22 ho B 5 i0 1 Tryz.underlying22 hi hz1 g xs.length c (cellsOf8 xs) hs hown.own ad 0 cap [] hx rfl (fun j u hj => by cases hj) (fun u hu => by cases hu) (by simpa using hcap)
          (fun w' h1 h2 => h' _ _ _ w' (by rw [List.append_nil]; exact ⟨by simpa using h1, hown.lo, hown.hi⟩) h2 (fun g' hg' => .inl hg'))
end
end Go.Proofs.YthflogeaielhlaaGreatDoor
