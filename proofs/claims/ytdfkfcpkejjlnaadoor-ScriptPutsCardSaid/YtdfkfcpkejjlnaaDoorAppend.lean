/- append of bytes to a slice of bytes that the call has made itself; what such a slice holds, as a text. No condition but the lengths' bound. -/
import Derived.Test.YtdfkfcpkejjlnaaDoorTxt
import Derived.Laws.AppendOwnNone
import Derived.OwnWalk
namespace Go.Proofs.YtdfkfcpkejjlnaaDoor
set_option linter.unusedVariables false
open Go.ChangeShapes Go.WideShapes Go.ChangeAt Go.RowKit

theorem info_u8 : (Tryd.prog.info? 5).map (fun i => (i.zero, i.size, i.bytes)) = some (some (.int .u8 0), 1, 1) := by kernel_rfl
/-- numbers as the cells of bytes -/
def cellsOf8 (xs : List Int) : List Value := xs.map (Value.int .u8)
theorem cellsOf8_append (xs ys : List Int) : cellsOf8 (xs ++ ys) = cellsOf8 xs ++ cellsOf8 ys := by simp [cellsOf8]
/-- a slice of bytes of the call's own, from block B on -/
structure OwnTxt (w : World) (B : Nat) (v : Value) (xs : List Int) : Prop where
  own : w.ownsRow B 5 1 v xs.length (cellsOf8 xs)
  lo : ∀ k, k < xs.length → 0 ≤ xs.getD k 0
  hi : ∀ k, k < xs.length → xs.getD k 0 ≤ 255
theorem OwnTxt.len {w : World} {B : Nat} {v : Value} {xs : List Int} (h : OwnTxt w B v xs) : xs.length ≤ 9223372036854775807 := by
  rcases h.own.2 with ⟨_, h0⟩ | ⟨g, cap, cur, _, _, _, h1, h2, _⟩
  · omega
  · unfold maxLen at h2; omega
theorem OwnTxt.at {w : World} {B : Nat} {v : Value} {xs : List Int} (h : OwnTxt w B v xs) : TxtAt w v xs := by
  have hlen := h.len
  by_cases h0 : xs.length = 0
  · have hx : xs = [] := List.eq_nil_of_length_eq_zero h0
    subst hx
    rcases h.own.2 with ⟨rfl, _⟩ | ⟨g, cap, cur, rfl, _⟩
    · exact .inr ⟨rfl, none, 0, rfl, fun _ => rfl⟩
    · exact .inr ⟨rfl, some _, cap, rfl, fun h => by cases h⟩
  · rcases h.own.2 with ⟨_, h1⟩ | ⟨g, cap, cur, rfl, hb, hg, _⟩
    · omega
    · refine .inl ⟨g, 0, cap, rfl, by omega, ⟨fun k hk => ?_, h.lo, h.hi, hlen⟩⟩
      have := h.own.cells (g := g) rfl k (.int .u8 (xs.getD k 0)) (by simp [cellsOf8, hk])
      have hplain : (⟨g, 0, none⟩ : Addr).add k = ⟨g, 0 + k, none⟩ := by unfold Addr.add; split <;> simp_all
      rwa [hplain] at this
theorem OwnTxt.new {w : World} {B : Nat} (hB : B ≤ w.heap.size) : OwnTxt (w.alloc (.cells #[] 5)) B (.slice (some ⟨w.heap.size, 0, none⟩) 0 0) [] :=
  ⟨⟨rfl, .inr ⟨w.heap.size, 0, #[], rfl, hB, by show (w.heap.push _)[w.heap.size]? = _; simp, Nat.le_refl _, Nat.zero_le _, rfl, rfl⟩⟩, fun k hk => by simp at hk, fun k hk => by simp at hk⟩
theorem OwnTxt.nil {w : World} {B : Nat} : OwnTxt w B (.slice none 0 0) [] :=
  ⟨⟨rfl, .inl ⟨rfl, rfl⟩⟩, fun k hk => by simp at hk, fun k hk => by simp at hk⟩
/-- in a world that has grown by another row -/
theorem OwnTxt.below {w w' : World} {B : Nat} {v : Value} {xs : List Int} (h : OwnTxt w B v xs) (hb : Below w.heap.size w w') : OwnTxt w' B v xs := by
  refine ⟨⟨h.own.1, ?_⟩, h.lo, h.hi⟩
  rcases h.own.2 with hn | ⟨g, cap, cur, hv, hB, hg, rest⟩
  · exact .inl hn
  · refine .inr ⟨g, cap, cur, hv, hB, ?_, rest⟩
    have hlt : g < w.heap.size := by
      rcases Nat.lt_or_ge g w.heap.size with h | h
      · exact h
      · rw [Array.getElem?_eq_none h] at hg; cases hg
    rw [hb.block g hlt]; exact hg

section
variable {ops : Array Oper} {rest : List Oper} {o : Oper} {a : Act} {w : World} {Q : Exit → Act → World → Prop}
/-- APPEND of a text: what stands behind it is the call's own, and holds both. -/
theorem wpList_append_txt (hgd : o.guard = none) (s x : Operand)
    (ho : o.op = .call { callee := .builtin .append, args := #[s, x], argTypes := #[40, 40] })
    (B : Nat) (v : Value) (xs : List Int) (hs : a.eval s = v) (hown : OwnTxt w B v xs) (u : Value) (ys : List Int) (hx : a.eval x = u) (ht : TxtAt w u ys)
    (h63 : xs.length + ys.length ≤ 140737488355328) (hB : B ≤ w.heap.size)
    (h' : ∀ (ad : Option Addr) (n c : Nat) (w' : World), OwnTxt w' B (.slice ad n c) (xs ++ ys) → Below B w w' → w.grownBy w' v.ownBlock → wpList Tryd.prog ops Q rest (a.put o.dst (.slice ad n c)) w') : wpList Tryd.prog ops Q (o :: rest) a w := by
  have h : ∀ v' w', OwnTxt w' B v' (xs ++ ys) → Below B w w' → w.grownBy w' v.ownBlock → wpList Tryd.prog ops Q rest (a.put o.dst v') w' := fun v' w' h1 h2 h3 => by
    rcases h1.own.2 with ⟨e, _⟩ | ⟨g, cap, cur, e, _⟩
    · subst e; exact h' none 0 0 w' h1 h2 h3
    · subst e; exact h' _ _ cap w' h1 h2 h3
  obtain ⟨i0, hi, hz0, hz1, hz2⟩ := info_parts info_u8
  have hblk : ∀ k, v.ownBlock = some k → B ≤ k := fun k hk => by
    rcases hown.own.2 with ⟨rfl, _⟩ | ⟨g, cap, cur, rfl, hg, _⟩
    · cases hk
    · simp only [Value.ownBlock, Option.some.injEq] at hk; omega
  have hgd0 : ∀ k, k < ys.length → (xs ++ ys).getD (xs.length + k) 0 = ys.getD k 0 := fun k hk => by simp [List.getD, List.getElem?_append_right]
  rcases ht with ⟨b, off, cap, rfl, h0, hr⟩ | ⟨rfl, ad, cap, rfl, hnil⟩
  · refine wpList_append_own _ hgd s x 40 ho B 5 i0 (.int .u8 0) 1 1 Tryd.underlying40 hi hz0 hz1 hz2 rfl (by decide) v xs.length (cellsOf8 xs) hs hown.own
      ⟨b, off, none⟩ ys.length cap (cellsOf8 ys) hx (by simp [cellsOf8]) (fun j u hj => ?_) (fun u hu => ?_) (by unfold maxLen; omega) (by omega) hB (fun v' w' h1 h2 _ => ?_)
    · have hjl : j < ys.length := by
        rcases Nat.lt_or_ge j ys.length with h | h
        · exact h
        · rw [List.getElem?_eq_none (by simpa [cellsOf8] using h)] at hj; cases hj
      have hplain : (⟨b, off, none⟩ : Addr).add j = ⟨b, off + j, none⟩ := by unfold Addr.add; split <;> simp_all
      rw [hplain, hr.cell j hjl]
      simp [cellsOf8, hjl] at hj
      simp [List.getD, hjl, hj]
    · simp [cellsOf8] at hu
      obtain ⟨n, _, rfl⟩ := hu
      rfl
    · refine h v' w' ⟨by rw [List.length_append, cellsOf8_append]; exact h1, fun k hk => ?_, fun k hk => ?_⟩ (Below.grown (Below.refl _ _) h2 hB hblk) h2
      · rw [List.length_append] at hk
        by_cases hlt : k < xs.length
        · rw [show (xs ++ ys).getD k 0 = xs.getD k 0 by simp [List.getD, List.getElem?_append_left, hlt]]; exact hown.lo k hlt
        · rw [show k = xs.length + (k - xs.length) by omega, hgd0 _ (by omega)]; exact hr.lo _ (by omega)
      · rw [List.length_append] at hk
        by_cases hlt : k < xs.length
        · rw [show (xs ++ ys).getD k 0 = xs.getD k 0 by simp [List.getD, List.getElem?_append_left, hlt]]; exact hown.hi k hlt
        · rw [show k = xs.length + (k - xs.length) by omega, hgd0 _ (by omega)]; exact hr.hi _ (by omega)
  · cases ad with
    | none =>
      obtain rfl := hnil rfl
      exact wpList_append_own_none hgd s x 40 ho B 5 i0 1 Tryd.underlying40 hi v xs.length (cellsOf8 xs) hs hown.own hx (h v w (by rw [List.append_nil]; exact hown) (Below.refl _ _) ⟨rfl, rfl, rfl, Nat.le_refl _, fun _ _ _ => rfl⟩)
    | some ad =>
      refine wpList_append_own _ hgd s x 40 ho B 5 i0 (.int .u8 0) 1 1 Tryd.underlying40 hi hz0 hz1 hz2 rfl (by decide) v xs.length (cellsOf8 xs) hs hown.own
        ad 0 cap [] hx rfl (fun j u hj => by cases hj) (fun u hu => by cases hu) (by unfold maxLen; simp at h63; omega) (by simp at h63; omega) hB (fun v' w' h1 h2 _ => ?_)
      exact h v' w' ⟨by simpa using h1, by simpa using hown.lo, by simpa using hown.hi⟩ (Below.grown (Below.refl _ _) h2 hB hblk) h2
end
end Go.Proofs.YtdfkfcpkejjlnaaDoor
