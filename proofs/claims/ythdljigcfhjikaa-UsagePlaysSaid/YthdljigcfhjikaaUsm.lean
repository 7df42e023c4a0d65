/- Levels (layer 10): another one that is the same: slices.Clone of steps, List, Clone. Condition: the lengths' bound. -/
import Derived.Test.YthdljigcfhjikaaUsj
namespace Go.Proofs.Ythdljigcfhjikaa
set_option linter.unusedVariables false
open Go.ChangeShapes Go.WideShapes Go.ChangeAt Go.RowKit
attribute [local go_sem ↓] Go.wp_at_zero Go.wp_at_succ comesTo_value_eq comesTo_skip_eq comesTo_enter_eq

theorem OwnU.made (w : World) : OwnU (w.alloc (.cells #[] 60)) w.heap.size (.slice (some ⟨w.heap.size, 0, none⟩) 0 0) [] :=
  ⟨rfl, .inr ⟨w.heap.size, 0, #[], rfl, Nat.le_refl _, World.alloc_heap_new w _, Nat.le_refl _, by unfold maxLen; omega, rfl, rfl⟩⟩
section
variable {ops : Array Oper} {rest : List Oper} {o : Oper} {a : Act} {w : World} {Q : Exit → Act → World → Prop}
/-- APPEND of a row of steps -/
theorem wpList_append_steps (hgd : o.guard = none) (s x : Operand)
    (ho : o.op = .call { callee := .builtin .append, args := #[s, x], argTypes := #[55, 55] })
    (B : Nat) (v : Value) (l m : List (Int × Int)) (hs : a.eval s = v) (hown : OwnU w B v l) (g c : Nat) (hx : a.eval x = .slice (some ⟨g, 0, none⟩) m.length c) (hr : URow w g m) (h63 : l.length + m.length ≤ 4398046511104) (hB : B ≤ w.heap.size)
    (h : ∀ (v' : Value) (w' : World), OwnU w' B v' (l ++ m) → w.grownBy w' v.ownBlock → (v'.ownBlock = v.ownBlock ∨ v'.ownBlock = some w.heap.size) → wpList Try.prog ops Q rest (a.put o.dst v') w') : wpList Try.prog ops Q (o :: rest) a w := by
  obtain ⟨i0, hi, hz0, hz1, hz2⟩ := info_parts3 info_step
  refine wpList_append_own_at w hgd s x 55 ho B 60 i0 (.agg #[.int .i64 0, .int .i64 0]) 2 16 Try.underlying55 hi hz0 hz1 hz2 rfl (by decide) v l.length (flatU l) hs hown
      ⟨g, 0, none⟩ m.length c (flatU m) hx (flatU_length m) (fun j u hj => ?_) (fun u hu => flatU_one _ u hu) (by unfold maxLen; omega) (by omega) hB (fun v' w' h1 h2 _ h4 => ?_)
  · have hlt : j < (flatU m).length := by
      rcases Nat.lt_or_ge j (flatU m).length with h | h
      · exact h
      · rw [List.getElem?_eq_none h] at hj; cases hj
    rw [flatU_length] at hlt
    obtain ⟨k, hk⟩ : ∃ k, j = k * 2 ∨ j = k * 2 + 1 := ⟨j / 2, by omega⟩
    have hkl : k < m.length := by omega
    have h1 := flatU_get m k hkl
    have h2 := hr k hkl
    have ha : ∀ i : Nat, (⟨g, 0, none⟩ : Addr).add i = ⟨g, i, none⟩ := fun i => by
      unfold Addr.add
      by_cases h : i = 0
      · simp [h]
      · simp [h]
    rw [ha]
    rcases hk with rfl | rfl
    · rw [h1.1] at hj; rw [← hj]; exact h2.1
    · rw [h1.2] at hj; rw [← hj]; exact h2.2
  · exact h v' w' (by unfold OwnU; rw [List.length_append, flatU_append]; exact h1) h2 h4
end
set_option maxRecDepth 100000 in
set_option maxHeartbeats 1000000 in
theorem clone_row {w : World} {g c : Nat} {L : List (Int × Int)} (hr : URow w g L) (hg : g < w.heap.size) (hp : 0 < L.length) (hl : L.length ≤ 1099511627776) :
    Calls Try.prog 68 #[.slice (some ⟨g, 0, none⟩) L.length c] w fun e w' => ∃ g' c', e = .returned (.slice (some ⟨g', 0, none⟩) L.length c') ∧ w.heap.size ≤ g' ∧ g' < w'.heap.size ∧ L.length ≤ c' ∧ URow w' g' L ∧ Below w.heap.size w w' := by
  have hne : ∀ W, Sem.run Try.prog (binOp .eql 55 (.slice (some ⟨g, 0, none⟩) L.length c) (.slice none 0 0)) W = .ok (.bool false) W := fun W => by kernel_rfl
  go_enter Try.func68, Try.ntmps68
  go_upto_region 3 with fail
  refine wp_region_lit ?_
  refine wpList_yield (w' := w.alloc (.cells #[] 60)) (v := .slice (some ⟨w.heap.size, 0, none⟩) 0 0) rfl (by first | (go_simp; done) | (go_simp; rfl)) ?_
  have hb := below_alloc (Below.refl _ w) (.cells #[] 60)
  have hO := OwnU.made w
  have hr1 := hr.mono (hb.block _ hg)
  have hs1 : w.heap.size < (w.alloc (.cells #[] 60)).heap.size := by simp
  generalize w.alloc (.cells #[] 60) = W1 at *
  refine wpList_yield (w' := W1) (v := .slice (some ⟨g, 0, none⟩) L.length c) rfl (by first | (go_simp; done) | (go_simp; rfl)) ?_
  refine wpList_append_steps rfl _ _ rfl w.heap.size (.slice (some ⟨w.heap.size, 0, none⟩) 0 0) [] L (by go_simp) hO g c (by go_simp) hr1 (by simp; omega) (by omega) ?_
  intro v' W2 ho' hg2 hn
  rw [List.nil_append] at ho'
  obtain ⟨ad, c', rfl, hc', had⟩ := ho'.form
  obtain ⟨g', rfl, h1, h2⟩ := had hp
  have hb2 : Below w.heap.size w W2 := hb.grown hg2 hb.size (fun k e => by have e' : w.heap.size = k := Option.some.inj e; omega)
  have hrow := ho'.row
  go_wp2_with fail
  go_ret
  exact ⟨g', c', rfl, h1, h2, hc', hrow, hb2⟩
set_option maxRecDepth 100000 in
set_option maxHeartbeats 1000000 in
theorem list_any {w : World} {S : Nat} {L : List (Int × Int)} (h : USt w S L) :
    Calls Try.prog 28 #[.pointer (some ⟨S, 0, none⟩)] w fun e w' => ∃ g' c', e = .returned (.slice (some ⟨g', 0, none⟩) L.length c') ∧ w.heap.size ≤ g' ∧ g' < w'.heap.size ∧ L.length ≤ c' ∧ URow w' g' L ∧ Below w.heap.size w w' := by
  obtain ⟨g, c, hg, hS, hc, hs, hr⟩ := h.at_
  have c0 := cell_of_block (o := 0) hS rfl
  have KC := Lib.hid (clone_row (c := c) hr hs h.pos h.len)
  have KT := Lib.hid (there_any h)
  clear h hr hS
  go_enter Try.func28, Try.ntmps28
  go_wp2_with fail
  refine KT.out.mono ?_
  rintro e w' ⟨rfl, rfl⟩
  go_wp2_with fail
  refine KC.out.mono ?_
  rintro e w1 ⟨g', c', rfl, h1, h2, h3, h4, h5⟩
  have HX := Lib.hid (And.intro h4 h5)
  clear h4 h5
  go_wp2_with fail
  go_ret
  exact ⟨g', c', rfl, h1, h2, h3, HX.out.1, HX.out.2⟩
set_option maxRecDepth 100000 in
set_option maxHeartbeats 1000000 in
theorem clone_any {w : World} {S : Nat} {L : List (Int × Int)} (h : USt w S L) :
    Calls Try.prog 23 #[.pointer (some ⟨S, 0, none⟩)] w fun e w' => ∃ S', e = .returned (.pointer (some ⟨S', 0, none⟩)) ∧ w.heap.size ≤ S' ∧ USt w' S' L ∧ Below w.heap.size w w' := by
  obtain ⟨g, c, hg, hS, hc, hs, hr⟩ := h.at_
  have c0 := cell_of_block (o := 0) hS rfl
  have KC := Lib.hid (clone_row (c := c) hr hs h.pos h.len)
  have KT := Lib.hid (there_any h)
  have hpos := h.pos
  have hlen := h.len
  clear h hr hS
  go_enter Try.func23, Try.ntmps23
  go_wp2_with fail
  refine KT.out.mono ?_
  rintro e w' ⟨rfl, rfl⟩
  go_wp2_with fail
  refine KC.out.mono ?_
  rintro e w1 ⟨g', c', rfl, h1, h2, h3, h4, h5⟩
  have hb := below_alloc (Below.refl _ w1) (.cells #[.slice (some ⟨g', 0, none⟩) L.length c'] 63)
  have hn := World.alloc_heap_new w1 (.cells #[.slice (some ⟨g', 0, none⟩) L.length c'] 63)
  have HX := Lib.hid (show USt (w1.alloc (.cells #[.slice (some ⟨g', 0, none⟩) L.length c'] 63)) w1.heap.size L from ⟨⟨g', c', by omega, hn, h3, by simp; omega, h4.mono (hb.block _ h2)⟩, hpos, hlen⟩)
  have HB := Lib.hid (below_next h5 hb)
  have hsz := h5.size
  clear h4 h5 hb hn
  go_wp2_with fail
  go_ret
  exact ⟨w1.heap.size, rfl, hsz, HX.out, HB.out⟩
end Go.Proofs.Ythdljigcfhjikaa
