/- The sorted users of books (layer 14). No condition. -/
import Derived.Test.YtmpknjlfabpipaaBkE
import Derived.Test.YtmpknjlfabpipaaShelfK
namespace Go.Proofs.Ytmpknjlfabpipaa
set_option linter.unusedVariables false
open Go.ChangeShapes Go.WideShapes Go.ChangeAt Go.RowKit Go.Maps Go.Sort Go.Shelf Bk

theorem Try.sortsB (m : Nat) : AnyZI.SortsIn Try.prog Try.sortedB_ren Fence.wide m :=
  ⟨fun blk off cap ss W hH hblk hsz => callsIn_wide.2 (AnyM.slices_Sort_int Try.sortB blk off cap ss W hH hblk hsz),
   fun p cap W => callsIn_wide.2 (AnyM.slices_Sort_int_none Try.sortB p cap W)⟩
theorem keys_c (mb : Option Nat) (W : World) : Calls Try.prog 34 #[.map mb] W fun e w' => e = .returned (.func (.func 46) #[] #[.pointer (some ⟨W.heap.size, 0, none⟩)]) ∧ w' = W.alloc (.cells #[.map mb] 26) :=
  (callsIn_wide (n := 5)).1 (AnyZI.keys_in Try.keysB Fence.wide 5 trivial rfl mb W)
theorem keys_eq (L : List LV) : intKeys (bD L) = L.map usr := by
  unfold intKeys bD
  induction L with
  | nil => rfl
  | cons y L ih => simp only [List.map_cons] at ih ⊢; rw [ih]; rfl
theorem perm_le_eq : ∀ {l m : List Int}, l.Perm m → l.Pairwise (· ≤ ·) → m.Pairwise (· ≤ ·) → l = m
  | [], m, h, _, _ => by rw [List.Perm.nil_eq h]
  | x :: l, [], h, _, _ => by have := h.length_eq; simp at this
  | x :: l, y :: m, h, h1, h2 => by
    have a1 := List.pairwise_cons.1 h1
    have a2 := List.pairwise_cons.1 h2
    have e : x = y := by
      have hx : x ∈ y :: m := h.mem_iff.1 List.mem_cons_self
      have hy : y ∈ x :: l := h.mem_iff.2 List.mem_cons_self
      rcases List.mem_cons.1 hx with rfl | hx
      · rfl
      · rcases List.mem_cons.1 hy with rfl | hy
        · rfl
        · have := a1.1 y hy; have := a2.1 x hx; omega
    subst e
    rw [perm_le_eq (List.Perm.cons_inv h) a1.2 a2.2]
theorem sorted_c {w : World} {b m : Nat} {h : Int} {L : List LV} (H : BkAt w b m h L) :
    Calls Try.prog 33 #[.func (.func 46) #[] #[.pointer (some ⟨w.heap.size, 0, none⟩)]] (w.alloc (.cells #[.map (some m)] 26)) fun e w' => ∃ v, e = .returned v ∧ w'.ownsRow w.heap.size 3 1 v L.length ((L.map usr).map (Value.int .i64)) ∧ Below w.heap.size w w' := by
  have hown := H.own
  have hbl := hown.lt
  have hl := H.good.len
  have hsize : Maps.size (bD L) = L.length := by unfold bD Maps.size; simp
  have hseq : SeqGives Fence.wide 2 Try.prog 46 #[.pointer (some ⟨w.heap.size, 0, none⟩)] encZ (fun ss => ss.Perm (intKeys (bD L))) (Maps.size (bD L)) (w.alloc (.cells #[.map (some m)] 26)) :=
    AnyZI.keys_gives (ρ := Try.keysB_ren) { Try.keysB with } Fence.wide _ trivial rfl (by omega) w.heap.size m L.length (bD L) _ (by simp) (by simp) (hown.alloc _)
  have cS := AnyZI.sorted_in Try.sortedB Fence.wide 5 trivial trivial trivial trivial rfl (by omega) (Try.sortsB _) (enters_of Try.func45 (by kernel_rfl) rfl) 46 #[.pointer (some ⟨w.heap.size, 0, none⟩)] trivial (enters_of Try.func46 (by kernel_rfl) rfl) _ _ (by rw [hsize]; unfold maxLen; omega) (by rw [hsize]; omega) _ hseq
  change CallsIn _ _ Try.prog 33 _ _ _ at cS
  refine Calls.mono ((callsIn_wide (n := _)).1 cS) ?_
  rintro e w' ⟨v, ss, rfl, hS, hrow, hnil, hb⟩
  have hp : ss.mergeSort (fun x y => decide (x ≤ y)) = L.map usr := by
    refine perm_le_eq ((List.mergeSort_perm ss _).trans (hS.trans (by rw [keys_eq]))) ?_ ?_
    · have := List.pairwise_mergeSort (le := fun x y : Int => decide (x ≤ y)) (by intro a b c h1 h2; simp at *; omega) (by intro a b; simp; omega) ss
      exact this.imp (by intro a b h; simpa using h)
    · rw [List.pairwise_map]; exact H.good.up.imp (by intro a b h; omega)
  rw [hp] at hrow
  have hsl : ss.length = L.length := by rw [hS.length_eq, keys_eq, List.length_map]
  rw [hsl] at hrow
  exact ⟨v, rfl, ownsRow_base_a hrow (by simp), ((Below.refl _ w).alloc (Nat.le_refl _) _).trans (hb.mono (by simp))⟩
end Go.Proofs.Ytmpknjlfabpipaa
