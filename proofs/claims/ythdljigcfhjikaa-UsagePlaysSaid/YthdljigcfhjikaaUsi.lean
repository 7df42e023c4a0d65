/- Levels (layer 10): Flat, Add, Set. Condition: the lengths' bounds, and that some step comes of it. -/
import Derived.Test.YthdljigcfhjikaaUsh
namespace Go.Proofs.Ythdljigcfhjikaa
set_option linter.unusedVariables false
open Go.ChangeShapes Go.WideShapes Go.ChangeAt Go.RowKit
attribute [local go_sem ↓] Go.wp_at_zero Go.wp_at_succ comesTo_value_eq comesTo_skip_eq comesTo_enter_eq

/-- by how much a level may change at most -/
def byU (n : Int) : Int := if n < -2000000 then -2000000 else if 2000000 < n then 2000000 else n
def addF (by_ : Int) (a : Int) : Int := boundU (IntKind.i64.wrap (a + by_))
theorem add1_any {W : World} {b : Nat} {n : Int} (hc : W.cell? ⟨b, 0, none⟩ = some (.int .i64 n)) (a : Int) : Calls Try.prog 66 #[.int .i64 a, .pointer (some ⟨b, 0, none⟩)] W fun e w' => e = .returned (.int .i64 (addF n a)) ∧ W = w' := by
  have KB := Lib.hid (bound_any (IntKind.i64.wrap (a + n)) W)
  have E := Lib.hid (show addF n a = boundU (IntKind.i64.wrap (a + n)) from rfl)
  generalize hx : IntKind.i64.wrap (a + n) = x at *
  go_enter Try.func66, Try.ntmps66
  go_wp2_with (go_at_call 67; ((with_reducible refine KB.out.mono ?_)); rintro e w' ⟨rfl, rfl⟩)
  go_ret
  exact ⟨by rw [E.out]; rfl, rfl⟩
theorem set1_any {W : World} {b : Nat} {n : Int} (hc : W.cell? ⟨b, 0, none⟩ = some (.int .i64 n)) (a : Int) : Calls Try.prog 71 #[.int .i64 a, .pointer (some ⟨b, 0, none⟩)] W fun e w' => e = .returned (.int .i64 (boundU n)) ∧ W = w' := by
  have KB := Lib.hid (bound_any n W)
  go_enter Try.func71, Try.ntmps71
  go_wp2_with (go_at_call 67; ((with_reducible refine KB.out.mono ?_)); rintro e w' ⟨rfl, rfl⟩)
  go_ret
  exact ⟨rfl, rfl⟩
theorem Fr.after {F : Nat → Prop} {w W w' : World} (hb : Below w.heap.size w W) (h : Fr F W w') : Fr F w w' := Fr.trans (Fr.of_below hb) h fun j hj => .inl hj
set_option maxHeartbeats 1000000 in
theorem set_any {w : World} {S : Nat} {L : List (Int × Int)} (h : USt w S L) (f t n : Int) (hlen' : (changeU (fun _ => boundU n) L (f, t)).length ≤ 1099511627776) (hpos : 0 < (changeU (fun _ => boundU n) L (f, t)).length) :
    Calls Try.prog 30 #[.pointer (some ⟨S, 0, none⟩), .agg #[.int .i64 f, .int .i64 t], .int .i64 n] w fun e w' => e = .returned (.int .i64 0) ∧ USt w' S (changeU (fun _ => boundU n) L (f, t)) ∧ FrU S w w' := by
  have HB := below_alloc (below_alloc (Below.refl _ w) (.cells #[.int .i64 f, .int .i64 t] 25)) (.cells #[.int .i64 n] 3)
  have n2 := World.alloc_heap_new (w.alloc (.cells #[.int .i64 f, .int .i64 t] 25)) (.cells #[.int .i64 n] 3)
  rw [show (w.alloc (.cells #[.int .i64 f, .int .i64 t] 25)).heap.size = w.heap.size + 1 by simp] at n2
  have n1 := ((below_alloc (Below.refl _ (w.alloc (.cells #[.int .i64 f, .int .i64 t] 25))) (.cells #[.int .i64 n] 3)).block w.heap.size (by simp)).trans (World.alloc_heap_new w (.cells #[.int .i64 f, .int .i64 t] 25))
  have H := h.below HB
  clear h
  go_enter Try.func30, Try.ntmps30
  go_upto_region 1 with fail
  generalize (w.alloc (.cells #[.int .i64 f, .int .i64 t] 25)).alloc (.cells #[.int .i64 n] 3) = W at *
  have s0 := cell_of_block (o := 0) n1 rfl
  have s1 := cell_of_block (o := 1) n1 rfl
  have hlt := (Array.getElem?_eq_some_iff.1 n2).1
  have K := Lib.hid (change_any H f t 71 #[.pointer (some ⟨w.heap.size + 1, 0, none⟩)] (fun _ => boundU n) (enters_of Try.func71 (by kernel_rfl) rfl)
    (fun a W' hb => set1_any (cell_of_block (o := 0) ((hb.block _ hlt).trans n2) rfl) a) hlen' hpos)
  clear n1 n2 H hlt
  go_wp2_with fail
  refine K.out.mono ?_
  rintro e w' ⟨rfl, hu, hf⟩
  have HX := Lib.hid (And.intro hu hf)
  clear hu hf
  go_wp2_with fail
  go_ret
  exact ⟨rfl, HX.out.1, FrU.after HB HX.out.2⟩
set_option maxHeartbeats 1000000 in
theorem add_u {w : World} {S : Nat} {L : List (Int × Int)} (h : USt w S L) (f t n : Int) (hlen' : (changeU (addF (byU n)) L (f, t)).length ≤ 1099511627776) (hpos : 0 < (changeU (addF (byU n)) L (f, t)).length) :
    Calls Try.prog 22 #[.pointer (some ⟨S, 0, none⟩), .agg #[.int .i64 f, .int .i64 t], .int .i64 n] w fun e w' => e = .returned (.int .i64 0) ∧ USt w' S (changeU (addF (byU n)) L (f, t)) ∧ FrU S w w' := by
  have HB := below_alloc (below_alloc (Below.refl _ w) (.cells #[.int .i64 f, .int .i64 t] 25)) (.cells #[.int .i64 n] 3)
  have n2 := World.alloc_heap_new (w.alloc (.cells #[.int .i64 f, .int .i64 t] 25)) (.cells #[.int .i64 n] 3)
  rw [show (w.alloc (.cells #[.int .i64 f, .int .i64 t] 25)).heap.size = w.heap.size + 1 by simp] at n2
  have n1 := ((below_alloc (Below.refl _ (w.alloc (.cells #[.int .i64 f, .int .i64 t] 25))) (.cells #[.int .i64 n] 3)).block w.heap.size (by simp)).trans (World.alloc_heap_new w (.cells #[.int .i64 f, .int .i64 t] 25))
  have hm : (n < -2000000 ∧ byU n = -2000000) ∨ (-2000000 ≤ n ∧ 2000000 < n ∧ byU n = 2000000) ∨ (-2000000 ≤ n ∧ n ≤ 2000000 ∧ byU n = n) := by
    unfold byU
    by_cases h1 : n < -2000000
    · exact .inl ⟨h1, if_pos h1⟩
    · by_cases h2 : 2000000 < n
      · exact .inr (.inl ⟨by omega, h2, by rw [if_neg h1, if_pos h2]⟩)
      · exact .inr (.inr ⟨by omega, by omega, by rw [if_neg h1, if_neg h2]⟩)
  obtain ⟨m, hmm⟩ : ∃ m, m = byU n := ⟨_, rfl⟩
  rw [← hmm] at hm hlen' hpos ⊢
  clear hmm
  have H0 := Lib.hid h
  clear h
  go_enter Try.func22, Try.ntmps22
  go_upto_region 1 with fail
  generalize (w.alloc (.cells #[.int .i64 f, .int .i64 t] 25)).alloc (.cells #[.int .i64 n] 3) = W at *
  have hw := (wrote_refl n2).set 0 (.int .i64 m)
  have hbel := hw.below HB (by omega)
  have b0 := cell_of_block (o := 0) n2 rfl
  have z0 := free_of_block 0 n2
  have m1 := (hw.rest w.heap.size (by omega)).trans n1
  have m2 := hw.there
  have hS : USt (W.setCell ⟨w.heap.size + 1, 0, none⟩ (.int .i64 m)) S L := H0.out.below hbel
  clear n1 n2 hw
  rcases hm with ⟨h1, rfl⟩ | ⟨h1, h2, rfl⟩ | ⟨h1, h2, rfl⟩
  all_goals (
    go_upto_region 2 with fail
    clear b0 z0
    generalize W.setCell ⟨w.heap.size + 1, 0, none⟩ (.int .i64 _) = W9 at *
    have s0 := cell_of_block (o := 0) m1 rfl
    have s1 := cell_of_block (o := 1) m1 rfl
    have hlt := (Array.getElem?_eq_some_iff.1 m2).1
    have K := Lib.hid (change_any hS f t 66 #[.pointer (some ⟨w.heap.size + 1, 0, none⟩)] (addF _) (enters_of Try.func66 (by kernel_rfl) rfl)
      (fun a W' hb => add1_any (cell_of_block (o := 0) ((hb.block _ hlt).trans m2) rfl) a) hlen' hpos)
    clear m1 m2 hS hlt
    go_wp2_with fail
    refine K.out.mono ?_
    rintro e w' ⟨rfl, hu, hf⟩
    have HX := Lib.hid (And.intro hu hf)
    clear hu hf
    go_wp2_with fail
    go_ret
    exact ⟨rfl, HX.out.1, FrU.after hbel HX.out.2⟩)
/-- one level at all times -/
theorem flat_row (n : Int) (w : World) : Calls Try.prog 32 #[.int .i64 n] w fun e w' => ∃ S, e = .returned (.pointer (some ⟨S, 0, none⟩)) ∧ w.heap.size ≤ S ∧ USt w' S [(0, boundU n)] ∧ Below w.heap.size w w' ∧ ∀ b, b < w.heap.size → RowNe w' S b := by
  have KB := Lib.hid (bound_any n w)
  generalize boundU n = b at *
  go_enter Try.func32, Try.ntmps32
  go_wp2_with (go_at_call 67; ((with_reducible refine KB.out.mono ?_)); rintro e w' ⟨rfl, rfl⟩)
  have hb1 := below_alloc (Below.refl _ w) (.cells #[.int .i64 0, .int .i64 b] 60)
  have hb2 := below_alloc (Below.refl _ (w.alloc (.cells #[.int .i64 0, .int .i64 b] 60))) (.cells #[.slice (some ⟨w.heap.size, 0, none⟩) 1 1] 63)
  have n1 := (hb2.block w.heap.size (by simp)).trans (World.alloc_heap_new w (.cells #[.int .i64 0, .int .i64 b] 60))
  have n2 := World.alloc_heap_new (w.alloc (.cells #[.int .i64 0, .int .i64 b] 60)) (.cells #[.slice (some ⟨w.heap.size, 0, none⟩) 1 1] 63)
  have hs1 : (w.alloc (.cells #[.int .i64 0, .int .i64 b] 60)).heap.size = w.heap.size + 1 := by simp
  rw [hs1] at n2
  go_ret
  refine ⟨w.heap.size + 1, rfl, by omega, ⟨⟨w.heap.size, 1, by omega, n2, by simp, by have := (Array.getElem?_eq_some_iff.1 n1).1; exact this, fun k hk => ?_⟩, by simp, by simp⟩, below_next hb1 hb2, fun b hb => ⟨w.heap.size, 1, 1, n2, by omega⟩⟩
  obtain rfl : k = 0 := by simpa using hk
  exact ⟨cell_of_block (o := 0) n1 rfl, cell_of_block (o := 1) n1 rfl⟩
theorem flat_any (n : Int) (w : World) : Calls Try.prog 32 #[.int .i64 n] w fun e w' => ∃ S, e = .returned (.pointer (some ⟨S, 0, none⟩)) ∧ w.heap.size ≤ S ∧ USt w' S [(0, boundU n)] ∧ Below w.heap.size w w' :=
  (flat_row n w).mono fun _ _ ⟨S, h1, h2, h3, h4, _⟩ => ⟨S, h1, h2, h3, h4⟩
end Go.Proofs.Ythdljigcfhjikaa
