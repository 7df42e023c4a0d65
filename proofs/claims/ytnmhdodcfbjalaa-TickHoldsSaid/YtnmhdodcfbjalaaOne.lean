/- What the known times come to (one). -/
import Derived.Test.YtnmhdodcfbjalaaJoin
namespace Go.Proofs.Ytnmhdodcfbjalaa
set_option linter.unusedVariables false
open Go.ChangeShapes Go.WideShapes Go.ChangeAt Go.RowKit

theorem join_one (l' : List (Int × Int)) (hp : l'.Perm [(5, 7), (1, 3), (3, 4)]) (hs : l'.Pairwise (fun x y => x.1 ≤ y.1)) : foldJ l' = [(1, 4), (5, 7)] := by
  have hl := hp.length_eq
  match l', hl with
  | [a, b, c], _ =>
    have hn : [a, b, c].Nodup := hp.nodup_iff.2 (by decide)
    have ha : a ∈ [((5 : Int), (7 : Int)), (1, 3), (3, 4)] := hp.mem_iff.1 (by simp)
    have hb : b ∈ [((5 : Int), (7 : Int)), (1, 3), (3, 4)] := hp.mem_iff.1 (by simp)
    have hc : c ∈ [((5 : Int), (7 : Int)), (1, 3), (3, 4)] := hp.mem_iff.1 (by simp)
    simp at ha hb hc hn hs
    rcases ha with rfl | rfl | rfl <;> rcases hb with rfl | rfl | rfl <;> rcases hc with rfl | rfl | rfl <;> first | (simp at hn; done) | (simp at hs; done) | decide
theorem cuts_one : cutsOf [(5, 7), (1, 3), (3, 4)] = [(5, 7), (1, 3), (3, 4)] := by decide

set_option maxRecDepth 100000 in
set_option maxHeartbeats 1000000 in
theorem one_any : OneHolds := by
  intro w
  have hj := join_any w.heap.size 0 3 [(5, 7), (1, 3), (3, 4)] (by decide) (by rw [cuts_one]; decide) (w.alloc (.cells #[.int .i64 5, .int .i64 7, .int .i64 1, .int .i64 3, .int .i64 3, .int .i64 4] 24))
    ⟨fun k hk => by match k, hk with
      | 0, _ => simp
      | 1, _ => simp
      | 2, _ => simp, fun k hk => by match k, hk with
      | 0, _ => simp
      | 1, _ => simp
      | 2, _ => simp⟩
  rw [cuts_one] at hj
  have HJ := Lib.hid hj
  clear hj
  go_enter Try.func28, Try.ntmps28
  go_wp2_with fail
  refine HJ.out.mono ?_
  rintro e w1 ⟨l', v, hp, hs, rfl, hO, hb⟩
  rw [join_one l' hp hs] at hO
  obtain ⟨ad, c, rfl, hf⟩ := hO.form
  obtain ⟨g, rfl, hg, hg1⟩ := hf (by decide)
  obtain ⟨hr, hfr⟩ := hO.row
  have c0 : w1.cell? ⟨g, 0, none⟩ = some (.int .i64 1) := hr.c0 0 (by decide)
  have c1 : w1.cell? ⟨g, 1, none⟩ = some (.int .i64 4) := hr.c1 0 (by decide)
  have hb1 : Below w.heap.size w w1 := ((Below.refl _ w).alloc (Nat.le_refl _) _).trans (hb.mono (by simp))
  have HB := Lib.hid hb1
  clear hr hfr hO hb hp hs hb1 hf HJ
  have hA1 := fun W => add_any 3 4 W
  have hA2 := fun W => add_any 1099511627776 1 W
  have hA3 := fun W => sub_any 3 5 W
  rw [show addI 3 4 = 7 by decide] at hA1
  rw [show addI 1099511627776 1 = 1099511627776 by decide] at hA2
  rw [show subI 3 5 = 0 by decide] at hA3
  go_wp2_with fail
  refine (hA1 _).mono ?_
  rintro e w' ⟨rfl, rfl⟩
  go_wp2_with fail
  refine (hA2 _).mono ?_
  rintro e w' ⟨rfl, rfl⟩
  go_wp2_with fail
  refine (hA3 _).mono ?_
  rintro e w' ⟨rfl, rfl⟩
  go_wp2_with fail
  go_ret
  exact ⟨rfl, HB.out⟩
end Go.Proofs.Ytnmhdodcfbjalaa
