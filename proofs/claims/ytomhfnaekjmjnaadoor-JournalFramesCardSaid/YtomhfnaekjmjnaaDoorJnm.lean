/- A log: a record that is known; a log that nobody made. Condition: errors.errorType reads as the program's text lays it. -/
import Derived.Test.YtomhfnaekjmjnaaDoorJnA
import Derived.Lib.SlBytesConst
namespace Go.Proofs.YtomhfnaekjmjnaaDoor
set_option linter.unusedVariables false
open Go.ChangeShapes Go.WideShapes Go.ChangeAt Go.RowKit
attribute [local go_sem ↓] Go.wp_at_zero Go.wp_at_succ comesTo_value_eq comesTo_skip_eq comesTo_enter_eq

def LS0 (f : Int) : LS := ⟨f, [], 0, false, false⟩
theorem open_new (f : Int) : openF newF f = LS0 f := rfl
def rec5 : JRec := (5, [97])
theorem one_add : (addF (LS0 0) newF rec5).2.2 = 0 := by decide +kernel
theorem one_down : (addF (LS0 0) newF rec5).2.1.down = false := by decide +kernel
theorem one_b : parseF ((addF (LS0 0) newF rec5).2.1.b 0) = ([rec5], 10) ∧ ((addF (LS0 0) newF rec5).2.1.b 0).length = 10 := by decide +kernel
theorem one_open : openF (addF (LS0 0) newF rec5).2.1 0 = ⟨0, [rec5], 10, false, false⟩ := by
  unfold openF
  rw [show (0 : Int).toNat = 0 from rfl, one_b.1, one_b.2]
  rfl
/-- a disk that was made, and a log opened over it -/
theorem opened {w w1 w2 : World} {D P : Nat} {ds : DS} {B : Nat} {st : LS} (hd : Dk w1 D (fun j => B ≤ j) ds) (hB : B ≤ w1.heap.size) (hb : Below w1.heap.size w1 w2) (hl : Lg w2 P D (fun j => w1.heap.size ≤ j) st) : LD w2 P D (fun j => B ≤ j) st ds :=
  LD.of hl (hd.bound.below hb) (fun j _ hj hg => by omega) (fun j _ hj => by omega) (fun j _ hj => hj.1)
set_option maxRecDepth 100000 in
set_option maxHeartbeats 4000000 in
theorem one_jn (w : World) (hE : ErrAt w) : Calls Tryd.prog 18 #[] w fun e w' => e = .returned (.bool true) ∧ Below w.heap.size w w' := by
  have kc := fun (w : World) (C : Array Value) (n c : Nat) => Lib.run_convert_bytes_const (P := Tryd.prog) w 22 5 C n c Tryd.underlying22 Tryd.underlying5
  have KN := Lib.hid (new_any w)
  have HE := Lib.hid hE
  clear hE
  go_enter Tryd.func18, Tryd.ntmps18
  go_wp2_with fail
  refine KN.out.mono ?_
  rintro e w1 ⟨D, rfl, hd, hb⟩
  have HD := Lib.hid hd
  have HB := Lib.hid hb
  clear hd hb
  go_wp2_with fail
  refine (open_any HD.out (HE.out.below HB.out) 0).mono ?_
  rintro e w2 ⟨hb2, h | ⟨_, P, rfl, hl⟩⟩
  · exact absurd (by decide : wrongF newF.down 0 = 0) h.1
  have HB2 := Lib.hid (HB.out.trans (hb2.mono HB.out.size))
  have hL := opened (w := w) HD.out HB.out.size hb2 hl
  have hA := below_alloc (Below.refl _ w2) (.cells #[.int .u8 97] 5 (1, 2))
  have hL2 := (hL.more (K := fun j => w.heap.size ≤ j ∧ j < w2.heap.size) (fun j h1 h2 => ⟨h2, h1⟩)).below hA
  have hX : ∀ w', Fr (fun j => w.heap.size ≤ j ∧ j < w2.heap.size) (w2.alloc (.cells #[.int .u8 97] 5 (1, 2))) w' → TxtAt w' (.slice (some ⟨w2.heap.size, 0, none⟩) 1 1) [97] := fun w' hf => by
    have hblk : w'.heap[w2.heap.size]? = some (.cells #[.int .u8 97] 5 (1, 2)) := (hf.block _ (by simp) (fun h => by omega)).trans (World.alloc_heap_new w2 _)
    refine .inl ⟨w2.heap.size, 0, 1, rfl, by decide, ⟨fun k hk => ?_, fun k hk => ?_, fun k hk => ?_, by decide⟩⟩
    · obtain rfl : k = 0 := by simpa using hk
      unfold World.cell?; rw [show ∀ o, (⟨w2.heap.size, o, none⟩ : Addr).block = w2.heap.size from fun _ => rfl, hblk]; rfl
    · obtain rfl : k = 0 := by simpa using hk
      decide
    · obtain rfl : k = 0 := by simpa using hk
      decide
  have KA := Lib.hid (add_ld hL2 5 (by decide) (some ⟨w2.heap.size, 0, none⟩) 1 1 [97] hX (by simp [openF, open_new]; decide) (by decide))
  have HA := Lib.hid hA
  clear hL hL2 hX hA hb2 hl
  go_wp2_with fail
  refine KA.out.mono ?_
  rintro e w3 ⟨rfl, hL3, hf3⟩
  have HL3 := Lib.hid hL3
  have HB3 := Lib.hid ((HB2.out.trans (HA.out.mono HB2.out.size)).trans (hf3.below (B := w.heap.size) (Nat.le_trans HB2.out.size HA.out.size) (fun j hj => hj.1)))
  clear hL3 hf3 KA HA HB2
  rw [open_new] at HL3 ⊢
  rw [show (addF (LS0 0) newF (5, [97])).2.2 = 0 from one_add]
  obtain ⟨F, G, _, hd3, _, _⟩ := HL3.out
  go_wp2_with fail
  refine (open_any hd3 (HE.out.below HB3.out) 0).mono ?_
  rintro e w4 ⟨hb4, h | ⟨_, P4, rfl, hl4⟩⟩
  · exact absurd (by show wrongF (addF (LS0 0) newF rec5).2.1.down 0 = 0; rw [one_down]; decide) h.1
  have hl4' : Lg w4 P4 D (fun j => w3.heap.size ≤ j) ⟨0, [rec5], 10, false, false⟩ := by rw [← one_open]; exact hl4
  have HB4 := Lib.hid (HB3.out.trans (hb4.mono HB3.out.size))
  have KT := Lib.hid (texts_lg hl4' (by decide) 5)
  have HL4 := Lib.hid hl4'
  clear hl4 hl4' hb4 hd3
  go_wp2_with fail
  refine KT.out.mono ?_
  rintro e w5 ⟨v, rfl, ho, hb5⟩
  obtain ⟨g, c, rfl, _, _, hcl⟩ : ∃ g c, v = .slice (some ⟨g, 0, none⟩) 1 c ∧ w4.heap.size ≤ g ∧ g < w5.heap.size ∧ ∀ k, k < 1 → w5.cell? ⟨g, k, none⟩ = some (.string (strOfNums ([[97]].getD k []))) := by
    have ho' : OwnS w5 w4.heap.size v [[97]] := ho
    rcases ho'.form with ⟨h, _⟩ | ⟨g, c, h1, h2, h3, h4⟩
    · cases h
    · exact ⟨g, c, h1, h2, h3, h4⟩
  have c0 := hcl 0 (by decide)
  have KL := Lib.hid (len_lg (HL4.out.below hb5))
  have HB5 := Lib.hid (HB4.out.trans (hb5.mono HB4.out.size))
  have hse : strOfNums ([[97]].getD 0 []) = ⟨#[97]⟩ := by decide +kernel
  rw [hse] at c0
  clear ho hb5 hcl KT
  go_wp2_with fail
  refine KL.out.mono ?_
  rintro e w' ⟨rfl, rfl⟩
  go_wp2_with fail
  go_ret
  exact ⟨rfl, HB5.out⟩
/-- no disk: nothing is opened -/
theorem open_no {w : World} {v : Value} (h : NoDisk w v) (f : Int) : Calls Tryd.prog 20 #[v, .int .i64 f] w fun e w' => e = .returned (.tuple #[.pointer none, .int .i64 1]) ∧ w = w' := by
  have K := Lib.hid (read_no h (.int .i64 f))
  clear h
  go_enter Tryd.func20, Tryd.ntmps20
  go_wp2_with fail
  refine K.out.mono ?_
  rintro e w' ⟨rfl, rfl⟩
  go_wp2_with fail
  go_ret2
  exact ⟨rfl, rfl⟩
end Go.Proofs.YtomhfnaekjmjnaaDoor
