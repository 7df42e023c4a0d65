/- The walk of TimersMoves (layer 17). No condition. -/
import Derived.Test.YtfakejfpicjedaaTmK
import Derived.Lib.MinMax
namespace Go.Proofs.Ytfakejfpicjedaa
set_option linter.unusedVariables false
open Go.ChangeShapes Go.WideShapes Go.ChangeAt Go.RowKit Tm
attribute [local go_sem ↓] Go.wp_at_zero Go.wp_at_succ comesTo_value_eq comesTo_skip_eq comesTo_enter_eq

theorem CB.rebase {B : Nat} {w0 w : World} {c : Nat} {R : List AL} (h : CB B w0 w c R) : CB B w w c R := ⟨h.ex, h.cb, Below.refl _ _⟩
/-- what lies ahead of the base turns -/
theorem CB.poke {B : Nat} {w0 w w' : World} {c : Nat} {R : List AL} (h : CB B w0 w c R) (hk : ∀ j, B ≤ j → w'.heap[j]? = w.heap[j]?) : CB B w' w' c R := by
  obtain ⟨Q, m, v, hK, h1, h2, h3⟩ := h.ex
  exact ⟨⟨Q, m, v, hK.keep (hk c h.cb) (hk Q h1) (hk m h2) (fun g hg => hk g (h3 g hg)), h1, h2, h3⟩, h.cb, Below.refl _ _⟩
theorem del_cons {y : AL} {l : List AL} {id : Int} : delR (y :: l) id = if y.2 = id then delR l id else y :: delR l id := by
  unfold delR
  rw [List.filter_cons]
  by_cases h : y.2 = id
  · rw [if_pos h, if_neg (by simpa using h)]
  · rw [if_neg h, if_pos (by simpa using h)]
theorem in_cons {y : AL} {l : List AL} {id : Int} : inR (y :: l) id = (y.2 == id || inR l id) := rfl
theorem in_perm {R L : List AL} (h : R.Perm L) (id : Int) : inR R id = inR L id := by unfold inR; exact h.any_eq
theorem set_permL {R L : List AL} (h : R.Perm L) (t id : Int) : (insR (t, id) (delR R id)).Perm ((t, id) :: delR L id) := (ins_perm _ _).trans ((del_perm h id).cons _)
theorem run_min3 (w : World) (ts : Array TypeId) (t : TypeId) (x y z : Int) : (Builtin.min_ ts t #[.int .i64 x, .int .i64 y, .int .i64 z]).run Try.prog w = .ok (.int .i64 (min (min x y) z)) w := by
  have e : ∀ x y : Int, (if y < x then y else x) = min x y := fun x y => by
    rw [Int.min_def]
    split <;> split <;> omega
  simp [Builtin.min_, Builtin.min2, e]
def arrM (a b c d : Int) : Nat → Array Value
  | 0 => #[.int .i64 a, .int .i64 b, .int .i64 c, .int .i64 d]
  | 1 => #[.int .i64 (a % 65536), .int .i64 b, .int .i64 c, .int .i64 d]
  | 2 => #[.int .i64 (a % 65536), .int .i64 (b % 65536), .int .i64 c, .int .i64 d]
  | 3 => #[.int .i64 (a % 65536), .int .i64 (b % 65536), .int .i64 (c % 65536), .int .i64 d]
  | _ => #[.int .i64 (a % 65536), .int .i64 (b % 65536), .int .i64 (c % 65536), .int .i64 (d % 65536)]
def listM (a b c d x : Int) : Nat → List AL
  | 0 => []
  | 1 => [(a % 65536, x)]
  | 2 => [(b % 65536, x + 1), (a % 65536, x)]
  | 3 => [(c % 65536, x + 2), (b % 65536, x + 1), (a % 65536, x)]
  | _ => [(d % 65536, x + 3), (c % 65536, x + 2), (b % 65536, x + 1), (a % 65536, x)]
set_option maxRecDepth 100000 in
set_option maxHeartbeats 4000000 in
theorem tmoves_walk (a b c d u : Int) (w : World) : Calls Try.prog 7 #[.agg #[.int .i64 a, .int .i64 b, .int .i64 c, .int .i64 d], .int .i64 u] w fun e w' => e = .returned (.bool true) ∧ Below w.heap.size w w' := by
  have hmk := mask_255 u
  obtain ⟨x, hx⟩ : ∃ x, x = u % 256 := ⟨_, rfl⟩
  have HX := Lib.hid (show 0 ≤ x ∧ x < 256 from by omega)
  rw [← hx] at hmk
  clear hx
  have HB0 := Lib.hid (below_alloc (Below.refl _ w) (.cells #[.int .i64 a, .int .i64 b, .int .i64 c, .int .i64 d] 56))
  have HN0 := Lib.hid (World.alloc_heap_new w (.cells #[.int .i64 a, .int .i64 b, .int .i64 c, .int .i64 d] 56))
  have HS0 := Lib.hid (show (w.alloc (.cells #[.int .i64 a, .int .i64 b, .int .i64 c, .int .i64 d] 56)).heap.size = w.heap.size + 1 from by simp)
  go_enter Try.func7, Try.ntmps7
  go_upto_region 1 with fail
  generalize w.alloc (.cells #[.int .i64 a, .int .i64 b, .int .i64 c, .int .i64 d] 56) = W1 at *
  obtain ⟨A, hA⟩ : ∃ A, A = w.heap.size := ⟨_, rfl⟩
  rw [← hA] at HN0 HB0 HS0 ⊢
  have HAW := Lib.hid hA
  clear hA
  have KN := Lib.hid (cb_new (Below.refl (A + 1) W1) (Nat.le_of_eq HS0.out.symm))
  go_wp2_with fail
  refine KN.out.mono ?_
  rintro e w1 ⟨q, rfl, h1⟩
  have HN1 := Lib.hid ((h1.bel.block A (Nat.lt_succ_self A)).trans HN0.out)
  have HB1 := Lib.hid (show Below A w w1 from HB0.out.trans (h1.bel.mono (Nat.le_succ A)))
  have H1 := Lib.hid h1.rebase
  clear h1 KN HN0 HB0 HS0
  go_wp2_with fail
  go_loopw [6] (fun i wr => ∃ (k : Nat) (R : List AL), k ≤ 4 ∧ i = .int .i64 (k : Int) ∧ CB (A + 1) wr wr q R ∧ R.Perm (listM a b c d x k) ∧ wr.heap[A]? = some (.cells (arrM a b c d k) 56 (0, 0)) ∧ Below A w wr) (fun i _ => 4 - (intOf i).toNat)
  case atStart => exact ⟨0, [], by omega, rfl, H1.out, .refl _, HN1.out, HB1.out⟩
  case round =>
    obtain ⟨k, R, hk, rfl, hC, hp, hA, hb⟩ := hrel
    have HC := Lib.hid hC
    have HP := Lib.hid hp
    have HA := Lib.hid hA
    have HB := Lib.hid hb
    clear hC hp hA hb H1 HN1 HB1
    obtain ⟨z, hz⟩ : ∃ z : Int, z = (k : Int) := ⟨_, rfl⟩
    rw [← hz]
    rcases (by omega : k = 0 ∨ k = 1 ∨ k = 2 ∨ k = 3 ∨ k = 4) with rfl | rfl | rfl | rfl | rfl
    · clear hk
      obtain rfl : z = 0 := by simpa using hz
      clear hz
      have hp : R.Perm (listM a b c d x 0) := HP.out
      have hA : wr.heap[A]? = some (.cells #[.int .i64 a, .int .i64 b, .int .i64 c, .int .i64 d] 56 (0, 0)) := HA.out
      have q0 : wr.cell? ⟨A, 0, none⟩ = some (.int .i64 a) := cell_of_block (o := 0) hA rfl
      have f0 : wr.frozen? ⟨A, 0, none⟩ = false := free_of_block 0 hA
      have hm := mask_65535 a
      have hw := (wrote_refl hA).set 0 (.int .i64 (a % 65536))
      have HA2 := Lib.hid (show (wr.setCell ⟨A, 0, none⟩ (.int .i64 (a % 65536))).heap[A]? = some (.cells (arrM a b c d 1) 56 (0, 0)) from hw.there)
      have q1 : (wr.setCell ⟨A, 0, none⟩ (.int .i64 (a % 65536))).cell? ⟨A, 0, none⟩ = some (.int .i64 (a % 65536)) := cell_of_block (o := 0) HA2.out rfl
      have HC2 := Lib.hid (HC.out.poke (w' := wr.setCell ⟨A, 0, none⟩ (.int .i64 (a % 65536))) fun j hj => hw.rest j (by omega))
      have HB2 := Lib.hid (show Below A w (wr.setCell ⟨A, 0, none⟩ (.int .i64 (a % 65536))) from HB.out.trans ⟨hw.os, hw.tape, hw.output, Nat.le_of_eq hw.size.symm, fun j hj => hw.rest j (by omega)⟩)
      have hno : inR R (x) = false := by rw [in_perm hp]; simp [inR, listM] <;> omega
      have hs := set_ok (R := R) (id := x) (t := a % 65536) (by omega) (.inr (by rw [hp.length_eq]; show 0 < 4096; omega))
      have k1 := cb_set HC2.out (id := x) (t := a % 65536) (by have := HX.out; unfold i64T; omega) (by unfold i64T; omega)
      rw [hs] at k1
      have HP2 := Lib.hid (show (insR (a % 65536, x) (delR R (x))).Perm (listM a b c d x 1) from by rw [del_none hno]; exact (ins_perm _ _).trans (hp.cons _))
      have hwk : IntKind.i64.wrap x = x := by have := HX.out; rw [IntKind.wrap_i64]; omega
      have K1 := Lib.hid k1
      generalize insR (a % 65536, x) (delR R (x)) = R2 at *
      generalize a % 65536 = t at *
      clear hp hA hno hs k1 HC HP HA HB
      go_upto_region 6 with fail
      clear q0 f0
      generalize hWX : wr.setCell ⟨A, 0, none⟩ (.int .i64 t) = W2 at *
      clear hw hWX
      go_wp2_with fail
      refine K1.out.mono ?_
      rintro e w3 ⟨rfl, h3⟩
      have HA3 := Lib.hid ((h3.bel.block A (Nat.lt_succ_self A)).trans HA2.out)
      have HB3 := Lib.hid (HB2.out.trans (h3.bel.mono (Nat.le_succ A)))
      have HC3 := Lib.hid h3.rebase
      clear h3 K1 HA2 HB2 HC2 q1
      go_wp2_with fail
      go_roundw
      case rel => exact ⟨1, R2, by omega, by go_num, HC3.out, HP2.out, HA3.out, HB3.out⟩
      case measure => simp [intOf]
    · clear hk
      obtain rfl : z = 1 := by simpa using hz
      clear hz
      have hp : R.Perm (listM a b c d x 1) := HP.out
      have hA : wr.heap[A]? = some (.cells #[.int .i64 (a % 65536), .int .i64 b, .int .i64 c, .int .i64 d] 56 (0, 0)) := HA.out
      have q0 : wr.cell? ⟨A, 1, none⟩ = some (.int .i64 b) := cell_of_block (o := 1) hA rfl
      have f0 : wr.frozen? ⟨A, 1, none⟩ = false := free_of_block 1 hA
      have hm := mask_65535 b
      have hw := (wrote_refl hA).set 1 (.int .i64 (b % 65536))
      have HA2 := Lib.hid (show (wr.setCell ⟨A, 1, none⟩ (.int .i64 (b % 65536))).heap[A]? = some (.cells (arrM a b c d 2) 56 (0, 0)) from hw.there)
      have q1 : (wr.setCell ⟨A, 1, none⟩ (.int .i64 (b % 65536))).cell? ⟨A, 1, none⟩ = some (.int .i64 (b % 65536)) := cell_of_block (o := 1) HA2.out rfl
      have HC2 := Lib.hid (HC.out.poke (w' := wr.setCell ⟨A, 1, none⟩ (.int .i64 (b % 65536))) fun j hj => hw.rest j (by omega))
      have HB2 := Lib.hid (show Below A w (wr.setCell ⟨A, 1, none⟩ (.int .i64 (b % 65536))) from HB.out.trans ⟨hw.os, hw.tape, hw.output, Nat.le_of_eq hw.size.symm, fun j hj => hw.rest j (by omega)⟩)
      have hno : inR R (x + 1) = false := by rw [in_perm hp]; simp [inR, listM] <;> omega
      have hs := set_ok (R := R) (id := x + 1) (t := b % 65536) (by omega) (.inr (by rw [hp.length_eq]; show 1 < 4096; omega))
      have k1 := cb_set HC2.out (id := x + 1) (t := b % 65536) (by have := HX.out; unfold i64T; omega) (by unfold i64T; omega)
      rw [hs] at k1
      have HP2 := Lib.hid (show (insR (b % 65536, x + 1) (delR R (x + 1))).Perm (listM a b c d x 2) from by rw [del_none hno]; exact (ins_perm _ _).trans (hp.cons _))
      have hwk : IntKind.i64.wrap (x + 1) = x + 1 := by have := HX.out; rw [IntKind.wrap_i64]; omega
      have K1 := Lib.hid k1
      generalize insR (b % 65536, x + 1) (delR R (x + 1)) = R2 at *
      generalize b % 65536 = t at *
      clear hp hA hno hs k1 HC HP HA HB
      go_upto_region 6 with fail
      clear q0 f0
      generalize hWX : wr.setCell ⟨A, 1, none⟩ (.int .i64 t) = W2 at *
      clear hw hWX
      go_wp2_with fail
      refine K1.out.mono ?_
      rintro e w3 ⟨rfl, h3⟩
      have HA3 := Lib.hid ((h3.bel.block A (Nat.lt_succ_self A)).trans HA2.out)
      have HB3 := Lib.hid (HB2.out.trans (h3.bel.mono (Nat.le_succ A)))
      have HC3 := Lib.hid h3.rebase
      clear h3 K1 HA2 HB2 HC2 q1
      go_wp2_with fail
      go_roundw
      case rel => exact ⟨2, R2, by omega, by go_num, HC3.out, HP2.out, HA3.out, HB3.out⟩
      case measure => simp [intOf]
    · clear hk
      obtain rfl : z = 2 := by simpa using hz
      clear hz
      have hp : R.Perm (listM a b c d x 2) := HP.out
      have hA : wr.heap[A]? = some (.cells #[.int .i64 (a % 65536), .int .i64 (b % 65536), .int .i64 c, .int .i64 d] 56 (0, 0)) := HA.out
      have q0 : wr.cell? ⟨A, 2, none⟩ = some (.int .i64 c) := cell_of_block (o := 2) hA rfl
      have f0 : wr.frozen? ⟨A, 2, none⟩ = false := free_of_block 2 hA
      have hm := mask_65535 c
      have hw := (wrote_refl hA).set 2 (.int .i64 (c % 65536))
      have HA2 := Lib.hid (show (wr.setCell ⟨A, 2, none⟩ (.int .i64 (c % 65536))).heap[A]? = some (.cells (arrM a b c d 3) 56 (0, 0)) from hw.there)
      have q1 : (wr.setCell ⟨A, 2, none⟩ (.int .i64 (c % 65536))).cell? ⟨A, 2, none⟩ = some (.int .i64 (c % 65536)) := cell_of_block (o := 2) HA2.out rfl
      have HC2 := Lib.hid (HC.out.poke (w' := wr.setCell ⟨A, 2, none⟩ (.int .i64 (c % 65536))) fun j hj => hw.rest j (by omega))
      have HB2 := Lib.hid (show Below A w (wr.setCell ⟨A, 2, none⟩ (.int .i64 (c % 65536))) from HB.out.trans ⟨hw.os, hw.tape, hw.output, Nat.le_of_eq hw.size.symm, fun j hj => hw.rest j (by omega)⟩)
      have hno : inR R (x + 2) = false := by rw [in_perm hp]; simp [inR, listM] <;> omega
      have hs := set_ok (R := R) (id := x + 2) (t := c % 65536) (by omega) (.inr (by rw [hp.length_eq]; show 2 < 4096; omega))
      have k1 := cb_set HC2.out (id := x + 2) (t := c % 65536) (by have := HX.out; unfold i64T; omega) (by unfold i64T; omega)
      rw [hs] at k1
      have HP2 := Lib.hid (show (insR (c % 65536, x + 2) (delR R (x + 2))).Perm (listM a b c d x 3) from by rw [del_none hno]; exact (ins_perm _ _).trans (hp.cons _))
      have hwk : IntKind.i64.wrap (x + 2) = x + 2 := by have := HX.out; rw [IntKind.wrap_i64]; omega
      have K1 := Lib.hid k1
      generalize insR (c % 65536, x + 2) (delR R (x + 2)) = R2 at *
      generalize c % 65536 = t at *
      clear hp hA hno hs k1 HC HP HA HB
      go_upto_region 6 with fail
      clear q0 f0
      generalize hWX : wr.setCell ⟨A, 2, none⟩ (.int .i64 t) = W2 at *
      clear hw hWX
      go_wp2_with fail
      refine K1.out.mono ?_
      rintro e w3 ⟨rfl, h3⟩
      have HA3 := Lib.hid ((h3.bel.block A (Nat.lt_succ_self A)).trans HA2.out)
      have HB3 := Lib.hid (HB2.out.trans (h3.bel.mono (Nat.le_succ A)))
      have HC3 := Lib.hid h3.rebase
      clear h3 K1 HA2 HB2 HC2 q1
      go_wp2_with fail
      go_roundw
      case rel => exact ⟨3, R2, by omega, by go_num, HC3.out, HP2.out, HA3.out, HB3.out⟩
      case measure => simp [intOf]
    · clear hk
      obtain rfl : z = 3 := by simpa using hz
      clear hz
      have hp : R.Perm (listM a b c d x 3) := HP.out
      have hA : wr.heap[A]? = some (.cells #[.int .i64 (a % 65536), .int .i64 (b % 65536), .int .i64 (c % 65536), .int .i64 d] 56 (0, 0)) := HA.out
      have q0 : wr.cell? ⟨A, 3, none⟩ = some (.int .i64 d) := cell_of_block (o := 3) hA rfl
      have f0 : wr.frozen? ⟨A, 3, none⟩ = false := free_of_block 3 hA
      have hm := mask_65535 d
      have hw := (wrote_refl hA).set 3 (.int .i64 (d % 65536))
      have HA2 := Lib.hid (show (wr.setCell ⟨A, 3, none⟩ (.int .i64 (d % 65536))).heap[A]? = some (.cells (arrM a b c d 4) 56 (0, 0)) from hw.there)
      have q1 : (wr.setCell ⟨A, 3, none⟩ (.int .i64 (d % 65536))).cell? ⟨A, 3, none⟩ = some (.int .i64 (d % 65536)) := cell_of_block (o := 3) HA2.out rfl
      have HC2 := Lib.hid (HC.out.poke (w' := wr.setCell ⟨A, 3, none⟩ (.int .i64 (d % 65536))) fun j hj => hw.rest j (by omega))
      have HB2 := Lib.hid (show Below A w (wr.setCell ⟨A, 3, none⟩ (.int .i64 (d % 65536))) from HB.out.trans ⟨hw.os, hw.tape, hw.output, Nat.le_of_eq hw.size.symm, fun j hj => hw.rest j (by omega)⟩)
      have hno : inR R (x + 3) = false := by rw [in_perm hp]; simp [inR, listM] <;> omega
      have hs := set_ok (R := R) (id := x + 3) (t := d % 65536) (by omega) (.inr (by rw [hp.length_eq]; show 3 < 4096; omega))
      have k1 := cb_set HC2.out (id := x + 3) (t := d % 65536) (by have := HX.out; unfold i64T; omega) (by unfold i64T; omega)
      rw [hs] at k1
      have HP2 := Lib.hid (show (insR (d % 65536, x + 3) (delR R (x + 3))).Perm (listM a b c d x 4) from by rw [del_none hno]; exact (ins_perm _ _).trans (hp.cons _))
      have hwk : IntKind.i64.wrap (x + 3) = x + 3 := by have := HX.out; rw [IntKind.wrap_i64]; omega
      have K1 := Lib.hid k1
      generalize insR (d % 65536, x + 3) (delR R (x + 3)) = R2 at *
      generalize d % 65536 = t at *
      clear hp hA hno hs k1 HC HP HA HB
      go_upto_region 6 with fail
      clear q0 f0
      generalize hWX : wr.setCell ⟨A, 3, none⟩ (.int .i64 t) = W2 at *
      clear hw hWX
      go_wp2_with fail
      refine K1.out.mono ?_
      rintro e w3 ⟨rfl, h3⟩
      have HA3 := Lib.hid ((h3.bel.block A (Nat.lt_succ_self A)).trans HA2.out)
      have HB3 := Lib.hid (HB2.out.trans (h3.bel.mono (Nat.le_succ A)))
      have HC3 := Lib.hid h3.rebase
      clear h3 K1 HA2 HB2 HC2 q1
      go_wp2_with fail
      go_roundw
      case rel => exact ⟨4, R2, by omega, by go_num, HC3.out, HP2.out, HA3.out, HB3.out⟩
      case measure => simp [intOf]
    · clear hk
      obtain rfl : z = 4 := by simpa using hz
      clear hz
      have hp : R.Perm [(d % 65536, x + 3), (c % 65536, x + 2), (b % 65536, x + 1), (a % 65536, x)] := HP.out
      have hA : wr.heap[A]? = some (.cells #[.int .i64 (a % 65536), .int .i64 (b % 65536), .int .i64 (c % 65536), .int .i64 (d % 65536)] 56 (0, 0)) := HA.out
      have ra : 0 ≤ a % 65536 ∧ a % 65536 < 65536 := by omega
      have rb : 0 ≤ b % 65536 ∧ b % 65536 < 65536 := by omega
      have rc : 0 ≤ c % 65536 ∧ c % 65536 < 65536 := by omega
      have rd : 0 ≤ d % 65536 ∧ d % 65536 < 65536 := by omega
      clear HP HA
      generalize a % 65536 = a at *
      generalize b % 65536 = b at *
      generalize c % 65536 = c at *
      generalize d % 65536 = d at *
      have q1 : wr.cell? ⟨A, 1, none⟩ = some (.int .i64 b) := cell_of_block (o := 1) hA rfl
      have q2 : wr.cell? ⟨A, 2, none⟩ = some (.int .i64 c) := cell_of_block (o := 2) hA rfl
      have q3 : wr.cell? ⟨A, 3, none⟩ = some (.int .i64 d) := cell_of_block (o := 3) hA rfl
      have nx : inR R x = true := by rw [in_perm hp, in_iff]; exact ⟨(a, x), by simp, rfl⟩
      have ix : i64T x := by have := HX.out; unfold i64T; omega
      have ix3 : i64T (x + 3) := by have := HX.out; unfold i64T; omega
      have k1 := cb_set HC.out (id := x) (t := d) ix (by unfold i64T; omega)
      rw [set_ok (by omega) (.inl nx)] at k1
      have p2 : (insR (d, x) (delR R x)).Perm [(d, x), (d, x + 3), (c, x + 2), (b, x + 1)] := by
        refine (set_permL hp d x).trans ?_
        rw [del_cons, if_neg (by show x + 3 ≠ x; omega), del_cons, if_neg (by show x + 2 ≠ x; omega), del_cons, if_neg (by show x + 1 ≠ x; omega), del_cons, if_pos rfl]
        exact .refl _
      generalize insR (d, x) (delR R x) = R2 at k1 p2
      have K1 := Lib.hid k1
      have HA1 := Lib.hid hA
      have HWK := Lib.hid (show IntKind.i64.wrap (x + 3) = x + 3 from by have := HX.out; rw [IntKind.wrap_i64]; omega)
      clear k1 hp hA nx
      have hwk := HWK.out
      go_wp2_with fail
      refine K1.out.mono ?_
      rintro e w2 ⟨rfl, h2⟩
      have n3 : inR R2 (x + 3) = true := by rw [in_perm p2, in_iff]; exact ⟨(d, x + 3), by simp, rfl⟩
      have k2 := cb_drop h2 (id := x + 3) ix3
      rw [n3] at k2
      have p3 : (delR R2 (x + 3)).Perm [(d, x), (c, x + 2), (b, x + 1)] := by
        refine (del_perm p2 (x + 3)).trans ?_
        rw [del_cons, if_neg (by show x ≠ x + 3; omega), del_cons, if_pos rfl, del_cons, if_neg (by show x + 2 ≠ x + 3; omega), del_cons, if_neg (by show x + 1 ≠ x + 3; omega)]
        exact .refl _
      generalize delR R2 (x + 3) = R3 at k2 p3
      have K2 := Lib.hid k2
      have HE2 := Lib.hid h2.bel
      clear k2 h2 K1 p2 n3 q1 q2 q3
      go_wp2_with fail
      refine K2.out.mono ?_
      rintro e w3 ⟨rfl, h3⟩
      have k3 := cb_len h3
      rw [show R3.length = 3 from p3.length_eq] at k3
      have K3 := Lib.hid (show Calls Try.prog 16 #[.pointer (some ⟨q, 0, none⟩)] w3 fun e w' => e = .returned (.int .i64 3) ∧ w' = w3 from k3)
      have HC3 := Lib.hid h3
      have HA3 := Lib.hid ((h3.bel.block A (Nat.lt_succ_self A)).trans HA1.out)
      have HB3 := Lib.hid (HB.out.trans (h3.bel.mono (Nat.le_succ A)))
      have q1 : w3.cell? ⟨A, 1, none⟩ = some (.int .i64 b) := cell_of_block (o := 1) HA3.out rfl
      have q2 : w3.cell? ⟨A, 2, none⟩ = some (.int .i64 c) := cell_of_block (o := 2) HA3.out rfl
      have q3 : w3.cell? ⟨A, 3, none⟩ = some (.int .i64 d) := cell_of_block (o := 3) HA3.out rfl
      have k4 := cb_at h3 ix
      rw [show atR R3 x = some d from atR_mem h3.inj (y := (d, x)) (p3.mem_iff.2 (by simp)) rfl] at k4
      have K4 := Lib.hid (show Calls Try.prog 15 #[.pointer (some ⟨q, 0, none⟩), .int .i64 x] w3 fun e w' => e = .returned (.tuple #[.int .i64 d, .bool true]) ∧ w' = w3 from k4)
      obtain ⟨M, hM⟩ : ∃ M, M = min (min d b) c := ⟨_, rfl⟩
      have hmin := fun W ts t => run_min3 W ts t d b c
      rw [← hM] at hmin
      have hne : R3 ≠ [] := fun e => by have := p3.length_eq; rw [e] at this; cases this
      have hnx : nextR R3 = M := by
        obtain ⟨⟨y, hy, hy1⟩, hy2⟩ := next_min h3.srt hne
        have m1 := hy2 (d, x) (p3.mem_iff.2 (by simp))
        have m2 := hy2 (c, x + 2) (p3.mem_iff.2 (by simp))
        have m3 := hy2 (b, x + 1) (p3.mem_iff.2 (by simp))
        have m4 := p3.mem_iff.1 hy
        simp at m4
        dsimp only at m1 m2 m3
        rcases m4 with rfl | rfl | rfl <;> (dsimp only at hy1; omega)
      have k5 := cb_next h3
      rw [hnx] at k5
      have K5 := Lib.hid k5
      have k6 := cb_due h3.rebase M
      have HMM := Lib.hid (show ∀ y ∈ R3, M ≤ y.1 from fun y hy => by rw [← hnx]; exact (next_min h3.srt hne).2 y hy)
      have HNE := Lib.hid (show dueR R3 M ≠ [] from by
        cases R3 with
        | nil => exact absurd rfl hne
        | cons y S => rw [(due_cons (by have : y.1 = M := hnx; omega)).1]; simp)
      have HP3 := Lib.hid p3
      have HDL := Lib.hid (due_le (R := R3) (t := M))
      have HRG := Lib.hid (rest_gt (t := M) h3.srt)
      have HLN := Lib.hid (due_len R3 M)
      have K6 := Lib.hid k6
      clear h3 k3 k4 k5 k6 K2 HA1 HE2 HB hM hne hnx p3
      go_wp2_with fail
      refine K3.out.mono ?_
      rintro e w4 ⟨rfl, hw⟩
      obtain rfl := hw
      go_wp2_with fail
      refine K4.out.mono ?_
      rintro e w5 ⟨rfl, hw⟩
      obtain rfl := hw
      go_wp2_with fail
      refine K5.out.mono ?_
      rintro e w6 ⟨rfl, hw⟩
      obtain rfl := hw
      clear K3 K4 K5
      go_wp2_with fail
      refine K6.out.mono ?_
      rintro e w7 ⟨v, rfl, hD, h7⟩
      generalize dueR R3 M = D at *
      generalize restR R3 M = S at *
      have HD := Lib.hid hD
      have HC7 := Lib.hid h7
      have HB7 := Lib.hid (HB3.out.trans (h7.bel.mono (Nat.le_succ A)))
      clear hD h7 K6 HB3 HA3 HC3 hmin q1 q2 q3
      obtain ⟨ad, cp, rfl⟩ := HD.out.form
      have HY := Lib.hid (show ∀ y ∈ D, y.1 = M ∧ y.2 ≠ x + 3 from fun y hy => by
        obtain ⟨h1, h2⟩ := HDL.out y hy
        have h3 := HMM.out y h2
        refine ⟨by omega, ?_⟩
        have h4 := HP3.out.mem_iff.1 h2
        simp at h4
        rcases h4 with rfl | rfl | rfl
        · show x ≠ x + 3; omega
        · show x + 2 ≠ x + 3; omega
        · show x + 1 ≠ x + 3; omega)
      have HL3 := Lib.hid (show D.length + S.length = 3 ∧ 0 < D.length from ⟨by rw [HLN.out, HP3.out.length_eq]; rfl, List.length_pos_iff.2 HNE.out⟩)
      clear HDL HMM HP3 HLN HNE
      go_wp2_with fail
      go_loopw [11] (fun i wr => ∃ k : Nat, k ≤ D.length ∧ i = .int .i64 (k : Int) ∧ wr = w7) (fun i _ => D.length - (intOf i).toNat)
      case atStart => exact ⟨0, Nat.zero_le _, rfl, rfl⟩
      case round =>
        obtain ⟨k, hk, rfl, rfl⟩ := hrel
        have HK := Lib.hid hk
        by_cases hlt : k < D.length
        · obtain ⟨g, cap, hv, _, y0, y1⟩ := HD.out.cells hlt
          injection hv with hv1 hv2 hv3
          subst hv1
          obtain ⟨e1, e2⟩ := HY.out _ (gA_mem hlt)
          rw [e1] at y0
          generalize (gA D k).2 = z at *
          have hz : (z == x + 3) = false := by simpa using e2
          have hkI : (k : Int) < (D.length : Int) := by omega
          have hw1 : IntKind.i64.wrap ((k : Int) + 1) = (k : Int) + 1 := by have := HL3.out; rw [IntKind.wrap_i64]; omega
          generalize hn : D.length = n at *
          clear hk e1 e2
          go_wp2_with fail
          go_roundw
          case rel => exact ⟨k + 1, by omega, by go_num, trivial⟩
          case measure => simp [intOf]; omega
        · have hk2 : k = D.length := by omega
          have hkI : ¬ (k : Int) < (D.length : Int) := by omega
          clear hlt hk
          have KO := Lib.hid (one_any wr)
          have KL := Lib.hid (cb_len HC7.out)
          have KX := Lib.hid (cb_next HC7.out)
          have l0 : (0 : Int) < (D.length : Int) := by have := HL3.out; omega
          have hwn : IntKind.i64.wrap (3 - (D.length : Int)) = (S.length : Int) := by have := HL3.out; rw [IntKind.wrap_i64]; omega
          have HRG2 := Lib.hid (show ∀ y S', S = y :: S' → M < y.1 from fun y S' e => by have h := HRG.out y (by rw [e]; exact List.mem_cons_self); exact h.1)
          have l0n : 0 < D.length := HL3.out.2
          generalize D.length = n at *
          cases S with
          | nil =>
            have KL2 := Lib.hid (show Calls Try.prog 16 #[.pointer (some ⟨q, 0, none⟩)] wr fun e w' => e = .returned (.int .i64 0) ∧ w' = wr from KL.out)
            have hwm : IntKind.i64.wrap (3 - (n : Int)) = 0 := hwn
            clear KX KL hwn
            go_wp2_with fail
            refine KL2.out.mono ?_
            rintro e w8 ⟨rfl, hw⟩
            obtain rfl := hw
            go_wp2_with fail
            refine KL2.out.mono ?_
            rintro e w8 ⟨rfl, hw⟩
            obtain rfl := hw
            go_wp2_with fail
            refine KO.out.mono ?_
            rintro e w9 ⟨rfl, hb⟩
            go_wp2_with fail
            go_ret
            exact ⟨rfl, by rw [← HAW.out]; exact HB7.out.trans (hb.mono (by have := HC7.out.size; omega))⟩
          | cons y S' =>
            have hgt : nextR (y :: S') > M := HRG2.out y S' rfl
            have hN0 : (((y :: S').length : Int) == 0) = false := by rw [beq_eq_false_iff_ne, List.length_cons]; omega
            generalize ((y :: S').length : Int) = N at *
            generalize nextR (y :: S') = T at *
            go_wp2_with fail
            refine KL.out.mono ?_
            rintro e w8 ⟨rfl, hw⟩
            obtain rfl := hw
            go_wp2_with fail
            refine KL.out.mono ?_
            rintro e w8 ⟨rfl, hw⟩
            obtain rfl := hw
            go_wp2_with fail
            refine KX.out.mono ?_
            rintro e w8 ⟨rfl, hw⟩
            obtain rfl := hw
            go_wp2_with fail
            refine KO.out.mono ?_
            rintro e w9 ⟨rfl, hb⟩
            go_wp2_with fail
            go_ret
            exact ⟨rfl, by rw [← HAW.out]; exact HB7.out.trans (hb.mono (by have := HC7.out.size; omega))⟩
end Go.Proofs.Ytfakejfpicjedaa
