/- Contracts of Sum of texts, of Both, and what the known sums come to (one). -/
import Derived.Test.YtomhfnaekjmjnaaDoorMaf
import Derived.Laws.BitsAllLaws
import Derived.Lib.SlBytesConst
namespace Go.Proofs.YtomhfnaekjmjnaaDoor
set_option linter.unusedVariables false
open Go.ChangeShapes Go.WideShapes Go.ChangeAt Go.RowKit

def takes (p : Int × Int) (l : List (List Int)) : Int × Int := l.foldl (fun p zs => takeI p.1 p.2 zs) p
theorem takes_snoc (p : Int × Int) (l : List (List Int)) (zs : List Int) : takes p (l ++ [zs]) = takeI (takes p l).1 (takes p l).2 zs := by simp [takes]
theorem takes_bd (l : List (List Int)) : ∀ p : Int × Int, ((0 ≤ p.1 ∧ p.1 ≤ 4294967295) ∧ 0 ≤ p.2 ∧ p.2 ≤ 4294967295) → (0 ≤ (takes p l).1 ∧ (takes p l).1 ≤ 4294967295) ∧ 0 ≤ (takes p l).2 ∧ (takes p l).2 ≤ 4294967295 := by
  induction l with
  | nil => intro p h; exact h
  | cons zs l ih => intro p h; exact ih _ (takeI_bd p.1 p.2 h.1.1 h.2.1 h.1.2 h.2.2 zs)
theorem takes_take_succ (p : Int × Int) (l : List (List Int)) (k : Nat) (h : k < l.length) : takes p (l.take (k + 1)) = takeI (takes p (l.take k)).1 (takes p (l.take k)).2 (l.getD k []) := by
  rw [List.take_succ_eq_append_getElem h, takes_snoc]; simp [h]

/-- the box of a running sum, as it stands -/
structure RunBox (w wr : World) (A B : Int) : Prop where
  c0 : wr.cell? ⟨w.heap.size, 0, none⟩ = some (.int .u32 A)
  c1 : wr.cell? ⟨w.heap.size, 1, none⟩ = some (.int .u32 B)
  f0 : wr.frozen? ⟨w.heap.size, 0, none⟩ = false
  f1 : wr.frozen? ⟨w.heap.size, 1, none⟩ = false
  bel : Below w.heap.size w wr
theorem RunBox.there {w wr w1 : World} {A B : Int} (h : RunBox w wr A B) (hb : Below wr.heap.size wr w1) : RunBox w w1 A B := by
  have hlt := World.block_lt_of_cell? wr _ h.c0
  exact { c0 := (hb.cell hlt).trans h.c0, c1 := (hb.cell (p := ⟨w.heap.size, 1, none⟩) hlt).trans h.c1, f0 := (hb.frozen hlt).trans h.f0, f1 := (hb.frozen (p := ⟨w.heap.size, 1, none⟩) hlt).trans h.f1, bel := h.bel.trans (hb.mono h.bel.size) }
theorem RunBox.put {w wr : World} {A B A' B' : Int} (h : RunBox w wr A B) : RunBox w ((wr.setCell ⟨w.heap.size, 0, none⟩ (.int .u32 A')).setCell ⟨w.heap.size, 1, none⟩ (.int .u32 B')) A' B' where
  c0 := by rw [World.cell?_setCell_other _ _ _ _ (by simp)]; exact World.cell?_setCell_same _ _ _ h.c0
  c1 := World.cell?_setCell_same _ _ _ (u := .int .u32 B) (by rw [World.cell?_setCell_other _ _ _ _ (by simp)]; exact h.c1)
  f0 := by simpa using h.f0
  f1 := by simpa using h.f1
  bel := (h.bel.setCell (Nat.le_refl _) _).setCell (Nat.le_refl _) _

/-- a row of texts in memory -/
structure TxtRow (w : World) (b off : Nat) (vs : List Value) (zss : List (List Int)) : Prop where
  len : vs.length = zss.length
  few : zss.length ≤ 9223372036854775807
  cell : ∀ k, k < zss.length → w.cell? ⟨b, off + k, none⟩ = some (vs.getD k undef)
  txt : ∀ k, k < zss.length → TxtAt w (vs.getD k undef) (zss.getD k [])
theorem TxtRow.below {w w' : World} {b off : Nat} {vs : List Value} {zss : List (List Int)} (h : TxtRow w b off vs zss) (hb : Below w.heap.size w w') : TxtRow w' b off vs zss :=
  ⟨h.len, h.few, fun k hk => (hb.cell (World.block_lt_of_cell? w _ (h.cell k hk))).trans (h.cell k hk), fun k hk => (h.txt k hk).below hb⟩
def valI (p : Int × Int) : Int := (p.2 * 65536 + p.1) % 4294967296

theorem sum_none (a : Option Addr) (cap : Nat) (w : World) :
    Calls Tryd.prog 40 #[.slice a 0 cap] w fun e w' => e = .returned (.int .u32 1) ∧ Below w.heap.size w w' := by
  go_enter Tryd.func40, Tryd.ntmps40
  go_wp2_with (go_at_call 61; refine (begin_any _).mono ?_; rintro e w1 ⟨rfl, hb1⟩)
  refine wp_loop_rounds 1 ?_
  rw [rounds_succ]
  go_wp2_with (go_at_call 63; refine (value_any 1 0 (by decide) (by decide) (by decide) (by decide) _).mono ?_; rintro e w2 ⟨rfl, hb2⟩)
  go_ret
  exact ⟨rfl, hb1.trans ((((Below.refl _ _).alloc (Nat.le_refl _) _).trans (hb2.mono (by simp))).mono hb1.size)⟩
set_option maxHeartbeats 1000000 in
theorem sum_some (b off cap : Nat) (vs : List Value) (zss : List (List Int)) (hl : 0 < zss.length) (w : World) (hz : TxtRow w b off vs zss) :
    Calls Tryd.prog 40 #[.slice (some ⟨b, off, none⟩) zss.length cap] w fun e w' => e = .returned (.int .u32 (valI (takes (1, 0) zss))) ∧ Below w.heap.size w w' := by
  have hlen := hz.few
  have HZ := Lib.hid hz
  clear hz
  go_enter Tryd.func40, Tryd.ntmps40
  go_wp2_with (go_at_call 61; refine (begin_any _).mono ?_; rintro e w1 ⟨rfl, hb1⟩)
  have H1 := Lib.hid hb1
  clear hb1
  go_loopw [9, 5] (fun i x wr => ∃ k : Nat, k ≤ zss.length ∧ i = .int .i64 k ∧ RunBox w1 wr (takes (1, 0) (zss.take k)).1 (takes (1, 0) (zss.take k)).2) (fun i _ _ => zss.length - (intOf i).toNat)
  case atStart => exact ⟨0, Nat.zero_le _, rfl, { c0 := by simp [takes, World.cell?_alloc_new], c1 := by simp [takes, World.cell?_alloc_new], f0 := by go_simp, f1 := by go_simp, bel := (by repeat (first | exact Below.refl _ _ | assumption | refine below_drewN ?_ _ | refine Below.drew ?_ | refine below_alloc ?_ _ | refine Below.alloc ?_ (by first | omega | (simp; done) | (simp; omega)) _ | refine Below.setCell ?_ (Below.size (by assumption)) _ | refine Below.setCell ?_ (by first | omega | (simp; done) | (simp; omega)) _ | (refine Below.trans ?_ (Below.mono (by assumption) (by first | omega | (simp; done) | (simp; omega)))) | refine below_next ?_ (by assumption))) }⟩
  case round =>
    obtain ⟨k, hk, rfl, hb⟩ := hrel
    obtain ⟨⟨p0, p1⟩, q0, q1⟩ := takes_bd (zss.take k) (1, 0) (by decide)
    by_cases hlt : k < zss.length
    · have hrow := HZ.out.below (H1.out.trans (hb.bel.mono H1.out.size))
      have hcell := hrow.cell k hlt
      have htxt := hrow.txt k hlt
      have hend := Lib.hid (takes_take_succ (1, 0) zss k hlt)
      have hc0 := hb.c0
      have hc1 := hb.c1
      have HB := Lib.hid hb
      clear hb hrow
      generalize (takes (1, 0) (zss.take k)).1 = P at *
      generalize (takes (1, 0) (zss.take k)).2 = Q at *
      generalize zss.getD k [] = zs at *
      generalize vs.getD k undef = v at *
      go_wp2_with fail
      refine (take_any P Q p0 q0 p1 q1 v zs _ htxt).mono ?_
      rintro e w2 ⟨rfl, hb2⟩
      have HB2 := HB.out.there hb2
      have HE := Lib.hid (HB2.put (A' := (takeI P Q zs).1) (B' := (takeI P Q zs).2))
      have e0 := HB2.c0
      have e1 := HB2.c1
      have e2 := HB2.f0
      have e3 := HB2.f1
      clear hc0 hc1 HB2 hb2
      go_wp2_with fail
      go_roundw
      case rel => exact ⟨k + 1, by omega, by go_num, by rw [hend.out]; exact HE.out⟩
      case measure => simp [intOf]; omega
    · have hkz := Lib.hid (show zss.take k = zss by rw [List.take_of_length_le (by omega)])
      have hc0 := hb.c0
      have hc1 := hb.c1
      have hbel := Lib.hid hb.bel
      clear hb
      go_wp2_with (go_at_call 63; refine (value_any _ _ p0 q0 p1 q1 _).mono ?_; rintro e w2 ⟨rfl, hb2⟩)
      go_ret
      rw [hkz.out]
      exact ⟨rfl, H1.out.trans ((hbel.out.trans (hb2.mono hbel.out.size)).mono H1.out.size)⟩

theorem mask_u32 (x : Int) (h0 : 0 ≤ x) (h1 : x ≤ 4294967295) : bits .and .u32 x 65535 = x % 65536 := by
  rw [u32_and x 65535 h0 (by omega) (by decide) (by decide)]
  rw [show (65535 : Int).toNat = 2 ^ 16 - 1 from rfl, Nat.and_two_pow_sub_one_eq_mod]
  omega
theorem mul_small {m x : Int} (h0 : 0 ≤ m) (h1 : m ≤ 65520) (x0 : 0 ≤ x) (x1 : x ≤ 65535) : 0 ≤ m * (x + 65520) ∧ m * (x + 65520) ≤ 65520 * 131055 :=
  ⟨Int.mul_nonneg h0 (by omega), Int.mul_le_mul h1 (by omega) (by omega) (by decide)⟩
end Go.Proofs.YtomhfnaekjmjnaaDoor
