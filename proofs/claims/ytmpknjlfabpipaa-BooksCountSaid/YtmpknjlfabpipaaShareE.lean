/- Contracts of Total, Decay and what they hand to each (share). No condition but lengths. -/
import Derived.Test.YtmpknjlfabpipaaShareRow
namespace Go.Proofs.Ytmpknjlfabpipaa
set_option linter.unusedVariables false
open Go.ChangeShapes Go.WideShapes Go.ChangeAt Go.RowKit
attribute [local go_sem ↓] Go.wp_at_zero Go.wp_at_succ comesTo_value_eq comesTo_skip_eq comesTo_enter_eq

/-- a slice of shares that came in, below block B -/
def SharesAt (w : World) (a : Option Addr) (B : Nat) (zs : List (Int × Int)) : Prop :=
  zs.length ≤ 1099511627776 ∧ (0 < zs.length → ∃ b off, a = some ⟨b, off, none⟩ ∧ b < B ∧ ShRow w b off zs)
theorem SharesAt.below {w w' : World} {a : Option Addr} {B q : Nat} {zs : List (Int × Int)} (h : SharesAt w a B zs) (hb : Below q w w') (hq : B ≤ q) : SharesAt w' a B zs :=
  ⟨h.1, fun h0 => by
    obtain ⟨b, off, h1, h2, h3⟩ := h.2 h0
    exact ⟨b, off, h1, h2, fun k hk => (hb.cell (p := ⟨b, off + k * 2, none⟩) (by show b < q; omega)).trans (h3.c0 k hk), fun k hk => (hb.cell (p := ⟨b, off + k * 2 + 1, none⟩) (by show b < q; omega)).trans (h3.c1 k hk)⟩⟩
def totI (n h : Int) (l : List (Int × Int)) : Int := l.foldl (fun s x => cntI (s + (atI x.1 x.2 n h).1)) 0
theorem totI_succ (n h : Int) (l : List (Int × Int)) (k : Nat) (hk : k < l.length) : totI n h (l.take (k + 1)) = cntI (totI n h (l.take k) + (atI (l.getD k (0, 0)).1 (l.getD k (0, 0)).2 n h).1) := by
  rw [List.take_succ_eq_append_getElem hk]
  unfold totI
  rw [List.foldl_append]
  simp [List.getD, hk]
theorem totI_bd (n h : Int) (l : List (Int × Int)) (k : Nat) : 0 ≤ totI n h (l.take k) ∧ totI n h (l.take k) ≤ 1125899906842624 := by
  induction k with
  | zero => simp [totI]
  | succ k ih =>
    by_cases hk : k < l.length
    · rw [totI_succ n h l k hk]; exact cntI_bd _
    · rw [List.take_of_length_le (by omega)]; rw [List.take_of_length_le (by omega)] at ih; exact ih
set_option maxHeartbeats 1000000 in
theorem tot1_any (u s A : Int) (q : Nat) (u0 : 0 ≤ u) (u1 : u ≤ 1125899906842624) (A0 : 0 ≤ A) (A1 : A ≤ 1125899906842624) (w : World) (hc : w.cell? ⟨q, 0, none⟩ = some (.int .i64 A)) (hf : w.frozen? ⟨q, 0, none⟩ = false) :
    Calls Try.prog 42 #[.agg #[.int .i64 u, .int .i64 s], .pointer (some ⟨q, 0, none⟩)] w fun e w' => e = .returned (.tuple #[]) ∧ Below q w w' ∧ w'.cell? ⟨q, 0, none⟩ = some (.int .i64 (cntI (A + u))) ∧ w'.frozen? ⟨q, 0, none⟩ = false := by
  have hq := World.block_lt_of_cell? _ _ hc
  have hq2 : q < w.heap.size := hq
  go_enter Try.func42, Try.ntmps42
  go_wp2_with (go_at_call 43; refine (counts_any _ _).mono ?_; rintro e w' ⟨rfl, rfl⟩)
  go_end0
  refine ⟨rfl, ?_, by go_simp, by go_simp⟩
  exact ((Below.refl q w).setCell (Nat.le_refl _) _).alloc (by simp [World.setCell]; omega) _
set_option maxRecDepth 100000 in
set_option maxHeartbeats 4000000 in
theorem each_total (a : Option Addr) (cap : Nat) (zs : List (Int × Int)) (n h : Int) (q B : Nat) (hB : B ≤ q) (w : World) (hz : SharesAt w a B zs) (hc : w.cell? ⟨q, 0, none⟩ = some (.int .i64 0)) (hf : w.frozen? ⟨q, 0, none⟩ = false) :
    Calls Try.prog 41 #[.slice a zs.length cap, .int .i64 n, .int .i64 h, .func (.func 42) #[] #[.pointer (some ⟨q, 0, none⟩)]] w fun e w' => e = .returned (.tuple #[]) ∧ Below q w w' ∧ w'.cell? ⟨q, 0, none⟩ = some (.int .i64 (totI n h zs)) := by
  have hlen := hz.1
  have HZ := Lib.hid hz
  have h0 := Lib.hid (And.intro hc hf)
  clear hz hc hf
  go_enter Try.func41, Try.ntmps41
  go_wp2_with fail
  go_loopw [12] (fun i wr => ∃ k : Nat, k ≤ zs.length ∧ i = .int .i64 k ∧ wr.cell? ⟨q, 0, none⟩ = some (.int .i64 (totI n h (zs.take k))) ∧ wr.frozen? ⟨q, 0, none⟩ = false ∧ Below q w wr) (fun i _ => zs.length - (intOf i).toNat)
  case atStart => exact ⟨0, Nat.zero_le _, rfl, h0.out.1, h0.out.2, Below.refl _ _⟩
  case round =>
    obtain ⟨k, hk, rfl, hc, hf, hbel⟩ := hrel
    by_cases hlt : k < zs.length
    · have hz := HZ.out.below hbel hB
      obtain ⟨b, off, rfl, hbB, hrow⟩ := hz.2 (by omega)
      have hc0 := hrow.c0 k hlt
      have hc1 := hrow.c1 k hlt
      have hltI : (k : Int) < (zs.length : Int) := by omega
      have hlo : (0 : Int) ≤ (k : Int) := by omega
      have hs := Lib.hid (totI_succ n h zs k hlt)
      have hbd := totI_bd n h zs k
      have hA := (atI_bd (zs.getD k (0, 0)).1 (zs.getD k (0, 0)).2 n h).1
      have HBel := Lib.hid hbel
      have lq : q < wr.heap.size := World.block_lt_of_cell? _ _ hc
      clear hz hrow hbel hk
      generalize totI n h (zs.take k) = A at *
      generalize (zs.getD k (0, 0)).1 = u at *
      generalize (zs.getD k (0, 0)).2 = s at *
      have kA := Lib.hid (fun W => at_any u s n h W)
      generalize (atI u s n h).1 = P1 at *
      generalize (atI u s n h).2 = P2 at *
      go_wp2_with fail
      refine (kA.out _).mono ?_
      rintro e w2 ⟨rfl, hb2⟩
      obtain ⟨g1, g2⟩ := bcell hb2
      have hc2 : w2.cell? ⟨q, 0, none⟩ = some (.int .i64 A) := (g1 _ 0 (by simp; omega)).trans (by go_simp)
      have hf2 : w2.frozen? ⟨q, 0, none⟩ = false := (g2 _ 0 (by simp; omega)).trans (by go_simp)
      have HB2 := Lib.hid (show Below q w w2 from HBel.out.trans (((Below.refl q _).alloc (by omega) _).trans (hb2.mono (by simp; omega))))
      clear g1 g2 hc hf hb2 hc0 hc1
      go_wp2_with fail
      refine (tot1_any _ _ A q hA.1 hA.2 hbd.1 hbd.2 _ hc2 hf2).mono ?_
      rintro e w3 ⟨rfl, hb3, hc3, hf3⟩
      have HB3 := Lib.hid (HB2.out.trans hb3)
      clear hb3 hc2 hf2
      go_wp2_with fail
      go_roundw
      case rel => exact ⟨k + 1, by omega, by go_num, by rw [hs.out]; exact hc3, hf3, HB3.out⟩
      case measure => simp [intOf]; omega
    · have hkz := Lib.hid (show zs.take k = zs by rw [List.take_of_length_le (by omega)])
      go_wp2_with fail
      go_end0
      exact ⟨rfl, hbel, by rw [← hkz.out]; exact hc⟩
theorem fits_mem {w : World} {a : Option Addr} {zs : List (Int × Int)} (hl : zs.length ≤ 1099511627776) (h : 0 < zs.length → ∃ b off, a = some ⟨b, off, none⟩ ∧ ShRow w b off zs) : SharesAt w a w.heap.size zs :=
  ⟨hl, fun h0 => by obtain ⟨b, off, h1, h2⟩ := h h0; exact ⟨b, off, h1, World.block_lt_of_cell? _ _ (h2.c0 0 h0), h2⟩⟩
set_option maxHeartbeats 1000000 in
theorem total_any (a : Option Addr) (cap : Nat) (zs : List (Int × Int)) (n h : Int) (w : World) (hz : SharesAt w a w.heap.size zs) :
    Calls Try.prog 30 #[.slice a zs.length cap, .int .i64 n, .int .i64 h] w fun e w' => e = .returned (.int .i64 (totI n h zs)) ∧ Below w.heap.size w w' := by
  have HZ := Lib.hid hz
  clear hz
  go_enter Try.func30, Try.ntmps30
  go_wp2_with fail
  refine (each_total a cap zs n h w.heap.size w.heap.size (Nat.le_refl _) _ (HZ.out.below (q := w.heap.size) ((Below.refl _ _).alloc (Nat.le_refl _) _) (Nat.le_refl _)) (by go_simp) (by go_simp)).mono ?_
  rintro e w1 ⟨rfl, hb1, hc1⟩
  have HB := Lib.hid (show Below w.heap.size w w1 from ((Below.refl _ _).alloc (Nat.le_refl _) _).trans hb1)
  clear hb1
  go_wp2_with fail
  go_ret
  exact ⟨rfl, HB.out⟩
def decI (n h : Int) (l : List (Int × Int)) : List (Int × Int) := l.map fun x => atI x.1 x.2 n h
theorem decI_succ (n h : Int) (l : List (Int × Int)) (k : Nat) (hk : k < l.length) : decI n h (l.take (k + 1)) = decI n h (l.take k) ++ [atI (l.getD k (0, 0)).1 (l.getD k (0, 0)).2 n h] := by
  rw [List.take_succ_eq_append_getElem hk]
  unfold decI
  rw [List.map_append]
  simp [List.getD, hk]
theorem decI_len (n h : Int) (l : List (Int × Int)) : (decI n h l).length = l.length := by simp [decI]
end Go.Proofs.Ytmpknjlfabpipaa
