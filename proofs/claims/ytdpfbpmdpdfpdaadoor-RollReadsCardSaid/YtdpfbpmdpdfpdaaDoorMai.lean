/- Laws that belong together: Contracts of sets of nodes (layer 7, bits): Lowest, Take. Condition: math/bits' table of trailing zeros lies as its text lays it.; Contracts of a drain (layer 21, roll): On, Over, Next, Hold, Back, Right. Condition: math/bits' table of trailing zeros lies as its text lays it (Next).; Contracts of a drain (layer 21, roll): Next, Right. Condition: math/bits' table of trailing zeros lies as its text lays it (Next).; The contract of Right (layer 21, roll) where one is right. No condition beyond that.; Is a drain right: at any numbers. No condition.; bits.Of; what the known drain comes to (one). Condition: math/bits' table of trailing zeros lies as its text lays it.; Where the row's variables are laid, math/bits' table of trailing zeros lies as its text lays it. -/
import Derived.Test.YtdpfbpmdpdfpdaaDoorMah
import Derived.Shelf.Spec.TrailingZeros
import Derived.Deep.DeepHandedRow
import Derived.Lib.LaidTab
import Derived.Deep.RegionWith
import Derived.Test.YtdpfbpmdpdfpdaaDoorMam
namespace Go.Proofs.YtdpfbpmdpdfpdaaDoor
set_option linter.unusedVariables false
open Go.ChangeShapes Go.WideShapes Go.ChangeAt Go.RowKit Go.Shelf
attribute [local go_sem ↓] Go.wp_at_zero Go.wp_at_succ comesTo_value_eq comesTo_skip_eq comesTo_enter_eq

/-- the table of trailing zeros lies as its text lays it -/
def TabZ (w : World) : Prop := 1 < w.heap.size ∧ TabAt 1 Lib.deBruijn64tab w
theorem TabZ.below {w w' : World} (h : TabZ w) (hb : Below w.heap.size w w') : TabZ w' :=
  ⟨Nat.lt_of_lt_of_le h.1 hb.size, fun j hj => (hb.cell (p := ⟨_, j, none⟩) h.1).trans (h.2 j hj)⟩

theorem tz_core (x : Int) (i k : Nat) (w : World) (h0 : (x == 0) = false) (hkey : IntKind.u64.wrap (bits BinOp.and IntKind.u64 x (IntKind.u64.wrap (-x)) * 285870213051353865) / 288230376151711744 = (i : Int)) (hi : i < 64) (hk : k < 64)
    (hcell : w.cell? ⟨1, i, none⟩ = some (.int .u8 k)) :
    Calls Tryd.prog 107 #[.int .u64 x] w fun e w' => e = .returned (.int .i64 k) ∧ w = w' := by
  have hi2 : (i : Int) < 64 := by omega
  have hk2 : (k : Int) < 64 := by omega
  go_enter Tryd.func107, Tryd.ntmps107
  go_wp2
  go_ret
  exact ⟨rfl, rfl⟩
theorem tz_any (s : NSet) (hs : s ≠ 0#64) (w : World) (hT : TabZ w) :
    Calls Tryd.prog 107 #[.int .u64 (nv s)] w fun e w' => e = .returned (.int .i64 (lowN s)) ∧ w = w' := by
  have h0 : s.toNat ≠ 0 := fun e => hs (BitVec.eq_of_toNat_eq (by simpa using e))
  obtain ⟨hlow, hk⟩ := Lib.lowest_bit 64 s.toNat h0 s.isLt
  obtain ⟨hi, htab⟩ := Lib.deBruijn64_at _ hk
  have hcell := hT.2 _ hi
  rw [htab] at hcell
  have hb : (nv s == 0) = false := by rw [nv_is0]; simpa using hs
  exact tz_core (nv s) _ (Lib.ctz 64 s.toNat) w hb (tz64_key s.toNat _ s.isLt h0 hlow) (by simpa using hi) hk hcell
theorem lowest_any (s : NSet) (w : World) (hT : TabZ w) :
    Calls Tryd.prog 98 #[.int .u64 (nv s)] w fun e w' => e = .returned (.int .i64 (lowI s)) ∧ w = w' := by
  by_cases hs : s = 0#64
  · have hb : (nv s == 0) = true := by rw [nv_is0]; simpa using hs
    have e : lowI s = -1 := by unfold lowI; rw [if_pos hs]
    rw [e]
    clear hs e
    go_enter Tryd.func98, Tryd.ntmps98
    go_wp2
    go_ret
    exact ⟨rfl, rfl⟩
  · have hb : (nv s == 0) = false := by rw [nv_is0]; simpa using hs
    have e : lowI s = (lowN s : Int) := by unfold lowI; rw [if_neg hs]
    have K := Lib.hid (tz_any s hs w hT)
    rw [e]
    clear hs e hT
    go_enter Tryd.func98, Tryd.ntmps98
    go_wp2_with (go_at_call 107; refine K.out.mono ?_; rintro e w' ⟨rfl, rfl⟩)
    go_ret
    exact ⟨rfl, rfl⟩
/-- what Take tells -/
def takeS (s : NSet) (n : Int) : NSet := if (card s : Int) < n then 0#64 else tk n.toNat s
theorem take_no (s : NSet) (n : Int) (w : World) (h : (card s : Int) < n) :
    Calls Tryd.prog 90 #[.int .u64 (nv s), .int .i64 n] w fun e w' => e = .returned (.tuple #[.int .u64 0, .bool false]) ∧ w = w' := by
  have k1 := Lib.hid (fun W => blen_any s W)
  generalize (card s : Int) = c at *
  go_enter Tryd.func90, Tryd.ntmps90
  go_wp2_with (go_at_call 30; refine (k1.out _).mono ?_; rintro e w' ⟨rfl, rfl⟩)
  go_ret2
  exact ⟨rfl, rfl⟩
theorem take_yes (s : NSet) (n : Int) (w : World) (hT : TabZ w) (h : n ≤ (card s : Int)) (hn : -9223372036854775808 ≤ n) :
    Calls Tryd.prog 90 #[.int .u64 (nv s), .int .i64 n] w fun e w' => e = .returned (.tuple #[.int .u64 (nv (tk n.toNat s)), .bool true]) ∧ w = w' := by
  have k1 := Lib.hid (fun W => blen_any s W)
  have hc : (card s : Int) ≤ 64 := by have := card_le s; omega
  have HT := Lib.hid hT
  clear hT
  generalize (card s : Int) = c at *
  go_enter Tryd.func90, Tryd.ntmps90
  go_wp2_with (go_at_call 30; refine (k1.out _).mono ?_; rintro e w' ⟨rfl, rfl⟩)
  go_loop [1, 6] (fun i t => ∃ k : Nat, (k : Int) ≤ max n 0 ∧ i = .int .i64 (n - k) ∧ t = .int .u64 (nv (tk k s))) (fun i _ => (intOf i).toNat)
  case atStart => exact ⟨0, by omega, by simp, rfl⟩
  case round =>
    obtain ⟨k, hk, rfl, rfl⟩ := hrel
    by_cases hlt : 0 < n - k
    · have hlo : 1 ≤ n - (k : Int) := by omega
      have hhi : n - (k : Int) ≤ 64 := by omega
      have e : tk (k + 1) s = tk k s ||| oneI (lowI (s &&& ~~~ tk k s)) := rfl
      have KA := Lib.hid (fun W => bless_any s (tk k s) W)
      have KL := Lib.hid (lowest_any (s &&& ~~~ tk k s) w HT.out)
      have KW := Lib.hid (fun W => with_any (tk k s) (lowI (s &&& ~~~ tk k s)) W)
      rw [← e] at KW
      have E := Lib.hid e
      clear e
      generalize tk (k + 1) s = T2 at *
      go_wp2_with fail
      refine (KA.out _).mono ?_
      rintro e w' ⟨rfl, rfl⟩
      go_wp2_with fail
      refine KL.out.mono ?_
      rintro e w' ⟨rfl, rfl⟩
      go_wp2_with fail
      refine (KW.out _).mono ?_
      rintro e w' ⟨rfl, rfl⟩
      go_wp2_with fail
      go_round
      case rel => exact ⟨k + 1, by omega, by go_num, by rw [E.out]; rfl⟩
      case measure => simp [intOf]; omega
    · go_wp2
      go_ret2
      have hk' : n.toNat = k := by omega
      exact ⟨by rw [hk']; rfl, rfl⟩
theorem take_any (s : NSet) (n : Int) (w : World) (hT : TabZ w) (hn : -9223372036854775808 ≤ n) :
    Calls Tryd.prog 90 #[.int .u64 (nv s), .int .i64 n] w fun e w' => e = .returned (.tuple #[.int .u64 (nv (takeS s n)), .bool (decide (n ≤ (card s : Int)))]) ∧ w = w' := by
  unfold takeS
  by_cases h : (card s : Int) < n
  · rw [if_pos h, show decide (n ≤ (card s : Int)) = false by simp; omega, nv_zero]
    exact take_no s n w h
  · rw [if_neg h, show decide (n ≤ (card s : Int)) = true by simp; omega]
    exact take_yes s n w hT (by omega) hn
end Go.Proofs.YtdpfbpmdpdfpdaaDoor
namespace Go.Proofs.YtdpfbpmdpdfpdaaDoor
set_option linter.unusedVariables false
open Go.ChangeShapes Go.WideShapes Go.ChangeAt Go.RowKit Go.Shelf
attribute [local go_sem ↓] Go.wp_at_zero Go.wp_at_succ comesTo_value_eq comesTo_skip_eq comesTo_enter_eq

theorem rollon_any (W F : Int) (D H : NSet) (n : Int) (w : World) :
    Calls Tryd.prog 89 #[.agg #[.int .i64 W, .int .i64 F, .int .u64 (nv D), .int .u64 (nv H)], .int .i64 n] w fun e w' => e = .returned (.bool (decide (F ≤ n))) ∧ Below w.heap.size w w' := by
  go_enter Tryd.func89, Tryd.ntmps89
  go_wp2
  go_ret
  exact ⟨rfl, (by repeat (first | exact Below.refl _ _ | assumption | refine below_drewN ?_ _ | refine Below.drew ?_ | refine below_alloc ?_ _ | refine Below.alloc ?_ (by first | omega | (simp; done) | (simp; omega)) _ | refine Below.setCell ?_ (Below.size (by assumption)) _ | refine Below.setCell ?_ (by first | omega | (simp; done) | (simp; omega)) _ | (refine Below.trans ?_ (Below.mono (by assumption) (by first | omega | (simp; done) | (simp; omega)))) | refine below_next ?_ (by assumption)))⟩
set_option maxRecDepth 100000 in
theorem hold_any (W F : Int) (D H s : NSet) (w : World) :
    Calls Tryd.prog 53 #[.agg #[.int .i64 W, .int .i64 F, .int .u64 (nv D), .int .u64 (nv H)], .int .u64 (nv s)] w fun e w' => e = .returned (.agg #[.int .i64 W, .int .i64 F, .int .u64 (nv D), .int .u64 (nv (H ||| s))]) ∧ Below w.heap.size w w' := by
  go_enter Tryd.func53, Tryd.ntmps53
  go_wp2_with (go_at_call 83; refine (or_any _ _ _).mono ?_; rintro e w' ⟨rfl, rfl⟩)
  exact bodyPost_ret (v := .agg #[.int .i64 W, .int .i64 F, .int .u64 (nv D), .int .u64 (nv (H ||| s))]) (by simp only [results, Tryd.results53]; go_simp) rfl ⟨rfl, (by repeat (first | exact Below.refl _ _ | assumption | refine below_drewN ?_ _ | refine Below.drew ?_ | refine below_alloc ?_ _ | refine Below.alloc ?_ (by first | omega | (simp; done) | (simp; omega)) _ | refine Below.setCell ?_ (Below.size (by assumption)) _ | refine Below.setCell ?_ (by first | omega | (simp; done) | (simp; omega)) _ | (refine Below.trans ?_ (Below.mono (by assumption) (by first | omega | (simp; done) | (simp; omega)))) | refine below_next ?_ (by assumption)))⟩
/-- one comes back -/
def backH (H : NSet) (n : Int) : NSet := if hasI H n = true then H &&& ~~~oneI n else H
def backD (D H : NSet) (n : Int) : NSet := if hasI H n = true then D ||| oneI n else D
set_option maxRecDepth 100000 in
set_option maxHeartbeats 1000000 in
theorem back_any (W F : Int) (D H : NSet) (n : Int) (w : World) :
    Calls Tryd.prog 54 #[.agg #[.int .i64 W, .int .i64 F, .int .u64 (nv D), .int .u64 (nv H)], .int .i64 n] w fun e w' => e = .returned (.agg #[.int .i64 W, .int .i64 F, .int .u64 (nv (backD D H n)), .int .u64 (nv (backH H n))]) ∧ Below w.heap.size w w' := by
  have k1 := Lib.hid (fun W => has_any H n W)
  unfold backD backH
  cases h : hasI H n with
  | false =>
    rw [h] at k1
    rw [if_neg (by decide), if_neg (by decide)]
    clear h
    go_enter Tryd.func54, Tryd.ntmps54
    go_wp2_with (go_at_call 92; refine (k1.out _).mono ?_; rintro e w' ⟨rfl, rfl⟩)
    exact bodyPost_ret (v := .agg #[.int .i64 W, .int .i64 F, .int .u64 (nv D), .int .u64 (nv H)]) (by simp only [results, Tryd.results54]; go_simp) rfl ⟨rfl, (by repeat (first | exact Below.refl _ _ | assumption | refine below_drewN ?_ _ | refine Below.drew ?_ | refine below_alloc ?_ _ | refine Below.alloc ?_ (by first | omega | (simp; done) | (simp; omega)) _ | refine Below.setCell ?_ (Below.size (by assumption)) _ | refine Below.setCell ?_ (by first | omega | (simp; done) | (simp; omega)) _ | (refine Below.trans ?_ (Below.mono (by assumption) (by first | omega | (simp; done) | (simp; omega)))) | refine below_next ?_ (by assumption)))⟩
  | true =>
    rw [h] at k1
    rw [if_pos rfl, if_pos rfl]
    clear h
    have k2 := Lib.hid (fun W => without_any H n W)
    have k3 := Lib.hid (fun W => with_any D n W)
    generalize H &&& ~~~oneI n = H2 at *
    generalize D ||| oneI n = D2 at *
    go_enter Tryd.func54, Tryd.ntmps54
    go_wp2_with (go_at_call 92; refine (k1.out _).mono ?_; rintro e w' ⟨rfl, rfl⟩)
    go_region_with (first | (go_at_call 93; refine (k2.out _).mono ?_; rintro e w' ⟨rfl, rfl⟩) | (go_at_call 91; refine (k3.out _).mono ?_; rintro e w' ⟨rfl, rfl⟩))
    all_goals go_wp2
    all_goals exact bodyPost_ret (v := .agg #[.int .i64 W, .int .i64 F, .int .u64 (nv D2), .int .u64 (nv H2)]) (by simp only [results, Tryd.results54]; go_simp) rfl ⟨rfl, (by repeat (first | exact Below.refl _ _ | assumption | refine below_drewN ?_ _ | refine Below.drew ?_ | refine below_alloc ?_ _ | refine Below.alloc ?_ (by first | omega | (simp; done) | (simp; omega)) _ | refine Below.setCell ?_ (Below.size (by assumption)) _ | refine Below.setCell ?_ (by first | omega | (simp; done) | (simp; omega)) _ | (refine Below.trans ?_ (Below.mono (by assumption) (by first | omega | (simp; done) | (simp; omega)))) | refine below_next ?_ (by assumption)))⟩
end Go.Proofs.YtdpfbpmdpdfpdaaDoor
namespace Go.Proofs.YtdpfbpmdpdfpdaaDoor
set_option linter.unusedVariables false
open Go.ChangeShapes Go.WideShapes Go.ChangeAt Go.RowKit Go.Shelf
attribute [local go_sem ↓] Go.wp_at_zero Go.wp_at_succ comesTo_value_eq comesTo_skip_eq comesTo_enter_eq

def minZ (x y : Int) : Int := if y < x then y else x
theorem run_minZ {P : Program} (w : World) (ts : Array TypeId) (t : TypeId) (k k' : IntKind) (x y : Int) : (Builtin.min_ ts t #[.int k x, .int k' y]).run P w = .ok (.int k (minZ x y)) w := run_min_int2 w ts t k k' x y
attribute [local go_sem high] run_minZ

theorem next_late (W F : Int) (D H : NSet) (n : Int) (I : NSet) (w : World) (h : n < F) :
    Calls Tryd.prog 51 #[.agg #[.int .i64 W, .int .i64 F, .int .u64 (nv D), .int .u64 (nv H)], .int .i64 n, .int .u64 (nv I)] w fun e w' => e = .returned (.int .u64 0) ∧ Below w.heap.size w w' := by
  have hd : decide (F ≤ n) = false := by simp; omega
  have k1 := Lib.hid (fun W' => blen_any H W')
  have k2 := Lib.hid (fun W' => rollon_any W F D H n W')
  rw [hd] at k2
  clear hd h
  generalize (card H : Int) = c at *
  go_enter Tryd.func51, Tryd.ntmps51
  go_wp2_with fail
  refine (k1.out _).mono ?_
  rintro e w1 ⟨rfl, rfl⟩
  go_wp2_with fail
  refine (k2.out _).mono ?_
  rintro e w1 ⟨rfl, hb1⟩
  have HB := Lib.hid (show Below w.heap.size w w1 from Below.trans (by exact (by repeat (first | exact Below.refl _ _ | assumption | refine below_drewN ?_ _ | refine Below.drew ?_ | refine below_alloc ?_ _ | refine Below.alloc ?_ (by first | omega | (simp; done) | (simp; omega)) _ | refine Below.setCell ?_ (Below.size (by assumption)) _ | refine Below.setCell ?_ (by first | omega | (simp; done) | (simp; omega)) _ | (refine Below.trans ?_ (Below.mono (by assumption) (by first | omega | (simp; done) | (simp; omega)))) | refine below_next ?_ (by assumption)))) (hb1.mono (by simp)))
  clear hb1
  go_wp2
  go_ret
  exact ⟨rfl, HB.out⟩
theorem next_full (W F : Int) (D H : NSet) (n : Int) (I : NSet) (w : World) (h : F ≤ n) (hc : W ≤ (card H : Int)) :
    Calls Tryd.prog 51 #[.agg #[.int .i64 W, .int .i64 F, .int .u64 (nv D), .int .u64 (nv H)], .int .i64 n, .int .u64 (nv I)] w fun e w' => e = .returned (.int .u64 0) ∧ Below w.heap.size w w' := by
  have hd : decide (F ≤ n) = true := by simp; omega
  have k1 := Lib.hid (fun W' => blen_any H W')
  have k2 := Lib.hid (fun W' => rollon_any W F D H n W')
  rw [hd] at k2
  clear hd h
  generalize (card H : Int) = c at *
  go_enter Tryd.func51, Tryd.ntmps51
  go_wp2_with fail
  refine (k1.out _).mono ?_
  rintro e w1 ⟨rfl, rfl⟩
  go_wp2_with fail
  refine (k2.out _).mono ?_
  rintro e w1 ⟨rfl, hb1⟩
  obtain ⟨hc', hf⟩ := bcell hb1
  have a0 : w1.cell? ⟨w.heap.size, 0, none⟩ = some (.int .i64 W) := (hc' _ 0 (by simp)).trans (by go_simp)
  have HB := Lib.hid (show Below w.heap.size w w1 from Below.trans (by exact (by repeat (first | exact Below.refl _ _ | assumption | refine below_drewN ?_ _ | refine Below.drew ?_ | refine below_alloc ?_ _ | refine Below.alloc ?_ (by first | omega | (simp; done) | (simp; omega)) _ | refine Below.setCell ?_ (Below.size (by assumption)) _ | refine Below.setCell ?_ (by first | omega | (simp; done) | (simp; omega)) _ | (refine Below.trans ?_ (Below.mono (by assumption) (by first | omega | (simp; done) | (simp; omega)))) | refine below_next ?_ (by assumption)))) (hb1.mono (by simp)))
  clear hb1 hc' hf
  go_wp2
  go_ret
  exact ⟨rfl, HB.out⟩
set_option maxRecDepth 100000 in
set_option maxHeartbeats 1000000 in
theorem next_goes (W F : Int) (D H : NSet) (n : Int) (I : NSet) (w : World) (hT : TabZ w) (h : F ≤ n) (hc : (card H : Int) < W) (hW : W ≤ 9223372036854775807) :
    Calls Tryd.prog 51 #[.agg #[.int .i64 W, .int .i64 F, .int .u64 (nv D), .int .u64 (nv H)], .int .i64 n, .int .u64 (nv I)] w fun e w' => e = .returned (.int .u64 (nv (tk (minZ (W - card H) (card (I &&& ~~~(D ||| H)))).toNat (I &&& ~~~(D ||| H))))) ∧ Below w.heap.size w w' := by
  have hd : decide (F ≤ n) = true := by simp; omega
  have k1 := Lib.hid (fun W' => blen_any H W')
  have k2 := Lib.hid (fun W' => rollon_any W F D H n W')
  rw [hd] at k2
  have k3 := Lib.hid (fun W' => or_any D H W')
  have k4 := Lib.hid (fun W' => bless_any I (D ||| H) W')
  generalize I &&& ~~~(D ||| H) = M at *
  generalize D ||| H = DH at *
  have k5 := Lib.hid (fun W' => blen_any M W')
  have hm := card_le M
  have hH := card_le H
  have hle : minZ (W - card H) (card M) ≤ (card M : Int) := by unfold minZ; split <;> omega
  have hlo : 0 ≤ minZ (W - card H) (card M) := by unfold minZ; split <;> omega
  have k6 := Lib.hid (fun W' hT' => take_yes M (minZ (W - card H) (card M)) W' hT' hle (by omega))
  have hcI : 0 ≤ (card H : Int) ∧ (card H : Int) ≤ 64 := by omega
  have hmI : 0 ≤ (card M : Int) ∧ (card M : Int) ≤ 64 := by omega
  have HT := Lib.hid hT
  clear hd h hT hle hlo
  generalize tk (minZ (W - card H) (card M)).toNat M = R at *
  generalize (card H : Int) = c at *
  generalize (card M : Int) = m at *
  go_enter Tryd.func51, Tryd.ntmps51
  go_wp2_with fail
  refine (k1.out _).mono ?_
  rintro e w1 ⟨rfl, rfl⟩
  go_wp2_with fail
  refine (k2.out _).mono ?_
  rintro e w1 ⟨rfl, hb1⟩
  obtain ⟨hc', hf⟩ := bcell hb1
  have a0 : w1.cell? ⟨w.heap.size, 0, none⟩ = some (.int .i64 W) := (hc' _ 0 (by simp)).trans (by go_simp)
  have a2 : w1.cell? ⟨w.heap.size, 2, none⟩ = some (.int .u64 (nv D)) := (hc' _ 2 (by simp)).trans (by go_simp)
  have a3 : w1.cell? ⟨w.heap.size, 3, none⟩ = some (.int .u64 (nv H)) := (hc' _ 3 (by simp)).trans (by go_simp)
  have HB := Lib.hid (show Below w.heap.size w w1 from Below.trans (by exact (by repeat (first | exact Below.refl _ _ | assumption | refine below_drewN ?_ _ | refine Below.drew ?_ | refine below_alloc ?_ _ | refine Below.alloc ?_ (by first | omega | (simp; done) | (simp; omega)) _ | refine Below.setCell ?_ (Below.size (by assumption)) _ | refine Below.setCell ?_ (by first | omega | (simp; done) | (simp; omega)) _ | (refine Below.trans ?_ (Below.mono (by assumption) (by first | omega | (simp; done) | (simp; omega)))) | refine below_next ?_ (by assumption)))) (hb1.mono (by simp)))
  have l0 : w.heap.size < w1.heap.size := World.block_lt_of_cell? w1 _ a0
  clear hb1 hc' hf k1 k2
  go_wp2_with fail
  refine (k3.out _).mono ?_
  rintro e w2 ⟨rfl, rfl⟩
  go_wp2_with fail
  refine (k4.out _).mono ?_
  rintro e w2 ⟨rfl, rfl⟩
  go_wp2_with fail
  have q1 : IntKind.i64.wrap (W - c) = W - c := IntWalk.i64_in _ (by omega)
  refine wp_region_boxes w1 (by kernel_rfl) (by kernel_rfl) (Below.refl _ _) ?_
  (refine textB_det ?_ rfl rfl ?_ (fun W hS => ?_) ?_; rotate_left; (focus go_simp); (focus (obtain ⟨hc, hf⟩ := bcell hS; go_simp; first | (refine ⟨?_, Below.refl _ _⟩; rfl) | rfl | exact Below.refl _ _)); (try go_simp))
  (refine textB_det ?_ rfl rfl ?_ (fun W hS => ?_) ?_; rotate_left; (focus go_simp); (focus (obtain ⟨hc, hf⟩ := bcell hS; go_simp; first | (refine ⟨?_, Below.refl _ _⟩; rfl) | rfl | exact Below.refl _ _)); (try go_simp))
  (refine textB_det ?_ rfl rfl ?_ (fun W hS => ?_) ?_; rotate_left; (focus go_simp); (focus (obtain ⟨hc, hf⟩ := bcell hS; go_simp; first | (refine ⟨?_, Below.refl _ _⟩; rfl) | rfl | exact Below.refl _ _)); (try go_simp))
  (refine textB_det ?_ rfl rfl ?_ (fun W hS => ?_) ?_; rotate_left; (focus go_simp); (focus (obtain ⟨hc, hf⟩ := bcell hS; go_simp; first | (refine ⟨?_, Below.refl _ _⟩; rfl) | rfl | exact Below.refl _ _)); (try go_simp))
  (refine textB_det ?_ rfl rfl ?_ (fun W hS => ?_) ?_; rotate_left; (focus go_simp); (focus (obtain ⟨hc, hf⟩ := bcell hS; go_simp; first | (refine ⟨?_, Below.refl _ _⟩; rfl) | rfl | exact Below.refl _ _)); (try go_simp))
  (refine textB_det ?_ rfl rfl ?_ (fun W hS => ?_) ?_; rotate_left; (focus go_simp); (focus (obtain ⟨hc, hf⟩ := bcell hS; go_simp; first | (refine ⟨?_, Below.refl _ _⟩; rfl) | rfl | exact Below.refl _ _)); (try go_simp))
  (refine textB_det ?_ rfl rfl ?_ (fun W hS => ?_) ?_; rotate_left; (focus go_simp); (focus (obtain ⟨hc, hf⟩ := bcell hS; go_simp; refine (k5.out _).mono ?_; rintro e w1 ⟨rfl, rfl⟩; refine ⟨?_, Below.refl _ _⟩; rfl)); (try go_simp))
  (refine textB_det ?_ rfl rfl ?_ (fun W hS => ?_) ?_; rotate_left; (focus go_simp); (focus (obtain ⟨hc, hf⟩ := bcell hS; go_simp; first | (refine ⟨?_, Below.refl _ _⟩; rfl) | rfl | exact Below.refl _ _)); (try go_simp))
  (refine textB_det ?_ rfl rfl ?_ (fun W hS => ?_) ?_; rotate_left; (focus go_simp); (focus (obtain ⟨hc, hf⟩ := bcell hS; go_simp; refine (k6.out _ (HT.out.below (HB.out.trans (hS.mono HB.out.size)))).mono ?_; rintro e w1 ⟨rfl, rfl⟩; refine ⟨?_, Below.refl _ _⟩; rfl)); (try go_simp))
  (refine textB_det ?_ rfl rfl ?_ (fun W hS => ?_) ?_; rotate_left; (focus go_simp); (focus (obtain ⟨hc, hf⟩ := bcell hS; go_simp; first | (refine ⟨?_, Below.refl _ _⟩; rfl) | rfl | exact Below.refl _ _)); (try go_simp))
  (refine textB_det ?_ rfl rfl ?_ (fun W hS => ?_) ?_; rotate_left; (focus go_simp); (focus (obtain ⟨hc, hf⟩ := bcell hS; go_simp; first | (refine ⟨?_, Below.refl _ _⟩; rfl) | rfl | exact Below.refl _ _)); (try go_simp))
  (refine textB_det ?_ rfl rfl ?_ (fun W hS => ?_) ?_; rotate_left; (focus go_simp); (focus (obtain ⟨hc, hf⟩ := bcell hS; go_simp; first | (refine ⟨?_, Below.refl _ _⟩; rfl) | rfl | exact Below.refl _ _)); (try go_simp))
  (refine textB_det ?_ rfl rfl ?_ (fun W hS => ?_) ?_; rotate_left; (focus go_simp); (focus (obtain ⟨hc, hf⟩ := bcell hS; go_simp; first | (refine ⟨?_, Below.refl _ _⟩; rfl) | rfl | exact Below.refl _ _)); (try go_simp))
  (refine textB_det ?_ rfl rfl ?_ (fun W hS => ?_) ?_; rotate_left; (focus go_simp); (focus (obtain ⟨hc, hf⟩ := bcell hS; go_simp; first | (refine ⟨?_, Below.refl _ _⟩; rfl) | rfl | exact Below.refl _ _)); (try go_simp))
  intro blk w2 hb2 hn1 hn2
  clear hn1 hn2
  simp only [List.map_nil, putAll]
  clear blk
  go_wp2
  go_ret
  exact ⟨rfl, below_next HB.out hb2⟩
end Go.Proofs.YtdpfbpmdpdfpdaaDoor
namespace Go.Proofs.YtdpfbpmdpdfpdaaDoor
set_option linter.unusedVariables false
open Go.ChangeShapes Go.WideShapes Go.ChangeAt Go.RowKit Go.Shelf
attribute [local go_sem ↓] Go.wp_at_zero Go.wp_at_succ comesTo_value_eq comesTo_skip_eq comesTo_enter_eq

set_option maxRecDepth 100000 in
set_option maxHeartbeats 1000000 in
theorem right_yes (W F : Int) (D H : NSet) (n : Int) (w : World) (hn : 0 ≤ n ∧ n ≤ 64) (hW : 1 ≤ W ∧ W ≤ 64) (hF : 0 ≤ F ∧ F < 1099511627776) (h1 : D &&& H = 0#64) (h2 : (D ||| H) &&& ~~~firstI n = 0#64) (h3 : (card H : Int) ≤ W) :
    Calls Tryd.prog 42 #[.agg #[.int .i64 W, .int .i64 F, .int .u64 (nv D), .int .u64 (nv H)], .int .i64 n] w fun e w' => e = .returned (.bool true) ∧ Below w.heap.size w w' := by
  have k1 := Lib.hid (fun W' => and_any D H W')
  have k2 := Lib.hid (fun W' => or_any D H W')
  have k3 := Lib.hid (fun W' => first_any n W')
  have k4 := Lib.hid (fun W' => bless_any (D ||| H) (firstI n) W')
  have k5 := Lib.hid (fun W' => blen_any H W')
  rw [h1, nv_zero] at k1
  rw [h2, nv_zero] at k4
  clear h1 h2
  have hH : (card H : Int) ≤ 64 := by have := card_le H; omega
  generalize (card H : Int) = c at *
  obtain ⟨n0, n1⟩ := hn
  obtain ⟨W0, W1⟩ := hW
  obtain ⟨F0, F1⟩ := hF
  go_enter Tryd.func42, Tryd.ntmps42
  go_wp2_with fail
  generalize hW : w.alloc (.cells #[.int .i64 W, .int .i64 F, .int .u64 (nv D), .int .u64 (nv H)] 26) = U
  have d0 : U.cell? ⟨w.heap.size, 0, none⟩ = some (.int .i64 W) := by subst hW; go_simp
  have d1 : U.cell? ⟨w.heap.size, 1, none⟩ = some (.int .i64 F) := by subst hW; go_simp
  have d2 : U.cell? ⟨w.heap.size, 2, none⟩ = some (.int .u64 (nv D)) := by subst hW; go_simp
  have d3 : U.cell? ⟨w.heap.size, 3, none⟩ = some (.int .u64 (nv H)) := by subst hW; go_simp
  have hx0 := Lib.hid (show Below w.heap.size w U by rw [← hW]; exact (by repeat (first | exact Below.refl _ _ | assumption | refine below_drewN ?_ _ | refine Below.drew ?_ | refine below_alloc ?_ _ | refine Below.alloc ?_ (by first | omega | (simp; done) | (simp; omega)) _ | refine Below.setCell ?_ (Below.size (by assumption)) _ | refine Below.setCell ?_ (by first | omega | (simp; done) | (simp; omega)) _ | (refine Below.trans ?_ (Below.mono (by assumption) (by first | omega | (simp; done) | (simp; omega)))) | refine below_next ?_ (by assumption))))
  clear hW
  have l0 : w.heap.size < U.heap.size := World.block_lt_of_cell? U _ d2
  refine wp_region_boxes U (by kernel_rfl) (by kernel_rfl) (Below.refl _ _) ?_
  (refine textB_det ?_ rfl rfl ?_ (fun W hS => ?_) ?_; rotate_left; (focus go_simp); (focus (obtain ⟨hc, hf⟩ := bcell hS; go_simp; first | (refine ⟨?_, Below.refl _ _⟩; rfl) | rfl | exact Below.refl _ _)); (try go_simp))
  (refine textB_det ?_ rfl rfl ?_ (fun W hS => ?_) ?_; rotate_left; (focus go_simp); (focus (obtain ⟨hc, hf⟩ := bcell hS; go_simp; first | (refine ⟨?_, Below.refl _ _⟩; rfl) | rfl | exact Below.refl _ _)); (try go_simp))
  (refine textB_det ?_ rfl rfl ?_ (fun W hS => ?_) ?_; rotate_left; (focus go_simp); (focus (obtain ⟨hc, hf⟩ := bcell hS; go_simp; first | (refine ⟨?_, Below.refl _ _⟩; rfl) | rfl | exact Below.refl _ _)); (try go_simp))
  (refine textB_det ?_ rfl rfl ?_ (fun W hS => ?_) ?_; rotate_left; (focus go_simp); (focus (obtain ⟨hc, hf⟩ := bcell hS; go_simp; first | (refine ⟨?_, Below.refl _ _⟩; rfl) | rfl | exact Below.refl _ _)); (try go_simp))
  (refine textB_det ?_ rfl rfl ?_ (fun W hS => ?_) ?_; rotate_left; (focus go_simp); (focus (obtain ⟨hc, hf⟩ := bcell hS; go_simp; refine (k1.out _).mono ?_; rintro e w1 ⟨rfl, rfl⟩; refine ⟨?_, Below.refl _ _⟩; rfl)); (try go_simp))
  (refine textB_det ?_ rfl rfl ?_ (fun W hS => ?_) ?_; rotate_left; (focus go_simp); (focus (obtain ⟨hc, hf⟩ := bcell hS; go_simp; first | (refine ⟨?_, Below.refl _ _⟩; rfl) | rfl | exact Below.refl _ _)); (try go_simp))
  (refine textB_det ?_ rfl rfl ?_ (fun W hS => ?_) ?_; rotate_left; (focus go_simp); (focus (obtain ⟨hc, hf⟩ := bcell hS; go_simp; first | (refine ⟨?_, Below.refl _ _⟩; rfl) | rfl | exact Below.refl _ _)); (try go_simp))
  (refine textB_det ?_ rfl rfl ?_ (fun W hS => ?_) ?_; rotate_left; (focus go_simp); (focus (obtain ⟨hc, hf⟩ := bcell hS; go_simp; first | (refine ⟨?_, Below.refl _ _⟩; rfl) | rfl | exact Below.refl _ _)); (try go_simp))
  (refine textB_det ?_ rfl rfl ?_ (fun W hS => ?_) ?_; rotate_left; (focus go_simp); (focus (obtain ⟨hc, hf⟩ := bcell hS; go_simp; first | (refine ⟨?_, Below.refl _ _⟩; rfl) | rfl | exact Below.refl _ _)); (try go_simp))
  (refine textB_det ?_ rfl rfl ?_ (fun W hS => ?_) ?_; rotate_left; (focus go_simp); (focus (obtain ⟨hc, hf⟩ := bcell hS; go_simp; first | (refine ⟨?_, Below.refl _ _⟩; rfl) | rfl | exact Below.refl _ _)); (try go_simp))
  (refine textB_det ?_ rfl rfl ?_ (fun W hS => ?_) ?_; rotate_left; (focus go_simp); (focus (obtain ⟨hc, hf⟩ := bcell hS; go_simp; first | (refine ⟨?_, Below.refl _ _⟩; rfl) | rfl | exact Below.refl _ _)); (try go_simp))
  (refine textB_det ?_ rfl rfl ?_ (fun W hS => ?_) ?_; rotate_left; (focus go_simp); (focus (obtain ⟨hc, hf⟩ := bcell hS; go_simp; refine (k2.out _).mono ?_; rintro e w1 ⟨rfl, rfl⟩; refine ⟨?_, Below.refl _ _⟩; rfl)); (try go_simp))
  (refine textB_det ?_ rfl rfl ?_ (fun W hS => ?_) ?_; rotate_left; (focus go_simp); (focus (obtain ⟨hc, hf⟩ := bcell hS; go_simp; first | (refine ⟨?_, Below.refl _ _⟩; rfl) | rfl | exact Below.refl _ _)); (try go_simp))
  (refine textB_det ?_ rfl rfl ?_ (fun W hS => ?_) ?_; rotate_left; (focus go_simp); (focus (obtain ⟨hc, hf⟩ := bcell hS; go_simp; refine (k3.out _).mono ?_; rintro e w1 ⟨rfl, rfl⟩; refine ⟨?_, Below.refl _ _⟩; rfl)); (try go_simp))
  (refine textB_det ?_ rfl rfl ?_ (fun W hS => ?_) ?_; rotate_left; (focus go_simp); (focus (obtain ⟨hc, hf⟩ := bcell hS; go_simp; refine (k4.out _).mono ?_; rintro e w1 ⟨rfl, rfl⟩; refine ⟨?_, Below.refl _ _⟩; rfl)); (try go_simp))
  (refine textB_det ?_ rfl rfl ?_ (fun W hS => ?_) ?_; rotate_left; (focus go_simp); (focus (obtain ⟨hc, hf⟩ := bcell hS; go_simp; first | (refine ⟨?_, Below.refl _ _⟩; rfl) | rfl | exact Below.refl _ _)); (try go_simp))
  (refine textB_det ?_ rfl rfl ?_ (fun W hS => ?_) ?_; rotate_left; (focus go_simp); (focus (obtain ⟨hc, hf⟩ := bcell hS; go_simp; first | (refine ⟨?_, Below.refl _ _⟩; rfl) | rfl | exact Below.refl _ _)); (try go_simp))
  (refine textB_det ?_ rfl rfl ?_ (fun W hS => ?_) ?_; rotate_left; (focus go_simp); (focus (obtain ⟨hc, hf⟩ := bcell hS; go_simp; first | (refine ⟨?_, Below.refl _ _⟩; rfl) | rfl | exact Below.refl _ _)); (try go_simp))
  (refine textB_det ?_ rfl rfl ?_ (fun W hS => ?_) ?_; rotate_left; (focus go_simp); (focus (obtain ⟨hc, hf⟩ := bcell hS; go_simp; first | (refine ⟨?_, Below.refl _ _⟩; rfl) | rfl | exact Below.refl _ _)); (try go_simp))
  (refine textB_det ?_ rfl rfl ?_ (fun W hS => ?_) ?_; rotate_left; (focus go_simp); (focus (obtain ⟨hc, hf⟩ := bcell hS; go_simp; first | (refine ⟨?_, Below.refl _ _⟩; rfl) | rfl | exact Below.refl _ _)); (try go_simp))
  (refine textB_det ?_ rfl rfl ?_ (fun W hS => ?_) ?_; rotate_left; (focus go_simp); (focus (obtain ⟨hc, hf⟩ := bcell hS; go_simp; refine (k5.out _).mono ?_; rintro e w1 ⟨rfl, rfl⟩; refine ⟨?_, Below.refl _ _⟩; rfl)); (try go_simp))
  (refine textB_det ?_ rfl rfl ?_ (fun W hS => ?_) ?_; rotate_left; (focus go_simp); (focus (obtain ⟨hc, hf⟩ := bcell hS; go_simp; first | (refine ⟨?_, Below.refl _ _⟩; rfl) | rfl | exact Below.refl _ _)); (try go_simp))
  (refine textB_det ?_ rfl rfl ?_ (fun W hS => ?_) ?_; rotate_left; (focus go_simp); (focus (obtain ⟨hc, hf⟩ := bcell hS; go_simp; first | (refine ⟨?_, Below.refl _ _⟩; rfl) | rfl | exact Below.refl _ _)); (try go_simp))
  (refine textB_det ?_ rfl rfl ?_ (fun W hS => ?_) ?_; rotate_left; (focus go_simp); (focus (obtain ⟨hc, hf⟩ := bcell hS; go_simp; first | (refine ⟨?_, Below.refl _ _⟩; rfl) | rfl | exact Below.refl _ _)); (try go_simp))
  (refine textB_det ?_ rfl rfl ?_ (fun W hS => ?_) ?_; rotate_left; (focus go_simp); (focus (obtain ⟨hc, hf⟩ := bcell hS; go_simp; first | (refine ⟨?_, Below.refl _ _⟩; rfl) | rfl | exact Below.refl _ _)); (try go_simp))
  (refine textB_det ?_ rfl rfl ?_ (fun W hS => ?_) ?_; rotate_left; (focus go_simp); (focus (obtain ⟨hc, hf⟩ := bcell hS; go_simp; first | (refine ⟨?_, Below.refl _ _⟩; rfl) | rfl | exact Below.refl _ _)); (try go_simp))
  intro blk w2 hb2 hn1 hn2
  clear hn1 hn2
  simp only [List.map_nil, putAll]
  clear blk
  go_wp2
  go_ret
  exact ⟨rfl, below_next hx0.out hb2⟩
end Go.Proofs.YtdpfbpmdpdfpdaaDoor
namespace Go.Proofs.YtdpfbpmdpdfpdaaDoor
set_option linter.unusedVariables false
open Go.ChangeShapes Go.WideShapes Go.ChangeAt Go.RowKit Go.Shelf
attribute [local go_sem ↓] Go.wp_at_zero Go.wp_at_succ comesTo_value_eq comesTo_skip_eq comesTo_enter_eq

theorem first64 : firstI 64 = BitVec.allOnes 64 := by decide
/-- is it right for 64 nodes -/
def rightR (W F : Int) (D H : NSet) : Bool := decide (1 ≤ W ∧ W ≤ 64 ∧ 0 ≤ F ∧ F < 1099511627776 ∧ D &&& H = 0#64 ∧ (card H : Int) ≤ W)
set_option maxRecDepth 100000 in
theorem right_field (W F : Int) (D H : NSet) (w : World) (h : ¬ (1 ≤ W ∧ W ≤ 64 ∧ 0 ≤ F ∧ F < 1099511627776)) :
    Calls Tryd.prog 42 #[.agg #[.int .i64 W, .int .i64 F, .int .u64 (nv D), .int .u64 (nv H)], .int .i64 64] w fun e w' => e = .returned (.bool false) ∧ Below w.heap.size w w' := by
  have hA := below_alloc (Below.refl _ w) (.cells #[.int .i64 W, .int .i64 F, .int .u64 (nv D), .int .u64 (nv H)] 26)
  have HA := Lib.hid hA
  clear hA
  by_cases h1 : W < 1
  · have d1 : decide (W < 1) = true := decide_eq_true h1
    clear h h1
    go_enter Tryd.func42, Tryd.ntmps42
    go_wp2_with fail
    go_ret
    exact ⟨rfl, HA.out⟩
  have d1 : decide (W < 1) = false := decide_eq_false h1
  by_cases h2 : W > 64
  · have d2 : decide (W > 64) = true := decide_eq_true h2
    have d3 : decide (64 < W) = true := decide_eq_true h2
    clear h h1 h2
    go_enter Tryd.func42, Tryd.ntmps42
    go_wp2_with fail
    go_ret
    exact ⟨rfl, HA.out⟩
  have d2 : decide (W > 64) = false := decide_eq_false h2
  have d3 : decide (64 < W) = false := decide_eq_false h2
  by_cases h3 : F < 0
  · have d4 : decide (F < 0) = true := decide_eq_true h3
    clear h h1 h2 h3
    go_enter Tryd.func42, Tryd.ntmps42
    go_wp2_with fail
    go_ret
    exact ⟨rfl, HA.out⟩
  have d4 : decide (F < 0) = false := decide_eq_false h3
  have h4 : F ≥ 1099511627776 := by omega
  have d5 : decide (F ≥ 1099511627776) = true := decide_eq_true h4
  have d6 : decide (1099511627776 ≤ F) = true := decide_eq_true h4
  clear h h1 h2 h3 h4
  go_enter Tryd.func42, Tryd.ntmps42
  go_wp2_with fail
  go_ret
  exact ⟨rfl, HA.out⟩
set_option maxRecDepth 100000 in
theorem right_meet (W F : Int) (D H : NSet) (w : World) (hW : 1 ≤ W ∧ W ≤ 64) (hF : 0 ≤ F ∧ F < 1099511627776) (h1 : D &&& H ≠ 0#64) :
    Calls Tryd.prog 42 #[.agg #[.int .i64 W, .int .i64 F, .int .u64 (nv D), .int .u64 (nv H)], .int .i64 64] w fun e w' => e = .returned (.bool false) ∧ Below w.heap.size w w' := by
  have k1 := Lib.hid (fun W' => and_any D H W')
  have ha : nv (D &&& H) ≠ 0 := fun h => h1 (nv_inj (h.trans nv_zero.symm))
  obtain ⟨W0, W1⟩ := hW
  obtain ⟨F0, F1⟩ := hF
  generalize nv (D &&& H) = a at *
  have hb0 : (a == 0) = false := by simpa using ha
  clear h1 ha
  go_enter Tryd.func42, Tryd.ntmps42
  go_wp2_with fail
  generalize hW : w.alloc (.cells #[.int .i64 W, .int .i64 F, .int .u64 (nv D), .int .u64 (nv H)] 26) = U
  have d0 : U.cell? ⟨w.heap.size, 0, none⟩ = some (.int .i64 W) := by subst hW; go_simp
  have d1 : U.cell? ⟨w.heap.size, 1, none⟩ = some (.int .i64 F) := by subst hW; go_simp
  have d2 : U.cell? ⟨w.heap.size, 2, none⟩ = some (.int .u64 (nv D)) := by subst hW; go_simp
  have d3 : U.cell? ⟨w.heap.size, 3, none⟩ = some (.int .u64 (nv H)) := by subst hW; go_simp
  have hx0 := Lib.hid (show Below w.heap.size w U by rw [← hW]; exact (by repeat (first | exact Below.refl _ _ | assumption | refine below_drewN ?_ _ | refine Below.drew ?_ | refine below_alloc ?_ _ | refine Below.alloc ?_ (by first | omega | (simp; done) | (simp; omega)) _ | refine Below.setCell ?_ (Below.size (by assumption)) _ | refine Below.setCell ?_ (by first | omega | (simp; done) | (simp; omega)) _ | (refine Below.trans ?_ (Below.mono (by assumption) (by first | omega | (simp; done) | (simp; omega)))) | refine below_next ?_ (by assumption))))
  clear hW
  have l0 : w.heap.size < U.heap.size := World.block_lt_of_cell? U _ d2
  refine wp_region_boxes U (by kernel_rfl) (by kernel_rfl) (Below.refl _ _) ?_
  iterate 4 (refine textB_det ?_ rfl rfl ?_ (fun W hS => ?_) ?_; rotate_left; (focus go_simp); (focus (obtain ⟨hc, hf⟩ := bcell hS; go_simp; first | (refine ⟨?_, Below.refl _ _⟩; rfl) | rfl | exact Below.refl _ _)); (try go_simp))
  (refine textB_det ?_ rfl rfl ?_ (fun W hS => ?_) ?_; rotate_left; (focus go_simp); (focus (obtain ⟨hc, hf⟩ := bcell hS; go_simp; refine (k1.out _).mono ?_; rintro e w1 ⟨rfl, rfl⟩; refine ⟨?_, Below.refl _ _⟩; rfl)); (try go_simp))
  iterate 2 (refine textB_det ?_ rfl rfl ?_ (fun W hS => ?_) ?_; rotate_left; (focus go_simp); (focus (obtain ⟨hc, hf⟩ := bcell hS; go_simp; first | (refine ⟨?_, Below.refl _ _⟩; rfl) | rfl | exact Below.refl _ _)); (try go_simp))
  iterate 9 (refine textB_skip rfl rfl ?_ ?_; (focus (first | (go_simp; done) | (go_simp; intro h; cases h))); (try go_simp))
  iterate 2 (refine textB_det ?_ rfl rfl ?_ (fun W hS => ?_) ?_; rotate_left; (focus go_simp); (focus (obtain ⟨hc, hf⟩ := bcell hS; go_simp; first | (refine ⟨?_, Below.refl _ _⟩; rfl) | rfl | exact Below.refl _ _)); (try go_simp))
  iterate 6 (refine textB_skip rfl rfl ?_ ?_; (focus (first | (go_simp; done) | (go_simp; intro h; cases h))); (try go_simp))
  iterate 2 (refine textB_det ?_ rfl rfl ?_ (fun W hS => ?_) ?_; rotate_left; (focus go_simp); (focus (obtain ⟨hc, hf⟩ := bcell hS; go_simp; first | (refine ⟨?_, Below.refl _ _⟩; rfl) | rfl | exact Below.refl _ _)); (try go_simp))
  intro blk w2 hb2 hn1 hn2
  clear hn1 hn2
  simp only [List.map_nil, putAll]
  clear blk
  go_wp2
  go_ret
  exact ⟨rfl, below_next hx0.out hb2⟩
set_option maxRecDepth 100000 in
theorem right_wide (W F : Int) (D H : NSet) (w : World) (hW : 1 ≤ W ∧ W ≤ 64) (hF : 0 ≤ F ∧ F < 1099511627776) (h1 : D &&& H = 0#64) (h3 : ¬ (card H : Int) ≤ W) :
    Calls Tryd.prog 42 #[.agg #[.int .i64 W, .int .i64 F, .int .u64 (nv D), .int .u64 (nv H)], .int .i64 64] w fun e w' => e = .returned (.bool false) ∧ Below w.heap.size w w' := by
  have k1 := Lib.hid (fun W' => and_any D H W')
  have k2 := Lib.hid (fun W' => or_any D H W')
  have k3 := Lib.hid (fun W' => first_any 64 W')
  have k4 := Lib.hid (fun W' => bless_any (D ||| H) (firstI 64) W')
  have k5 := Lib.hid (fun W' => blen_any H W')
  have h2 : (D ||| H) &&& ~~~firstI 64 = 0#64 := by rw [first64]; simp
  rw [h1, nv_zero] at k1
  rw [h2, nv_zero] at k4
  clear h1 h2
  generalize (card H : Int) = c at *
  have dc : decide (c ≤ W) = false := decide_eq_false h3
  obtain ⟨W0, W1⟩ := hW
  obtain ⟨F0, F1⟩ := hF
  go_enter Tryd.func42, Tryd.ntmps42
  go_wp2_with fail
  generalize hW : w.alloc (.cells #[.int .i64 W, .int .i64 F, .int .u64 (nv D), .int .u64 (nv H)] 26) = U
  have d0 : U.cell? ⟨w.heap.size, 0, none⟩ = some (.int .i64 W) := by subst hW; go_simp
  have d1 : U.cell? ⟨w.heap.size, 1, none⟩ = some (.int .i64 F) := by subst hW; go_simp
  have d2 : U.cell? ⟨w.heap.size, 2, none⟩ = some (.int .u64 (nv D)) := by subst hW; go_simp
  have d3 : U.cell? ⟨w.heap.size, 3, none⟩ = some (.int .u64 (nv H)) := by subst hW; go_simp
  have hx0 := Lib.hid (show Below w.heap.size w U by rw [← hW]; exact (by repeat (first | exact Below.refl _ _ | assumption | refine below_drewN ?_ _ | refine Below.drew ?_ | refine below_alloc ?_ _ | refine Below.alloc ?_ (by first | omega | (simp; done) | (simp; omega)) _ | refine Below.setCell ?_ (Below.size (by assumption)) _ | refine Below.setCell ?_ (by first | omega | (simp; done) | (simp; omega)) _ | (refine Below.trans ?_ (Below.mono (by assumption) (by first | omega | (simp; done) | (simp; omega)))) | refine below_next ?_ (by assumption))))
  clear hW
  have l0 : w.heap.size < U.heap.size := World.block_lt_of_cell? U _ d2
  refine wp_region_boxes U (by kernel_rfl) (by kernel_rfl) (Below.refl _ _) ?_
  (refine textB_det ?_ rfl rfl ?_ (fun W hS => ?_) ?_; rotate_left; (focus go_simp); (focus (obtain ⟨hc, hf⟩ := bcell hS; go_simp; first | (refine ⟨?_, Below.refl _ _⟩; rfl) | rfl | exact Below.refl _ _)); (try go_simp))
  (refine textB_det ?_ rfl rfl ?_ (fun W hS => ?_) ?_; rotate_left; (focus go_simp); (focus (obtain ⟨hc, hf⟩ := bcell hS; go_simp; first | (refine ⟨?_, Below.refl _ _⟩; rfl) | rfl | exact Below.refl _ _)); (try go_simp))
  (refine textB_det ?_ rfl rfl ?_ (fun W hS => ?_) ?_; rotate_left; (focus go_simp); (focus (obtain ⟨hc, hf⟩ := bcell hS; go_simp; first | (refine ⟨?_, Below.refl _ _⟩; rfl) | rfl | exact Below.refl _ _)); (try go_simp))
  (refine textB_det ?_ rfl rfl ?_ (fun W hS => ?_) ?_; rotate_left; (focus go_simp); (focus (obtain ⟨hc, hf⟩ := bcell hS; go_simp; first | (refine ⟨?_, Below.refl _ _⟩; rfl) | rfl | exact Below.refl _ _)); (try go_simp))
  (refine textB_det ?_ rfl rfl ?_ (fun W hS => ?_) ?_; rotate_left; (focus go_simp); (focus (obtain ⟨hc, hf⟩ := bcell hS; go_simp; refine (k1.out _).mono ?_; rintro e w1 ⟨rfl, rfl⟩; refine ⟨?_, Below.refl _ _⟩; rfl)); (try go_simp))
  (refine textB_det ?_ rfl rfl ?_ (fun W hS => ?_) ?_; rotate_left; (focus go_simp); (focus (obtain ⟨hc, hf⟩ := bcell hS; go_simp; first | (refine ⟨?_, Below.refl _ _⟩; rfl) | rfl | exact Below.refl _ _)); (try go_simp))
  (refine textB_det ?_ rfl rfl ?_ (fun W hS => ?_) ?_; rotate_left; (focus go_simp); (focus (obtain ⟨hc, hf⟩ := bcell hS; go_simp; first | (refine ⟨?_, Below.refl _ _⟩; rfl) | rfl | exact Below.refl _ _)); (try go_simp))
  (refine textB_det ?_ rfl rfl ?_ (fun W hS => ?_) ?_; rotate_left; (focus go_simp); (focus (obtain ⟨hc, hf⟩ := bcell hS; go_simp; first | (refine ⟨?_, Below.refl _ _⟩; rfl) | rfl | exact Below.refl _ _)); (try go_simp))
  (refine textB_det ?_ rfl rfl ?_ (fun W hS => ?_) ?_; rotate_left; (focus go_simp); (focus (obtain ⟨hc, hf⟩ := bcell hS; go_simp; first | (refine ⟨?_, Below.refl _ _⟩; rfl) | rfl | exact Below.refl _ _)); (try go_simp))
  (refine textB_det ?_ rfl rfl ?_ (fun W hS => ?_) ?_; rotate_left; (focus go_simp); (focus (obtain ⟨hc, hf⟩ := bcell hS; go_simp; first | (refine ⟨?_, Below.refl _ _⟩; rfl) | rfl | exact Below.refl _ _)); (try go_simp))
  (refine textB_det ?_ rfl rfl ?_ (fun W hS => ?_) ?_; rotate_left; (focus go_simp); (focus (obtain ⟨hc, hf⟩ := bcell hS; go_simp; first | (refine ⟨?_, Below.refl _ _⟩; rfl) | rfl | exact Below.refl _ _)); (try go_simp))
  (refine textB_det ?_ rfl rfl ?_ (fun W hS => ?_) ?_; rotate_left; (focus go_simp); (focus (obtain ⟨hc, hf⟩ := bcell hS; go_simp; refine (k2.out _).mono ?_; rintro e w1 ⟨rfl, rfl⟩; refine ⟨?_, Below.refl _ _⟩; rfl)); (try go_simp))
  (refine textB_det ?_ rfl rfl ?_ (fun W hS => ?_) ?_; rotate_left; (focus go_simp); (focus (obtain ⟨hc, hf⟩ := bcell hS; go_simp; first | (refine ⟨?_, Below.refl _ _⟩; rfl) | rfl | exact Below.refl _ _)); (try go_simp))
  (refine textB_det ?_ rfl rfl ?_ (fun W hS => ?_) ?_; rotate_left; (focus go_simp); (focus (obtain ⟨hc, hf⟩ := bcell hS; go_simp; refine (k3.out _).mono ?_; rintro e w1 ⟨rfl, rfl⟩; refine ⟨?_, Below.refl _ _⟩; rfl)); (try go_simp))
  (refine textB_det ?_ rfl rfl ?_ (fun W hS => ?_) ?_; rotate_left; (focus go_simp); (focus (obtain ⟨hc, hf⟩ := bcell hS; go_simp; refine (k4.out _).mono ?_; rintro e w1 ⟨rfl, rfl⟩; refine ⟨?_, Below.refl _ _⟩; rfl)); (try go_simp))
  (refine textB_det ?_ rfl rfl ?_ (fun W hS => ?_) ?_; rotate_left; (focus go_simp); (focus (obtain ⟨hc, hf⟩ := bcell hS; go_simp; first | (refine ⟨?_, Below.refl _ _⟩; rfl) | rfl | exact Below.refl _ _)); (try go_simp))
  (refine textB_det ?_ rfl rfl ?_ (fun W hS => ?_) ?_; rotate_left; (focus go_simp); (focus (obtain ⟨hc, hf⟩ := bcell hS; go_simp; first | (refine ⟨?_, Below.refl _ _⟩; rfl) | rfl | exact Below.refl _ _)); (try go_simp))
  (refine textB_det ?_ rfl rfl ?_ (fun W hS => ?_) ?_; rotate_left; (focus go_simp); (focus (obtain ⟨hc, hf⟩ := bcell hS; go_simp; first | (refine ⟨?_, Below.refl _ _⟩; rfl) | rfl | exact Below.refl _ _)); (try go_simp))
  (refine textB_det ?_ rfl rfl ?_ (fun W hS => ?_) ?_; rotate_left; (focus go_simp); (focus (obtain ⟨hc, hf⟩ := bcell hS; go_simp; first | (refine ⟨?_, Below.refl _ _⟩; rfl) | rfl | exact Below.refl _ _)); (try go_simp))
  (refine textB_det ?_ rfl rfl ?_ (fun W hS => ?_) ?_; rotate_left; (focus go_simp); (focus (obtain ⟨hc, hf⟩ := bcell hS; go_simp; first | (refine ⟨?_, Below.refl _ _⟩; rfl) | rfl | exact Below.refl _ _)); (try go_simp))
  (refine textB_det ?_ rfl rfl ?_ (fun W hS => ?_) ?_; rotate_left; (focus go_simp); (focus (obtain ⟨hc, hf⟩ := bcell hS; go_simp; refine (k5.out _).mono ?_; rintro e w1 ⟨rfl, rfl⟩; refine ⟨?_, Below.refl _ _⟩; rfl)); (try go_simp))
  (refine textB_det ?_ rfl rfl ?_ (fun W hS => ?_) ?_; rotate_left; (focus go_simp); (focus (obtain ⟨hc, hf⟩ := bcell hS; go_simp; first | (refine ⟨?_, Below.refl _ _⟩; rfl) | rfl | exact Below.refl _ _)); (try go_simp))
  (refine textB_det ?_ rfl rfl ?_ (fun W hS => ?_) ?_; rotate_left; (focus go_simp); (focus (obtain ⟨hc, hf⟩ := bcell hS; go_simp; first | (refine ⟨?_, Below.refl _ _⟩; rfl) | rfl | exact Below.refl _ _)); (try go_simp))
  (refine textB_det ?_ rfl rfl ?_ (fun W hS => ?_) ?_; rotate_left; (focus go_simp); (focus (obtain ⟨hc, hf⟩ := bcell hS; go_simp; first | (refine ⟨?_, Below.refl _ _⟩; rfl) | rfl | exact Below.refl _ _)); (try go_simp))
  (refine textB_det ?_ rfl rfl ?_ (fun W hS => ?_) ?_; rotate_left; (focus go_simp); (focus (obtain ⟨hc, hf⟩ := bcell hS; go_simp; first | (refine ⟨?_, Below.refl _ _⟩; rfl) | rfl | exact Below.refl _ _)); (try go_simp))
  (refine textB_det ?_ rfl rfl ?_ (fun W hS => ?_) ?_; rotate_left; (focus go_simp); (focus (obtain ⟨hc, hf⟩ := bcell hS; go_simp; first | (refine ⟨?_, Below.refl _ _⟩; rfl) | rfl | exact Below.refl _ _)); (try go_simp))
  intro blk w2 hb2 hn1 hn2
  clear hn1 hn2
  simp only [List.map_nil, putAll]
  clear blk
  go_wp2
  go_ret
  exact ⟨rfl, below_next hx0.out hb2⟩
theorem right_any (W F : Int) (D H : NSet) (w : World) :
    Calls Tryd.prog 42 #[.agg #[.int .i64 W, .int .i64 F, .int .u64 (nv D), .int .u64 (nv H)], .int .i64 64] w fun e w' => e = .returned (.bool (rightR W F D H)) ∧ Below w.heap.size w w' := by
  unfold rightR
  by_cases h0 : 1 ≤ W ∧ W ≤ 64 ∧ 0 ≤ F ∧ F < 1099511627776
  · by_cases h1 : D &&& H = 0#64
    · by_cases h3 : (card H : Int) ≤ W
      · rw [decide_eq_true ⟨h0.1, h0.2.1, h0.2.2.1, h0.2.2.2, h1, h3⟩]
        exact right_yes W F D H 64 w (by decide) ⟨h0.1, h0.2.1⟩ h0.2.2 h1 (by rw [first64]; simp) h3
      · rw [decide_eq_false (fun h => h3 h.2.2.2.2.2)]
        exact right_wide W F D H w ⟨h0.1, h0.2.1⟩ h0.2.2 h1 h3
    · rw [decide_eq_false (fun h => h1 h.2.2.2.2.1)]
      exact right_meet W F D H w ⟨h0.1, h0.2.1⟩ h0.2.2 h1
  · rw [decide_eq_false (fun h => h0 ⟨h.1, h.2.1, h.2.2.1, h.2.2.2.1⟩)]
    exact right_field W F D H w h0
end Go.Proofs.YtdpfbpmdpdfpdaaDoor
namespace Go.Proofs.YtdpfbpmdpdfpdaaDoor
set_option linter.unusedVariables false
open Go.ChangeShapes Go.WideShapes Go.ChangeAt Go.RowKit Go.Shelf
attribute [local go_sem ↓] Go.wp_at_zero Go.wp_at_succ comesTo_value_eq comesTo_skip_eq comesTo_enter_eq

theorem of1 (b : Nat) (W : World) (hb : W.heap[b]? = some (.cells #[.int .i64 1] 3 (0, 0))) : Calls Tryd.prog 52 #[.slice (some ⟨b, 0, none⟩) 1 1] W fun e w' => e = .returned (.int .u64 (nv 2#64)) ∧ Below W.heap.size W w' := of_block [1] 2#64 (by decide) (by decide) b W hb
theorem of2 (b : Nat) (W : World) (hb : W.heap[b]? = some (.cells #[.int .i64 2] 3 (0, 0))) : Calls Tryd.prog 52 #[.slice (some ⟨b, 0, none⟩) 1 1] W fun e w' => e = .returned (.int .u64 (nv 4#64)) ∧ Below W.heap.size W w' := of_block [2] 4#64 (by decide) (by decide) b W hb
theorem of5 (b : Nat) (W : World) (hb : W.heap[b]? = some (.cells #[.int .i64 5] 3 (0, 0))) : Calls Tryd.prog 52 #[.slice (some ⟨b, 0, none⟩) 1 1] W fun e w' => e = .returned (.int .u64 (nv 32#64)) ∧ Below W.heap.size W w' := of_block [5] 32#64 (by decide) (by decide) b W hb
theorem of12 (b : Nat) (W : World) (hb : W.heap[b]? = some (.cells #[.int .i64 1, .int .i64 2] 3 (0, 0))) : Calls Tryd.prog 52 #[.slice (some ⟨b, 0, none⟩) 2 2] W fun e w' => e = .returned (.int .u64 (nv 6#64)) ∧ Below W.heap.size W w' := of_block [1, 2] 6#64 (by decide) (by decide) b W hb
theorem of125 (b : Nat) (W : World) (hb : W.heap[b]? = some (.cells #[.int .i64 1, .int .i64 2, .int .i64 5] 3 (0, 0))) : Calls Tryd.prog 52 #[.slice (some ⟨b, 0, none⟩) 3 3] W fun e w' => e = .returned (.int .u64 (nv 38#64)) ∧ Below W.heap.size W w' := of_block [1, 2, 5] 38#64 (by decide) (by decide) b W hb

theorem next_one (W : World) (hT : TabZ W) : Calls Tryd.prog 51 #[.agg #[.int .i64 2, .int .i64 3, .int .u64 0, .int .u64 0], .int .i64 3, .int .u64 (nv 38#64)] W fun e w' => e = .returned (.int .u64 (nv 6#64)) ∧ Below W.heap.size W w' := by
  have := next_goes 2 3 0#64 0#64 3 38#64 W hT (by decide) (by decide +kernel) (by decide)
  rw [show tk (minZ (2 - (card 0#64 : Int)) (card (38#64 &&& ~~~(0#64 ||| 0#64)))).toNat (38#64 &&& ~~~(0#64 ||| 0#64)) = 6#64 by decide +kernel, nv_zero] at this
  exact this
theorem next_two (W : World) : Calls Tryd.prog 51 #[.agg #[.int .i64 2, .int .i64 3, .int .u64 0, .int .u64 0], .int .i64 2, .int .u64 (nv 6#64)] W fun e w' => e = .returned (.int .u64 0) ∧ Below W.heap.size W w' := by
  have := next_late 2 3 0#64 0#64 2 6#64 W (by decide)
  rw [nv_zero] at this
  exact this
theorem next_three (W : World) (hT : TabZ W) : Calls Tryd.prog 51 #[.agg #[.int .i64 2, .int .i64 3, .int .u64 (nv 2#64), .int .u64 (nv 4#64)], .int .i64 9, .int .u64 (nv 38#64)] W fun e w' => e = .returned (.int .u64 (nv 32#64)) ∧ Below W.heap.size W w' := by
  have := next_goes 2 3 2#64 4#64 9 38#64 W hT (by decide) (by decide +kernel) (by decide)
  rw [show tk (minZ (2 - (card 4#64 : Int)) (card (38#64 &&& ~~~(2#64 ||| 4#64)))).toNat (38#64 &&& ~~~(2#64 ||| 4#64)) = 32#64 by decide +kernel] at this
  exact this
theorem hold_one (W : World) : Calls Tryd.prog 53 #[.agg #[.int .i64 2, .int .i64 3, .int .u64 0, .int .u64 0], .int .u64 (nv 6#64)] W fun e w' => e = .returned (.agg #[.int .i64 2, .int .i64 3, .int .u64 0, .int .u64 (nv 6#64)]) ∧ Below W.heap.size W w' := by
  have := hold_any 2 3 0#64 0#64 6#64 W
  rw [show (0#64 ||| 6#64 : NSet) = 6#64 by decide, nv_zero] at this
  exact this
theorem back_one (W : World) : Calls Tryd.prog 54 #[.agg #[.int .i64 2, .int .i64 3, .int .u64 0, .int .u64 (nv 6#64)], .int .i64 1] W fun e w' => e = .returned (.agg #[.int .i64 2, .int .i64 3, .int .u64 (nv 2#64), .int .u64 (nv 4#64)]) ∧ Below W.heap.size W w' := by
  have := back_any 2 3 0#64 6#64 1 W
  rw [show backD 0#64 6#64 1 = 2#64 by decide, show backH 6#64 1 = 4#64 by decide, nv_zero] at this
  exact this
theorem right_one (W : World) : Calls Tryd.prog 42 #[.agg #[.int .i64 2, .int .i64 3, .int .u64 0, .int .u64 0], .int .i64 6] W fun e w' => e = .returned (.bool true) ∧ Below W.heap.size W w' := by
  have := right_yes 2 3 0#64 0#64 6 W (by decide) (by decide) (by decide) (by decide) (by decide) (by decide +kernel)
  rw [nv_zero] at this
  exact this

set_option maxRecDepth 100000 in
set_option maxHeartbeats 2000000 in
theorem roll_one (w : World) (hT : TabZ w) : Calls Tryd.prog 15 #[] w fun e w' => e = .returned (.bool true) ∧ Below w.heap.size w w' := by
  have HT := Lib.hid hT
  clear hT
  go_enter Tryd.func15, Tryd.ntmps15
  go_wp2_with fail
  generalize hW : w.alloc (.cells #[.int .i64 2, .int .i64 3, .int .u64 0, .int .u64 0] 26) = U
  have d0 : U.cell? ⟨w.heap.size, 0, none⟩ = some (.int .i64 2) := by subst hW; go_simp
  have d1 : U.cell? ⟨w.heap.size, 1, none⟩ = some (.int .i64 3) := by subst hW; go_simp
  have d2 : U.cell? ⟨w.heap.size, 2, none⟩ = some (.int .u64 0) := by subst hW; go_simp
  have d3 : U.cell? ⟨w.heap.size, 3, none⟩ = some (.int .u64 0) := by subst hW; go_simp
  have HB0 := Lib.hid (show Below w.heap.size w U by rw [← hW]; exact (by repeat (first | exact Below.refl _ _ | assumption | refine below_drewN ?_ _ | refine Below.drew ?_ | refine below_alloc ?_ _ | refine Below.alloc ?_ (by first | omega | (simp; done) | (simp; omega)) _ | refine Below.setCell ?_ (Below.size (by assumption)) _ | refine Below.setCell ?_ (by first | omega | (simp; done) | (simp; omega)) _ | (refine Below.trans ?_ (Below.mono (by assumption) (by first | omega | (simp; done) | (simp; omega)))) | refine below_next ?_ (by assumption))))
  clear hW
  have l0 : w.heap.size < U.heap.size := World.block_lt_of_cell? U _ d2
  refine Bld.wp_region_build U (by kernel_rfl) (by kernel_rfl) (Below.refl _ _) ?_
  (refine Bld.textB_det ?_ rfl rfl rfl ?_ (fun W hS => ?_) ?_; rotate_left; (focus go_simp); (focus (obtain ⟨hc, hf⟩ := bcell hS; go_simp; first | (refine ⟨?_, Below.refl _ _⟩; rfl) | rfl | exact Below.refl _ _)); (try go_simp))
  (refine Bld.textB_al _ ((3), (#[.int .i64 1, .int .i64 2, .int .i64 5]), (some 3)) rfl rfl rfl rfl (fun W => ?_) ?_; (focus (first | rfl | (go_simp; done) | (go_simp; rfl))); (try go_simp))
  (refine Bld.textB_use ?_ (6) _ rfl rfl rfl rfl (fun b => ?_) (fun b W hS hB hb => ?_) ?_; rotate_left; (focus go_simp); (focus (go_simp; refine (of125 b W hb).mono ?_; rintro e w1 ⟨rfl, hbb⟩; refine ⟨?_, hbb⟩; rfl)); (try go_simp))
  (refine Bld.textB_det ?_ rfl rfl rfl ?_ (fun W hS => ?_) ?_; rotate_left; (focus go_simp); (focus (obtain ⟨hc, hf⟩ := bcell hS; go_simp; refine (next_one _ (HT.out.below (HB0.out.trans (hS.mono HB0.out.size)))).mono ?_; rintro e w1 ⟨rfl, hb⟩; refine ⟨?_, hb⟩; rfl)); (try go_simp))
  (refine Bld.textB_det ?_ rfl rfl rfl ?_ (fun W hS => ?_) ?_; rotate_left; (focus go_simp); (focus (obtain ⟨hc, hf⟩ := bcell hS; go_simp; first | (refine ⟨?_, Below.refl _ _⟩; rfl) | rfl | exact Below.refl _ _)); (try go_simp))
  intro blk w1 hb1 hn1 hn2
  clear hn1 hn2
  simp only [Bld.putZ, Bld.mkVal]
  generalize blk 6 = z6 at *
  clear blk
  obtain ⟨hc, hf⟩ := bcell hb1
  replace d0 := (hc _ 0 l0).trans d0
  replace d1 := (hc _ 1 l0).trans d1
  replace d2 := (hc _ 2 l0).trans d2
  replace d3 := (hc _ 3 l0).trans d3
  have HB1 := Lib.hid (below_next HB0.out hb1)
  have l1 : w.heap.size < w1.heap.size := World.block_lt_of_cell? w1 _ d2
  clear hc hf hb1 HB0 l0
  go_wp2_with fail
  refine (hold_one _).mono ?_
  rintro e w2 ⟨rfl, hb2⟩
  obtain ⟨hc, hf⟩ := bcell hb2
  replace d0 := (hc _ 0 l1).trans d0
  replace d1 := (hc _ 1 l1).trans d1
  replace d2 := (hc _ 2 l1).trans d2
  replace d3 := (hc _ 3 l1).trans d3
  have HB2 := Lib.hid (below_next HB1.out hb2)
  have l2 : w.heap.size < w2.heap.size := World.block_lt_of_cell? w2 _ d2
  clear hc hf hb2 HB1 l1
  clear w1
  go_wp2_with fail
  refine (back_one _).mono ?_
  rintro e w3 ⟨rfl, hb3⟩
  obtain ⟨hc, hf⟩ := bcell hb3
  replace d0 := (hc _ 0 l2).trans d0
  replace d1 := (hc _ 1 l2).trans d1
  replace d2 := (hc _ 2 l2).trans d2
  replace d3 := (hc _ 3 l2).trans d3
  have HB3 := Lib.hid (below_next HB2.out hb3)
  have l3 : w.heap.size < w3.heap.size := World.block_lt_of_cell? w3 _ d2
  clear hc hf hb3 HB2 l2
  clear w2
  go_wp2_with fail
  generalize hW : w3.alloc (.cells #[.int .i64 2, .int .i64 3, .int .u64 (nv 2#64), .int .u64 (nv 4#64)] 26) = U
  have c0 : U.cell? ⟨w.heap.size, 0, none⟩ = some (.int .i64 2) := by subst hW; go_simp
  have c1 : U.cell? ⟨w.heap.size, 1, none⟩ = some (.int .i64 3) := by subst hW; go_simp
  have c2 : U.cell? ⟨w.heap.size, 2, none⟩ = some (.int .u64 0) := by subst hW; go_simp
  have c3 : U.cell? ⟨w.heap.size, 3, none⟩ = some (.int .u64 0) := by subst hW; go_simp
  have q0 : U.cell? ⟨w3.heap.size, 0, none⟩ = some (.int .i64 2) := by subst hW; go_simp
  have q1 : U.cell? ⟨w3.heap.size, 1, none⟩ = some (.int .i64 3) := by subst hW; go_simp
  have q2 : U.cell? ⟨w3.heap.size, 2, none⟩ = some (.int .u64 (nv 2#64)) := by subst hW; go_simp
  have q3 : U.cell? ⟨w3.heap.size, 3, none⟩ = some (.int .u64 (nv 4#64)) := by subst hW; go_simp
  have HB4 := Lib.hid (show Below w.heap.size w U by rw [← hW]; exact below_alloc HB3.out _)
  clear hW d0 d1 d2 d3
  have l4 : w.heap.size < U.heap.size := World.block_lt_of_cell? U _ c2
  have l5 : w3.heap.size < U.heap.size := World.block_lt_of_cell? U _ q2
  generalize w3.heap.size = q at *
  refine Bld.wp_region_build U (by kernel_rfl) (by kernel_rfl) (Below.refl _ _) ?_
  (refine Bld.textB_det ?_ rfl rfl rfl ?_ (fun W hS => ?_) ?_; rotate_left; (focus go_simp); (focus (obtain ⟨hc, hf⟩ := bcell hS; go_simp; first | (refine ⟨?_, Below.refl _ _⟩; rfl) | rfl | exact Below.refl _ _)); (try go_simp))
  (refine Bld.textB_al _ ((3), (#[.int .i64 1, .int .i64 2]), (some 2)) rfl rfl rfl rfl (fun W => ?_) ?_; (focus (first | rfl | (go_simp; done) | (go_simp; rfl))); (try go_simp))
  (refine Bld.textB_use ?_ (14) _ rfl rfl rfl rfl (fun b => ?_) (fun b W hS hB hb => ?_) ?_; rotate_left; (focus go_simp); (focus (go_simp; refine (of12 b W hb).mono ?_; rintro e w1 ⟨rfl, hbb⟩; refine ⟨?_, hbb⟩; rfl)); (try go_simp))
  (refine Bld.textB_det ?_ rfl rfl rfl ?_ (fun W hS => ?_) ?_; rotate_left; (focus go_simp); (focus (obtain ⟨hc, hf⟩ := bcell hS; go_simp; first | (refine ⟨?_, Below.refl _ _⟩; rfl) | rfl | exact Below.refl _ _)); (try go_simp))
  (refine Bld.textB_det ?_ rfl rfl rfl ?_ (fun W hS => ?_) ?_; rotate_left; (focus go_simp); (focus (obtain ⟨hc, hf⟩ := bcell hS; go_simp; first | (refine ⟨?_, Below.refl _ _⟩; rfl) | rfl | exact Below.refl _ _)); (try go_simp))
  (refine Bld.textB_det ?_ rfl rfl rfl ?_ (fun W hS => ?_) ?_; rotate_left; (focus go_simp); (focus (obtain ⟨hc, hf⟩ := bcell hS; go_simp; first | (refine ⟨?_, Below.refl _ _⟩; rfl) | rfl | exact Below.refl _ _)); (try go_simp))
  (refine Bld.textB_det ?_ rfl rfl rfl ?_ (fun W hS => ?_) ?_; rotate_left; (focus go_simp); (focus (obtain ⟨hc, hf⟩ := bcell hS; go_simp; first | (refine ⟨?_, Below.refl _ _⟩; rfl) | rfl | exact Below.refl _ _)); (try go_simp))
  (refine Bld.textB_det ?_ rfl rfl rfl ?_ (fun W hS => ?_) ?_; rotate_left; (focus go_simp); (focus (obtain ⟨hc, hf⟩ := bcell hS; go_simp; refine (next_two _).mono ?_; rintro e w1 ⟨rfl, hb⟩; refine ⟨?_, hb⟩; rfl)); (try go_simp))
  (refine Bld.textB_det ?_ rfl rfl rfl ?_ (fun W hS => ?_) ?_; rotate_left; (focus go_simp); (focus (obtain ⟨hc, hf⟩ := bcell hS; go_simp; first | (refine ⟨?_, Below.refl _ _⟩; rfl) | rfl | exact Below.refl _ _)); (try go_simp))
  (refine Bld.textB_det ?_ rfl rfl rfl ?_ (fun W hS => ?_) ?_; rotate_left; (focus go_simp); (focus (obtain ⟨hc, hf⟩ := bcell hS; go_simp; first | (refine ⟨?_, Below.refl _ _⟩; rfl) | rfl | exact Below.refl _ _)); (try go_simp))
  (refine Bld.textB_det ?_ rfl rfl rfl ?_ (fun W hS => ?_) ?_; rotate_left; (focus go_simp); (focus (obtain ⟨hc, hf⟩ := bcell hS; go_simp; first | (refine ⟨?_, Below.refl _ _⟩; rfl) | rfl | exact Below.refl _ _)); (try go_simp))
  (refine Bld.textB_det ?_ rfl rfl rfl ?_ (fun W hS => ?_) ?_; rotate_left; (focus go_simp); (focus (obtain ⟨hc, hf⟩ := bcell hS; go_simp; first | (refine ⟨?_, Below.refl _ _⟩; rfl) | rfl | exact Below.refl _ _)); (try go_simp))
  (refine Bld.textB_det ?_ rfl rfl rfl ?_ (fun W hS => ?_) ?_; rotate_left; (focus go_simp); (focus (obtain ⟨hc, hf⟩ := bcell hS; go_simp; first | (refine ⟨?_, Below.refl _ _⟩; rfl) | rfl | exact Below.refl _ _)); (try go_simp))
  (refine Bld.textB_alg _ ((3), (#[.int .i64 1]), (some 1)) rfl rfl rfl rfl ?_ (fun W => ?_) ?_; (focus (first | rfl | (go_simp; done) | (go_simp; rfl))); (focus (first | rfl | (go_simp; done) | (go_simp; rfl))); (try go_simp))
  (refine Bld.textB_use ?_ (26) _ rfl rfl rfl rfl (fun b => ?_) (fun b W hS hB hb => ?_) ?_; rotate_left; (focus go_simp); (focus (go_simp; refine (of1 b W hb).mono ?_; rintro e w1 ⟨rfl, hbb⟩; refine ⟨?_, hbb⟩; rfl)); (try go_simp))
  (refine Bld.textB_det ?_ rfl rfl rfl ?_ (fun W hS => ?_) ?_; rotate_left; (focus go_simp); (focus (obtain ⟨hc, hf⟩ := bcell hS; go_simp; first | (refine ⟨?_, Below.refl _ _⟩; rfl) | rfl | exact Below.refl _ _)); (try go_simp))
  (refine Bld.textB_det ?_ rfl rfl rfl ?_ (fun W hS => ?_) ?_; rotate_left; (focus go_simp); (focus (obtain ⟨hc, hf⟩ := bcell hS; go_simp; first | (refine ⟨?_, Below.refl _ _⟩; rfl) | rfl | exact Below.refl _ _)); (try go_simp))
  (refine Bld.textB_det ?_ rfl rfl rfl ?_ (fun W hS => ?_) ?_; rotate_left; (focus go_simp); (focus (obtain ⟨hc, hf⟩ := bcell hS; go_simp; first | (refine ⟨?_, Below.refl _ _⟩; rfl) | rfl | exact Below.refl _ _)); (try go_simp))
  (refine Bld.textB_det ?_ rfl rfl rfl ?_ (fun W hS => ?_) ?_; rotate_left; (focus go_simp); (focus (obtain ⟨hc, hf⟩ := bcell hS; go_simp; first | (refine ⟨?_, Below.refl _ _⟩; rfl) | rfl | exact Below.refl _ _)); (try go_simp))
  (refine Bld.textB_det ?_ rfl rfl rfl ?_ (fun W hS => ?_) ?_; rotate_left; (focus go_simp); (focus (obtain ⟨hc, hf⟩ := bcell hS; go_simp; first | (refine ⟨?_, Below.refl _ _⟩; rfl) | rfl | exact Below.refl _ _)); (try go_simp))
  (refine Bld.textB_alg _ ((3), (#[.int .i64 2]), (some 1)) rfl rfl rfl rfl ?_ (fun W => ?_) ?_; (focus (first | rfl | (go_simp; done) | (go_simp; rfl))); (focus (first | rfl | (go_simp; done) | (go_simp; rfl))); (try go_simp))
  (refine Bld.textB_use ?_ (33) _ rfl rfl rfl rfl (fun b => ?_) (fun b W hS hB hb => ?_) ?_; rotate_left; (focus go_simp); (focus (go_simp; refine (of2 b W hb).mono ?_; rintro e w1 ⟨rfl, hbb⟩; refine ⟨?_, hbb⟩; rfl)); (try go_simp))
  (refine Bld.textB_det ?_ rfl rfl rfl ?_ (fun W hS => ?_) ?_; rotate_left; (focus go_simp); (focus (obtain ⟨hc, hf⟩ := bcell hS; go_simp; first | (refine ⟨?_, Below.refl _ _⟩; rfl) | rfl | exact Below.refl _ _)); (try go_simp))
  (refine Bld.textB_det ?_ rfl rfl rfl ?_ (fun W hS => ?_) ?_; rotate_left; (focus go_simp); (focus (obtain ⟨hc, hf⟩ := bcell hS; go_simp; first | (refine ⟨?_, Below.refl _ _⟩; rfl) | rfl | exact Below.refl _ _)); (try go_simp))
  (refine Bld.textB_det ?_ rfl rfl rfl ?_ (fun W hS => ?_) ?_; rotate_left; (focus go_simp); (focus (obtain ⟨hc, hf⟩ := bcell hS; go_simp; first | (refine ⟨?_, Below.refl _ _⟩; rfl) | rfl | exact Below.refl _ _)); (try go_simp))
  (refine Bld.textB_det ?_ rfl rfl rfl ?_ (fun W hS => ?_) ?_; rotate_left; (focus go_simp); (focus (obtain ⟨hc, hf⟩ := bcell hS; go_simp; first | (refine ⟨?_, Below.refl _ _⟩; rfl) | rfl | exact Below.refl _ _)); (try go_simp))
  (refine Bld.textB_alg _ ((3), (#[.int .i64 1, .int .i64 2, .int .i64 5]), (some 3)) rfl rfl rfl rfl ?_ (fun W => ?_) ?_; (focus (first | rfl | (go_simp; done) | (go_simp; rfl))); (focus (first | rfl | (go_simp; done) | (go_simp; rfl))); (try go_simp))
  (refine Bld.textB_use ?_ (39) _ rfl rfl rfl rfl (fun b => ?_) (fun b W hS hB hb => ?_) ?_; rotate_left; (focus go_simp); (focus (go_simp; refine (of125 b W hb).mono ?_; rintro e w1 ⟨rfl, hbb⟩; refine ⟨?_, hbb⟩; rfl)); (try go_simp))
  (refine Bld.textB_det ?_ rfl rfl rfl ?_ (fun W hS => ?_) ?_; rotate_left; (focus go_simp); (focus (obtain ⟨hc, hf⟩ := bcell hS; go_simp; refine (next_three _ (HT.out.below (HB4.out.trans (hS.mono HB4.out.size)))).mono ?_; rintro e w1 ⟨rfl, hb⟩; refine ⟨?_, hb⟩; rfl)); (try go_simp))
  (refine Bld.textB_alg _ ((3), (#[.int .i64 5]), (some 1)) rfl rfl rfl rfl ?_ (fun W => ?_) ?_; (focus (first | rfl | (go_simp; done) | (go_simp; rfl))); (focus (first | rfl | (go_simp; done) | (go_simp; rfl))); (try go_simp))
  (refine Bld.textB_use ?_ (42) _ rfl rfl rfl rfl (fun b => ?_) (fun b W hS hB hb => ?_) ?_; rotate_left; (focus go_simp); (focus (go_simp; refine (of5 b W hb).mono ?_; rintro e w1 ⟨rfl, hbb⟩; refine ⟨?_, hbb⟩; rfl)); (try go_simp))
  (refine Bld.textB_det ?_ rfl rfl rfl ?_ (fun W hS => ?_) ?_; rotate_left; (focus go_simp); (focus (obtain ⟨hc, hf⟩ := bcell hS; go_simp; first | (refine ⟨?_, Below.refl _ _⟩; rfl) | rfl | exact Below.refl _ _)); (try go_simp))
  (refine Bld.textB_det ?_ rfl rfl rfl ?_ (fun W hS => ?_) ?_; rotate_left; (focus go_simp); (focus (obtain ⟨hc, hf⟩ := bcell hS; go_simp; first | (refine ⟨?_, Below.refl _ _⟩; rfl) | rfl | exact Below.refl _ _)); (try go_simp))
  (refine Bld.textB_det ?_ rfl rfl rfl ?_ (fun W hS => ?_) ?_; rotate_left; (focus go_simp); (focus (obtain ⟨hc, hf⟩ := bcell hS; go_simp; first | (refine ⟨?_, Below.refl _ _⟩; rfl) | rfl | exact Below.refl _ _)); (try go_simp))
  (refine Bld.textB_det ?_ rfl rfl rfl ?_ (fun W hS => ?_) ?_; rotate_left; (focus go_simp); (focus (obtain ⟨hc, hf⟩ := bcell hS; go_simp; first | (refine ⟨?_, Below.refl _ _⟩; rfl) | rfl | exact Below.refl _ _)); (try go_simp))
  (refine Bld.textB_det ?_ rfl rfl rfl ?_ (fun W hS => ?_) ?_; rotate_left; (focus go_simp); (focus (obtain ⟨hc, hf⟩ := bcell hS; go_simp; refine (right_one _).mono ?_; rintro e w1 ⟨rfl, hb⟩; refine ⟨?_, hb⟩; rfl)); (try go_simp))
  (refine Bld.textB_det ?_ rfl rfl rfl ?_ (fun W hS => ?_) ?_; rotate_left; (focus go_simp); (focus (obtain ⟨hc, hf⟩ := bcell hS; go_simp; first | (refine ⟨?_, Below.refl _ _⟩; rfl) | rfl | exact Below.refl _ _)); (try go_simp))
  (refine Bld.textB_det ?_ rfl rfl rfl ?_ (fun W hS => ?_) ?_; rotate_left; (focus go_simp); (focus (obtain ⟨hc, hf⟩ := bcell hS; go_simp; first | (refine ⟨?_, Below.refl _ _⟩; rfl) | rfl | exact Below.refl _ _)); (try go_simp))
  intro blk w5 hb5 hn1 hn2
  clear hn1 hn2
  simp only [Bld.putZ, Bld.mkVal]
  generalize blk 14 = z14 at *
  generalize blk 26 = z26 at *
  generalize blk 33 = z33 at *
  generalize blk 39 = z39 at *
  generalize blk 42 = z42 at *
  clear blk
  go_wp2
  go_ret
  exact ⟨rfl, below_next HB4.out hb5⟩
end Go.Proofs.YtdpfbpmdpdfpdaaDoor
namespace Go.Proofs.YtdpfbpmdpdfpdaaDoor
set_option linter.unusedVariables false
open Go.ChangeShapes Go.WideShapes Go.ChangeAt Go.RowKit Go.Shelf

theorem gTabZ : Tryd.prog.globalNamed "math/bits.deBruijn64tab" = some 1 := by kernel_rfl
theorem gTabZType : (Tryd.prog.globals[1]?).map (·.type) = some 164 := by kernel_rfl
theorem cellsTabZ : Tryd.prog.cellsOf 164 = 64 := by kernel_rfl
theorem cellsU8 : Tryd.prog.cellsOf 5 = 1 := by kernel_rfl
theorem tabz_data {H : Type} : (Rows.laid_math_bits_deBruijn64tab : DataW H) = Lib.tabData .u8 (Lib.deBruijn64tab.map Int.ofNat) := rfl
theorem tabz_at {W : World} (h : laidMet Tryd.prog [("math/bits.deBruijn64tab", Rows.laid_math_bits_deBruijn64tab)] W) : TabZ W := by
  obtain ⟨ps, ⟨g, t, cs, fuel, p, q, hg, ht, hvar, hd, _, _⟩, _⟩ := h
  obtain rfl := Option.some.inj (gTabZ.symm.trans hg)
  obtain rfl := Option.some.inj (gTabZType.symm.trans ht)
  rw [tabz_data] at hd
  have hcs := Lib.cells_of_tab (zs := Lib.deBruijn64tab.map Int.ofNat) Tryd.underlying164 Tryd.underlying5 cellsU8 cellsTabZ hd
  have hv : W.var? Tryd.prog "math/bits.deBruijn64tab" = some ((Lib.deBruijn64tab.map Int.ofNat).map fun z => Value.int .u8 z).toArray := by rw [hvar, ← hcs]
  have hT : TabAt 1 Lib.deBruijn64tab W := by
    intro j hj
    have := World.var?_cell gTabZ hv j
    simpa [List.getD, hj] using this
  exact ⟨World.block_lt_of_cell? W _ (hT 0 (by decide)), hT⟩
end Go.Proofs.YtdpfbpmdpdfpdaaDoor
