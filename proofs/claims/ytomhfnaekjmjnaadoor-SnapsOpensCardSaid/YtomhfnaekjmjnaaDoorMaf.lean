/- Laws that belong together: Contracts of the functions of layer 3 (sum), and of the reference's.; Contracts of Value, Begin, the reference's Take and Sum. -/
import Derived.Test.YtomhfnaekjmjnaaDoorMaa
import Derived.ProofKit
import Derived.OpenShut
import Derived.Outline
import Derived.WalkLawsBesides
import Derived.RegionTactic
import Derived.BigRegion
import Derived.Deep.RegionHeld3
import Derived.Deep.DrawnRows
import Derived.Deep.DeepCutAuto
import Derived.Lib.Hide
namespace Go.Proofs.YtomhfnaekjmjnaaDoor
set_option linter.unusedVariables false
open Go.ChangeShapes Go.WideShapes Go.ChangeAt Go.RowKit

theorem step_any (x A C : Int) (x0 : 0 ≤ x) (x1 : x ≤ 255) (A0 : 0 ≤ A) (A1 : A ≤ 65520) (C0 : 0 ≤ C) (C1 : C ≤ 65520) (a c : Nat) (hac : a ≠ c) (w : World)
    (ha : w.cell? ⟨a, 0, none⟩ = some (.int .u32 A)) (hc : w.cell? ⟨c, 0, none⟩ = some (.int .u32 C)) (fa : w.frozen? ⟨a, 0, none⟩ = false) (fc : w.frozen? ⟨c, 0, none⟩ = false) :
    Calls Tryd.prog 77 #[.int .u8 x, .pointer (some ⟨a, 0, none⟩), .pointer (some ⟨c, 0, none⟩)] w fun e w' => e = .returned (.tuple #[]) ∧
      w' = (w.setCell ⟨a, 0, none⟩ (.int .u32 ((A + x) % 65521))).setCell ⟨c, 0, none⟩ (.int .u32 ((C + (A + x)) % 65521)) := by
  have m0 := Int.emod_nonneg (A + x) (show (65521 : Int) ≠ 0 by decide)
  have m1 := Int.emod_lt_of_pos (A + x) (show (0 : Int) < 65521 by decide)
  have hca : c ≠ a := hac.symm
  go_enter Tryd.func77, Tryd.ntmps77
  go_wp2
  go_end0
  exact ⟨rfl, rfl⟩
theorem take_none (A B : Int) (a : Option Addr) (cap : Nat) (w : World) :
    Calls Tryd.prog 62 #[.agg #[.int .u32 A, .int .u32 B], .slice a 0 cap] w fun e w' => e = .returned (.agg #[.int .u32 A, .int .u32 B]) ∧ Below w.heap.size w w' := by
  go_enter Tryd.func62, Tryd.ntmps62
  go_wp2
  exact bodyPost_ret (v := .agg #[.int .u32 A, .int .u32 B]) (by simp [results, Tryd.results62, go_sem]) rfl ⟨rfl, (by repeat (first | exact Below.refl _ _ | assumption | refine below_drewN ?_ _ | refine Below.drew ?_ | refine below_alloc ?_ _ | refine Below.alloc ?_ (by first | omega | (simp; done) | (simp; omega)) _ | refine Below.setCell ?_ (Below.size (by assumption)) _ | refine Below.setCell ?_ (by first | omega | (simp; done) | (simp; omega)) _ | (refine Below.trans ?_ (Below.mono (by assumption) (by first | omega | (simp; done) | (simp; omega)))) | refine below_next ?_ (by assumption)))⟩
theorem ret_agg {k : IntKind} {a b c d : Int} (h1 : a = c) (h2 : b = d) : Ending.returned (.agg #[.int k a, .int k b]) = .returned (.agg #[.int k c, .int k d]) := by rw [h1, h2]
set_option maxHeartbeats 1000000 in
theorem take_some (A B : Int) (A0 : 0 ≤ A) (B0 : 0 ≤ B) (A1 : A ≤ 4294967295) (B1 : B ≤ 4294967295) (b off cap : Nat) (zs : List Int) (hl : 0 < zs.length) (w : World) (hz : BytesRow w b off zs) :
    Calls Tryd.prog 62 #[.agg #[.int .u32 A, .int .u32 B], .slice (some ⟨b, off, none⟩) zs.length cap] w fun e w' => e = .returned (.agg #[.int .u32 (sumAll (A % 65521, B % 65521) zs).1, .int .u32 (sumAll (A % 65521, B % 65521) zs).2]) ∧ Below w.heap.size w w' := by
  have hne : ((zs.length : Int) == 0) = false := by rw [beq_eq_false_iff_ne]; omega
  have hlen := hz.len
  have HZ := Lib.hid hz
  clear hz
  go_enter Tryd.func62, Tryd.ntmps62
  go_upto_region 3 with fail
  go_cut [5, 6] (fun s5 s6 wx => ∃ a c : Nat, s5 = .pointer (some ⟨a, 0, none⟩) ∧ s6 = .pointer (some ⟨c, 0, none⟩) ∧ SumBox w a c (w.heap.size + 1) wx (A % 65521) (B % 65521))
  case first =>
    go_region
    all_goals (go_wp2_with fail; go_meet)
    all_goals first
      | exact ⟨w.heap.size + 1 + 1, w.heap.size + 1 + 1 + 1, rfl, rfl, { ca := by go_simp, cc := by go_simp, fa := by go_simp, fc := by go_simp, r0 := by go_simp, r1 := by go_simp, f0 := by go_simp, f1 := by go_simp, ac := by omega, ar := by omega, cr := by omega, al := by omega, cl := by omega, rl := by omega, bel := (by repeat (first | exact Below.refl _ _ | assumption | refine below_drewN ?_ _ | refine Below.drew ?_ | refine below_alloc ?_ _ | refine Below.alloc ?_ (by first | omega | (simp; done) | (simp; omega)) _ | refine Below.setCell ?_ (Below.size (by assumption)) _ | refine Below.setCell ?_ (by first | omega | (simp; done) | (simp; omega)) _ | (refine Below.trans ?_ (Below.mono (by assumption) (by first | omega | (simp; done) | (simp; omega)))) | refine below_next ?_ (by assumption))) }⟩
      | exact ⟨w.heap.size + 1 + 1 + 1, w.heap.size + 1 + 1, rfl, rfl, { ca := by go_simp, cc := by go_simp, fa := by go_simp, fc := by go_simp, r0 := by go_simp, r1 := by go_simp, f0 := by go_simp, f1 := by go_simp, ac := by omega, ar := by omega, cr := by omega, al := by omega, cl := by omega, rl := by omega, bel := (by repeat (first | exact Below.refl _ _ | assumption | refine below_drewN ?_ _ | refine Below.drew ?_ | refine below_alloc ?_ _ | refine Below.alloc ?_ (by first | omega | (simp; done) | (simp; omega)) _ | refine Below.setCell ?_ (Below.size (by assumption)) _ | refine Below.setCell ?_ (by first | omega | (simp; done) | (simp; omega)) _ | (refine Below.trans ?_ (Below.mono (by assumption) (by first | omega | (simp; done) | (simp; omega)))) | refine below_next ?_ (by assumption))) }⟩
  case rest =>
    obtain ⟨a, c, rfl, rfl, hbox⟩ := hcut
    have hbd0 : (0 ≤ (A % 65521, B % 65521).1 ∧ (A % 65521, B % 65521).1 ≤ 65520) ∧ 0 ≤ (A % 65521, B % 65521).2 ∧ (A % 65521, B % 65521).2 ≤ 65520 := by simp only; omega
    have HB := Lib.hid hbd0
    clear hbd0
    go_wp2
    go_loopw [23, 9] (fun i x wr => ∃ k : Nat, k ≤ zs.length ∧ i = .int .i64 k ∧ SumBox w a c (w.heap.size + 1) wr (sumAll (A % 65521, B % 65521) (zs.take k)).1 (sumAll (A % 65521, B % 65521) (zs.take k)).2) (fun i _ _ => zs.length - (intOf i).toNat)
    case atStart => exact ⟨0, Nat.zero_le _, rfl, by simpa [sumAll] using hbox⟩
    case round =>
      obtain ⟨k, hk, rfl, hb⟩ := hrel
      by_cases hlt : k < zs.length
      · have hrow := HZ.out.below hb.bel
        have hcell := hrow.cell k hlt
        have hx0 := hrow.lo k hlt
        have hx1 := hrow.hi k hlt
        have hts := Lib.hid (take_snoc_getD zs k hlt)
        have hbd := sumAll_bd (A % 65521, B % 65521) (zs.take k) HB.out
        have hlo : (0 : Int) ≤ (k : Int) := by omega
        obtain ⟨⟨p0, p1⟩, q0, q1⟩ := hbd
        have h1 := hb.ca
        have h2 := hb.cc
        have h3 := hb.fa
        have h4 := hb.fc
        have h5 := hb.ac
        have hend := Lib.hid (show SumBox w a c (w.heap.size + 1) ((wr.setCell ⟨a, 0, none⟩ (.int .u32 (((sumAll (A % 65521, B % 65521) (zs.take k)).1 + zs.getD k 0) % 65521))).setCell ⟨c, 0, none⟩ (.int .u32 (((sumAll (A % 65521, B % 65521) (zs.take k)).2 + ((sumAll (A % 65521, B % 65521) (zs.take k)).1 + zs.getD k 0)) % 65521))) (sumAll (A % 65521, B % 65521) (zs.take (k + 1))).1 (sumAll (A % 65521, B % 65521) (zs.take (k + 1))).2 by
          rw [hts.out, sumAll_snoc]; exact hb.step)
        clear hrow hb hbox HB hts
        generalize (sumAll (A % 65521, B % 65521) (zs.take k)).1 = P at *
        generalize (sumAll (A % 65521, B % 65521) (zs.take k)).2 = Q at *
        generalize zs.getD k 0 = x at *
        go_wp2_with (go_at_call 77; refine (step_any _ _ _ hx0 hx1 p0 p1 q0 q1 a c h5 _ h1 h2 h3 h4).mono ?_; rintro e w' ⟨rfl, rfl⟩)
        go_roundw
        case rel => exact ⟨k + 1, by omega, by go_num, hend.out⟩
        case measure => simp [intOf]; omega
      · have hkz := Lib.hid (show zs.take k = zs by rw [List.take_of_length_le (by omega)])
        have h1 := hb.ca
        have h2 := hb.cc
        have r0 := hb.r0
        have r1 := hb.r1
        have r2 := hb.f0
        have r3 := hb.f1
        have hbel := hb.bel
        clear hb hbox HB
        go_wp2_with fail
        exact bodyPost_ret (v := .agg #[.int .u32 (sumAll (A % 65521, B % 65521) (zs.take k)).1, .int .u32 (sumAll (A % 65521, B % 65521) (zs.take k)).2]) (by simp [results, Tryd.results62, go_sem, r0, r1]) rfl ⟨by rw [hkz.out], (by repeat (first | exact Below.refl _ _ | assumption | refine below_drewN ?_ _ | refine Below.drew ?_ | refine below_alloc ?_ _ | refine Below.alloc ?_ (by first | omega | (simp; done) | (simp; omega)) _ | refine Below.setCell ?_ (Below.size (by assumption)) _ | refine Below.setCell ?_ (by first | omega | (simp; done) | (simp; omega)) _ | (refine Below.trans ?_ (Below.mono (by assumption) (by first | omega | (simp; done) | (simp; omega)))) | refine below_next ?_ (by assumption)))⟩
end Go.Proofs.YtomhfnaekjmjnaaDoor
namespace Go.Proofs.YtomhfnaekjmjnaaDoor
set_option linter.unusedVariables false
open Go.ChangeShapes Go.WideShapes Go.ChangeAt Go.RowKit

theorem ret_int {k : IntKind} {a b : Int} (h : a = b) : Ending.returned (.int k a) = .returned (.int k b) := by rw [h]
theorem takeI_snoc (A B : Int) (l : List Int) (x : Int) : takeI A B (l ++ [x]) = sumSt (takeI A B l) x := by
  unfold takeI
  rw [if_neg (by simp)]
  by_cases h : l = []
  · subst h; simp only [List.nil_append, if_true, sumAll, List.foldl, sumSt]; congr 1 <;> omega
  · rw [if_neg h, sumAll_snoc]
theorem takeI_bd (A B : Int) (A0 : 0 ≤ A) (B0 : 0 ≤ B) (A1 : A ≤ 4294967295) (B1 : B ≤ 4294967295) (l : List Int) : (0 ≤ (takeI A B l).1 ∧ (takeI A B l).1 ≤ 4294967295) ∧ 0 ≤ (takeI A B l).2 ∧ (takeI A B l).2 ≤ 4294967295 := by
  unfold takeI
  split
  · exact ⟨⟨A0, A1⟩, B0, B1⟩
  · have := sumAll_bd (A % 65521, B % 65521) l (by simp only; omega); omega
theorem begin_any (w : World) :
    Calls Tryd.prog 61 #[] w fun e w' => e = .returned (.agg #[.int .u32 1, .int .u32 0]) ∧ Below w.heap.size w w' := by
  go_enter Tryd.func61, Tryd.ntmps61
  go_wp2
  exact bodyPost_ret (v := .agg #[.int .u32 1, .int .u32 0]) (by simp [results, Tryd.results61, go_sem]) rfl ⟨rfl, (by repeat (first | exact Below.refl _ _ | assumption | refine below_drewN ?_ _ | refine Below.drew ?_ | refine below_alloc ?_ _ | refine Below.alloc ?_ (by first | omega | (simp; done) | (simp; omega)) _ | refine Below.setCell ?_ (Below.size (by assumption)) _ | refine Below.setCell ?_ (by first | omega | (simp; done) | (simp; omega)) _ | (refine Below.trans ?_ (Below.mono (by assumption) (by first | omega | (simp; done) | (simp; omega)))) | refine below_next ?_ (by assumption)))⟩
theorem value_any (A B : Int) (A0 : 0 ≤ A) (B0 : 0 ≤ B) (A1 : A ≤ 4294967295) (B1 : B ≤ 4294967295) (w : World) :
    Calls Tryd.prog 63 #[.agg #[.int .u32 A, .int .u32 B]] w fun e w' => e = .returned (.int .u32 ((B * 65536 + A) % 4294967296)) ∧ Below w.heap.size w w' := by
  go_enter Tryd.func63, Tryd.ntmps63
  go_wp2
  go_ret
  exact ⟨ret_int (by omega), (by repeat (first | exact Below.refl _ _ | assumption | refine below_drewN ?_ _ | refine Below.drew ?_ | refine below_alloc ?_ _ | refine Below.alloc ?_ (by first | omega | (simp; done) | (simp; omega)) _ | refine Below.setCell ?_ (Below.size (by assumption)) _ | refine Below.setCell ?_ (by first | omega | (simp; done) | (simp; omega)) _ | (refine Below.trans ?_ (Below.mono (by assumption) (by first | omega | (simp; done) | (simp; omega)))) | refine below_next ?_ (by assumption)))⟩
set_option maxHeartbeats 1000000 in
theorem rsum_any (s : ByteArray) (hs : s.size ≤ 9223372036854775807) (w : World) :
    Calls Tryd.prog 43 #[.string s] w fun e w' => e = .returned (.int .u32 ((sumAll (1, 0) (bytesOf s)).2 * 65536 + (sumAll (1, 0) (bytesOf s)).1)) ∧ w = w' := by
  go_enter Tryd.func43, Tryd.ntmps43
  go_wp2
  go_loop [3, 4, 5] (fun x y i => ∃ k : Nat, k ≤ s.size ∧ i = .int .i64 k ∧ x = .int .i64 (sumAll (1, 0) ((bytesOf s).take k)).1 ∧ y = .int .i64 (sumAll (1, 0) ((bytesOf s).take k)).2) (fun _ _ i => s.size - (intOf i).toNat)
  case atStart => exact ⟨0, Nat.zero_le _, rfl, rfl, rfl⟩
  case round =>
    obtain ⟨k, hk, rfl, rfl, rfl⟩ := hrel
    obtain ⟨⟨p0, p1⟩, q0, q1⟩ := sumAll_bd (1, 0) ((bytesOf s).take k) (by decide)
    by_cases hlt : k < s.size
    · have hend := Lib.hid (show sumAll (1, 0) ((bytesOf s).take (k + 1)) = sumSt (sumAll (1, 0) ((bytesOf s).take k)) (s[k].toNat : Int) by rw [bytesOf_snoc s k hlt, sumAll_snoc])
      have x0 : (0 : Int) ≤ (s[k].toNat : Int) := by omega
      have x1 : (s[k].toNat : Int) ≤ 255 := by have := s[k].toNat_lt; omega
      unfold sumSt at hend
      generalize (sumAll (1, 0) ((bytesOf s).take k)).1 = P at *
      generalize (sumAll (1, 0) ((bytesOf s).take k)).2 = Q at *
      go_wp2
      go_round
      case rel => exact ⟨k + 1, by omega, by go_num, by rw [hend.out], by rw [hend.out]; exact congrArg (Value.int .i64) (by simp only; omega)⟩
      case measure => simp [intOf]; omega
    · have hkz := Lib.hid (show (bytesOf s).take k = bytesOf s by rw [List.take_of_length_le (by rw [bytesOf_length]; omega)])
      go_wp2
      go_ret
      rw [hkz.out] at *
      exact ⟨ret_int (by omega), rfl⟩
theorem take_any (A B : Int) (A0 : 0 ≤ A) (B0 : 0 ≤ B) (A1 : A ≤ 4294967295) (B1 : B ≤ 4294967295) (v : Value) (zs : List Int) (w : World) (h : TxtAt w v zs) :
    Calls Tryd.prog 62 #[.agg #[.int .u32 A, .int .u32 B], v] w fun e w' => e = .returned (.agg #[.int .u32 (takeI A B zs).1, .int .u32 (takeI A B zs).2]) ∧ Below w.heap.size w w' := by
  rcases h with ⟨b, off, cap, rfl, h2, h3⟩ | ⟨rfl, a, cap, rfl, _⟩
  · have e : takeI A B zs = sumAll (A % 65521, B % 65521) zs := by unfold takeI; rw [if_neg (by intro h; simp [h] at h2)]
    rw [e]
    exact take_some A B A0 B0 A1 B1 b off cap zs h2 w h3
  · exact take_none A B a cap w
end Go.Proofs.YtomhfnaekjmjnaaDoor
