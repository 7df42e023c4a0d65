/- The walk of SumParts: any three texts. -/
import Derived.Test.YtjpjlfdlhhnpnaaSumRuns
import Derived.Test.YtjpjlfdlhhnpnaaAppend
namespace Go.Proofs.Ytjpjlfdlhhnpnaa
set_option linter.unusedVariables false
open Go.ChangeShapes Go.WideShapes Go.ChangeAt Go.RowKit

theorem takeI_small (A B : Int) (zs : List Int) (hA : 0 ≤ A ∧ A ≤ 65520) (hB : 0 ≤ B ∧ B ≤ 65520) : takeI A B zs = sumAll (A, B) zs := by
  unfold takeI
  split
  · rename_i h; rw [h]; rfl
  · rw [Int.emod_eq_of_lt hA.1 (by omega), Int.emod_eq_of_lt hB.1 (by omega)]
/-- a text behind another one: its sum, told by its own -/
theorem sum_shift (x y : Int) (hx : 0 ≤ x ∧ x ≤ 65520) (hy : 0 ≤ y ∧ y ≤ 65520) (l : List Int) :
    (sumAll (x, y) l).1 = ((sumAll (1, 0) l).1 + x + 65520) % 65521 ∧ (sumAll (x, y) l).2 = ((sumAll (1, 0) l).2 + y + (l.length : Int) * (x + 65520)) % 65521 := by
  have key : ∀ k : Nat, k ≤ l.length → (sumAll (x, y) (l.take k)).1 = ((sumAll (1, 0) (l.take k)).1 + x + 65520) % 65521 ∧ (sumAll (x, y) (l.take k)).2 = ((sumAll (1, 0) (l.take k)).2 + y + (k : Int) * (x + 65520)) % 65521 := by
    intro k
    induction k with
    | zero => intro _; simp [sumAll]; omega
    | succ k ih =>
      intro hk
      obtain ⟨h1, h2⟩ := ih (by omega)
      rw [take_snoc_getD l k (by omega), sumAll_snoc, sumAll_snoc]
      simp only [sumSt]
      rw [h1, h2]
      have e : ((k + 1 : Nat) : Int) * (x + 65520) = (k : Int) * (x + 65520) + (x + 65520) := by
        rw [Int.natCast_add, Int.add_mul]; simp
      rw [e]
      generalize (k : Int) * (x + 65520) = t
      omega
  have := key l.length (Nat.le_refl _)
  rwa [List.take_length] at this
theorem mul_mod (n k : Int) : n % 65521 * k % 65521 = n * k % 65521 := by
  rw [Int.mul_emod, Int.emod_emod_of_dvd n (Int.dvd_refl 65521), ← Int.mul_emod]
/-- Both -/
def bothI (a b n : Int) : Int := valI ((a % 65536 + b % 65536 + 65520) % 65521, (a / 65536 + b / 65536 + (max n 0) % 65521 * (a % 65536 + 65520)) % 65521)
def adler (l : List Int) : Int := valI (sumAll (1, 0) l)
theorem adler_parts (l : List Int) : adler l % 65536 = (sumAll (1, 0) l).1 ∧ adler l / 65536 = (sumAll (1, 0) l).2 ∧ 0 ≤ adler l ∧ adler l ≤ 4294967295 := by
  obtain ⟨⟨p0, p1⟩, q0, q1⟩ := sumAll_bd (1, 0) l (by decide)
  unfold adler valI
  omega
theorem both_adler (a b : List Int) : bothI (adler a) (adler b) b.length = adler (a ++ b) := by
  obtain ⟨a1, a2, _⟩ := adler_parts a
  obtain ⟨b1, b2, _⟩ := adler_parts b
  obtain ⟨hx, hy⟩ := sumAll_bd (1, 0) a (by decide)
  unfold bothI
  rw [a1, a2, b1, b2, Int.max_eq_left (by omega)]
  conv => rhs; unfold adler; rw [sumAll_append]
  obtain ⟨s1, s2⟩ := sum_shift (sumAll (1, 0) a).1 (sumAll (1, 0) a).2 hx hy b
  rw [show sumAll (sumAll (1, 0) a) b = ((sumAll ((sumAll (1, 0) a).1, (sumAll (1, 0) a).2) b).1, (sumAll ((sumAll (1, 0) a).1, (sumAll (1, 0) a).2) b).2) from rfl, s1, s2]
  have m := mul_mod (b.length : Int) ((sumAll (1, 0) a).1 + 65520)
  generalize (b.length : Int) % 65521 * ((sumAll (1, 0) a).1 + 65520) = P at *
  generalize (b.length : Int) * ((sumAll (1, 0) a).1 + 65520) = T at *
  congr 2
  · omega
  · omega
theorem takes3 (a b c : List Int) : valI (takes (1, 0) [a, b, c]) = adler (a ++ b ++ c) := by
  unfold adler
  simp only [takes, List.foldl]
  obtain ⟨h1, h2⟩ := sumAll_bd (1, 0) a (by decide)
  rw [takeI_small 1 0 a (by decide) (by decide), takeI_small _ _ b h1 h2]
  rw [show ((sumAll (1, 0) a).1, (sumAll (1, 0) a).2) = sumAll (1, 0) a from rfl, ← sumAll_append]
  obtain ⟨h3, h4⟩ := sumAll_bd (1, 0) (a ++ b) (by decide)
  rw [takeI_small _ _ c h3 h4]
  rw [show ((sumAll (1, 0) (a ++ b)).1, (sumAll (1, 0) (a ++ b)).2) = sumAll (1, 0) (a ++ b) from rfl, ← sumAll_append]
theorem takes1 (a : List Int) : valI (takes (1, 0) [a]) = adler a := by
  unfold adler
  simp only [takes, List.foldl]
  rw [takeI_small 1 0 a (by decide) (by decide)]

theorem row3 {W : World} {a b c : Value} {x y z : List Int} {t : TypeId} (ha : TxtAt W a x) (hb : TxtAt W b y) (hc : TxtAt W c z) : TxtRow (W.alloc (.cells #[a, b, c] t)) W.heap.size 0 [a, b, c] [x, y, z] := {
  len := rfl
  few := by simp
  cell := fun k hk => by
    have hk' : k = 0 ∨ k = 1 ∨ k = 2 := by simp at hk; omega
    rcases hk' with rfl | rfl | rfl <;> simp [World.cell?_alloc_new]
  txt := fun k hk => by
    have hk' : k = 0 ∨ k = 1 ∨ k = 2 := by simp at hk; omega
    rcases hk' with rfl | rfl | rfl
    · exact ha.below (by repeat (first | exact Below.refl _ _ | assumption | refine below_drewN ?_ _ | refine Below.drew ?_ | refine below_alloc ?_ _ | refine Below.alloc ?_ (by first | omega | (simp; done) | (simp; omega)) _ | refine Below.setCell ?_ (by first | omega | (simp; done) | (simp; omega)) _ | (refine Below.trans ?_ (Below.mono (by assumption) (by first | omega | (simp; done) | (simp; omega)))) | refine below_next ?_ (by assumption)))
    · exact hb.below (by repeat (first | exact Below.refl _ _ | assumption | refine below_drewN ?_ _ | refine Below.drew ?_ | refine below_alloc ?_ _ | refine Below.alloc ?_ (by first | omega | (simp; done) | (simp; omega)) _ | refine Below.setCell ?_ (by first | omega | (simp; done) | (simp; omega)) _ | (refine Below.trans ?_ (Below.mono (by assumption) (by first | omega | (simp; done) | (simp; omega)))) | refine below_next ?_ (by assumption)))
    · exact hc.below (by repeat (first | exact Below.refl _ _ | assumption | refine below_drewN ?_ _ | refine Below.drew ?_ | refine below_alloc ?_ _ | refine Below.alloc ?_ (by first | omega | (simp; done) | (simp; omega)) _ | refine Below.setCell ?_ (by first | omega | (simp; done) | (simp; omega)) _ | (refine Below.trans ?_ (Below.mono (by assumption) (by first | omega | (simp; done) | (simp; omega)))) | refine below_next ?_ (by assumption))) }
set_option maxHeartbeats 4000000 in
set_option maxRecDepth 100000 in
theorem parts_main (a b c : Option Addr) (la lb lc ca cb cc : Nat) (za zb zc : List Int) (w : World) (ha : TxtAt w (.slice a la ca) za) (hb : TxtAt w (.slice b lb cb) zb) (hc : TxtAt w (.slice c lc cc) zc)
    (na : za.length = la) (nb : zb.length = lb) (nc : zc.length = lc) (hab : la + lb ≤ 3000) (hlc : lc ≤ 2000) :
    Calls Try.prog 10 #[.slice a la ca, .slice b lb cb, .slice c lc cc] w fun e w' => e = .returned (.bool true) ∧ Below w.heap.size w w' := by
  have d1 : decide (3000 < (la : Int) + (lb : Int)) = false := by simp; omega
  have d2 : decide (2000 < (lc : Int)) = false := by simp; omega
  have HA := Lib.hid ha
  have HB := Lib.hid hb
  have HC := Lib.hid hc
  have NA := Lib.hid na
  have NB := Lib.hid nb
  have NC := Lib.hid nc
  clear ha hb hc na nb nc
  go_enter Try.func10, Try.ntmps10
  go_wp2_with (first
    | (at_builtin; refine wpList_append_txt (by rfl) (.tmp 21) (.tmp 22) (by rfl) w.heap.size (.slice (some ⟨w.heap.size, 0, none⟩) 0 0) [] (by rfl) ?_ (.slice a la ca) za (by rfl) ?_ ?_ ?_ ?_; (exact OwnTxt.new (Nat.le_refl _)); (exact HA.out.below (by repeat (first | exact Below.refl _ _ | assumption | refine below_drewN ?_ _ | refine Below.drew ?_ | refine below_alloc ?_ _ | refine Below.alloc ?_ (by first | omega | (simp; done) | (simp; omega)) _ | refine Below.setCell ?_ (by first | omega | (simp; done) | (simp; omega)) _ | (refine Below.trans ?_ (Below.mono (by assumption) (by first | omega | (simp; done) | (simp; omega)))) | refine below_next ?_ (by assumption)))); (have := NA.out; simp; omega); (simp); intro ad1 n1 cp1 w1 o1 b1 _; have O1 := Lib.hid o1; have B1 := Lib.hid (((Below.refl _ _).alloc (Nat.le_refl _) _).trans b1); clear o1 b1)
    | (at_builtin; refine wpList_append_txt (by rfl) (.tmp 23) (.tmp 24) (by rfl) w.heap.size (.slice ad1 n1 cp1) _ (by rfl) O1.out (.slice b lb cb) zb (by rfl) (HB.out.below B1.out) ?_ B1.out.size ?_; (have := NA.out; have := NB.out; simp; omega); intro ad2 n2 cp2 w2 o2 b2 _; have O2 := Lib.hid o2; have B2 := Lib.hid (B1.out.trans b2); clear o2 b2 O1 B1)
    | (at_builtin; refine wpList_append_txt (by rfl) (.tmp 26) (.tmp 27) (by rfl) w2.heap.size (.slice (some ⟨w2.heap.size, 0, none⟩) 0 0) [] (by rfl) ?_ (.slice ad2 n2 cp2) ([] ++ za ++ zb) (by rfl) ?_ ?_ ?_ ?_; (exact OwnTxt.new (Nat.le_refl _)); (exact O2.out.at.below (by repeat (first | exact Below.refl _ _ | assumption | refine below_drewN ?_ _ | refine Below.drew ?_ | refine below_alloc ?_ _ | refine Below.alloc ?_ (by first | omega | (simp; done) | (simp; omega)) _ | refine Below.setCell ?_ (by first | omega | (simp; done) | (simp; omega)) _ | (refine Below.trans ?_ (Below.mono (by assumption) (by first | omega | (simp; done) | (simp; omega)))) | refine below_next ?_ (by assumption)))); (have := NA.out; have := NB.out; simp; omega); (simp); intro ad3 n3 cp3 w3 o3 b3 _; have O3 := Lib.hid o3; have B3 := Lib.hid (((Below.refl _ _).alloc (Nat.le_refl _) _).trans b3); clear o3 b3)
    | (at_builtin; refine wpList_append_txt (by rfl) (.tmp 28) (.tmp 29) (by rfl) w2.heap.size (.slice ad3 n3 cp3) _ (by rfl) O3.out (.slice c lc cc) zc (by rfl) ((HC.out.below B2.out).below B3.out) ?_ B3.out.size ?_; (have := NA.out; have := NB.out; have := NC.out; simp; omega); intro ad4 n4 cp4 w4 o4 b4 _; have O4 := Lib.hid o4; have B4 := Lib.hid (B3.out.trans b4); clear o4 b4 O3 B3))
  have hBall : Below w.heap.size w w4 := B2.out.trans (B4.out.mono B2.out.size)
  have TALL := Lib.hid O4.out.at
  have TAB := Lib.hid (O2.out.at.below B4.out)
  have TA := Lib.hid (HA.out.below hBall)
  have TB := Lib.hid (HB.out.below hBall)
  have TC := Lib.hid (HC.out.below hBall)
  have E1 := Lib.hid (show [] ++ za ++ zb = za ++ zb by simp)
  have E2 := Lib.hid (show [] ++ ([] ++ za ++ zb) ++ zc = za ++ zb ++ zc by simp)
  rw [E2.out] at TALL
  rw [E1.out] at TAB
  have HBall := Lib.hid hBall
  clear O4 O2 B4 B2 HA HB HC E1 E2 hBall
  have SA := Lib.hid (fun (W : World) (h : Below w4.heap.size w4 W) => sum_some W.heap.size 0 1 _ [za] (by simp) _ (row1 (t := 53) (TA.out.below h)))
  have SB := Lib.hid (fun (W : World) (h : Below w4.heap.size w4 W) => sum_some W.heap.size 0 1 _ [zb] (by simp) _ (row1 (t := 53) (TB.out.below h)))
  have SC := Lib.hid (fun (W : World) (h : Below w4.heap.size w4 W) => sum_some W.heap.size 0 1 _ [zc] (by simp) _ (row1 (t := 53) (TC.out.below h)))
  have SAB := Lib.hid (fun (W : World) (h : Below w4.heap.size w4 W) => sum_some W.heap.size 0 1 _ [za ++ zb] (by simp) _ (row1 (t := 53) (TAB.out.below h)))
  have SALL := Lib.hid (fun (W : World) (h : Below w4.heap.size w4 W) => sum_some W.heap.size 0 1 _ [za ++ zb ++ zc] (by simp) _ (row1 (t := 53) (TALL.out.below h)))
  have S3 := Lib.hid (fun (W : World) (h : Below w4.heap.size w4 W) => sum_some W.heap.size 0 3 _ [za, zb, zc] (by simp) _ (row3 (t := 53) (TA.out.below h) (TB.out.below h) (TC.out.below h)))
  rw [takes1] at SA SB SC SAB SALL
  rw [takes3] at S3
  obtain ⟨_, _, xa0, xa1⟩ := adler_parts za
  obtain ⟨_, _, xb0, xb1⟩ := adler_parts zb
  obtain ⟨_, _, xc0, xc1⟩ := adler_parts zc
  obtain ⟨_, _, xab0, xab1⟩ := adler_parts (za ++ zb)
  have F1 : Hid (∀ W : World, Calls Try.prog 45 #[.int .u32 (adler za), .int .u32 (adler zb), .int .i64 (lb : Int)] W fun e w' => e = .returned (.int .u32 (adler (za ++ zb))) ∧ Below W.heap.size W w') := Lib.hid (fun W => by
    have := both_any (adler za) (adler zb) (lb : Int) xa0 xa1 xb0 xb1 (by omega) W
    have e := both_adler za zb
    rw [NB.out] at e
    unfold bothI at e
    rwa [e] at this)
  have F2 : Hid (∀ W : World, Calls Try.prog 45 #[.int .u32 (adler (za ++ zb)), .int .u32 (adler zc), .int .i64 (lc : Int)] W fun e w' => e = .returned (.int .u32 (adler (za ++ zb ++ zc))) ∧ Below W.heap.size W w') := Lib.hid (fun W => by
    have := both_any (adler (za ++ zb)) (adler zc) (lc : Int) xab0 xab1 xc0 xc1 (by omega) W
    have e := both_adler (za ++ zb) zc
    rw [NC.out] at e
    unfold bothI at e
    rwa [e] at this)
  obtain ⟨⟨k0, k1⟩, k2, k3⟩ := takeI_bd 1 0 (by decide) (by decide) (by decide) (by decide) za
  obtain ⟨⟨m0, m1⟩, m2, m3⟩ := takeI_bd _ _ k0 k2 k1 k3 zb
  obtain ⟨⟨q0, q1⟩, q2, q3⟩ := takeI_bd _ _ m0 m2 m1 m3 zc
  have T1 := Lib.hid (fun (W : World) (h : Below w4.heap.size w4 W) => take_any 1 0 (by decide) (by decide) (by decide) (by decide) _ za W (TA.out.below h))
  have T2 := Lib.hid (fun (W : World) (h : Below w4.heap.size w4 W) => take_any _ _ k0 k2 k1 k3 _ zb W (TB.out.below h))
  have T3 := Lib.hid (fun (W : World) (h : Below w4.heap.size w4 W) => take_any _ _ m0 m2 m1 m3 _ zc W (TC.out.below h))
  have VL : Hid (∀ W : World, Calls Try.prog 42 #[.agg #[.int .u32 (takeI (takeI (takeI 1 0 za).1 (takeI 1 0 za).2 zb).1 (takeI (takeI 1 0 za).1 (takeI 1 0 za).2 zb).2 zc).1, .int .u32 (takeI (takeI (takeI 1 0 za).1 (takeI 1 0 za).2 zb).1 (takeI (takeI 1 0 za).1 (takeI 1 0 za).2 zb).2 zc).2]] W fun e w' => e = .returned (.int .u32 (adler (za ++ zb ++ zc))) ∧ Below W.heap.size W w') := Lib.hid (fun W => by
    have := value_any _ _ q0 q2 q1 q3 W
    rwa [show ((takeI (takeI (takeI 1 0 za).1 (takeI 1 0 za).2 zb).1 (takeI (takeI 1 0 za).1 (takeI 1 0 za).2 zb).2 zc).2 * 65536 + (takeI (takeI (takeI 1 0 za).1 (takeI 1 0 za).2 zb).1 (takeI (takeI 1 0 za).1 (takeI 1 0 za).2 zb).2 zc).1) % 4294967296 = adler (za ++ zb ++ zc) from takes3 za zb zc] at this)
  clear xa0 xa1 xb0 xb1 xc0 xc1 xab0 xab1 k0 k1 k2 k3 m0 m1 m2 m3 q0 q1 q2 q3
  generalize (takeI (takeI (takeI 1 0 za).1 (takeI 1 0 za).2 zb).1 (takeI (takeI 1 0 za).1 (takeI 1 0 za).2 zb).2 zc).1 = P3 at *
  generalize (takeI (takeI (takeI 1 0 za).1 (takeI 1 0 za).2 zb).1 (takeI (takeI 1 0 za).1 (takeI 1 0 za).2 zb).2 zc).2 = Q3 at *
  generalize (takeI (takeI 1 0 za).1 (takeI 1 0 za).2 zb).1 = P2 at *
  generalize (takeI (takeI 1 0 za).1 (takeI 1 0 za).2 zb).2 = Q2 at *
  generalize (takeI 1 0 za).1 = P1 at *
  generalize (takeI 1 0 za).2 = Q1 at *
  generalize adler (za ++ zb ++ zc) = X at *
  generalize adler (za ++ zb) = XAB at *
  generalize adler za = XA at *
  generalize adler zb = XB at *
  generalize adler zc = XC at *
  clear TALL TAB TA TB TC NA NB NC
  refine (SALL.out w4 (Below.refl _ _)).mono ?_
  rintro e w5 ⟨rfl, hb⟩
  have B5 : Below w4.heap.size w4 w5 := below_next (below_alloc (Below.refl _ _) _) hb
  clear hb
  go_wp2_with fail
  refine (S3.out w5 B5).mono ?_
  rintro e w6 ⟨rfl, hb⟩
  have B6 : Below w4.heap.size w4 w6 := below_next (below_alloc B5 _) hb
  clear hb
  go_wp2_with fail
  refine (begin_any _).mono ?_
  rintro e w7 ⟨rfl, hb⟩
  have B7 : Below w4.heap.size w4 w7 := below_next B6 hb
  clear hb
  go_wp2_with fail
  refine (T1.out w7 B7).mono ?_
  rintro e w8 ⟨rfl, hb⟩
  have B8 : Below w4.heap.size w4 w8 := below_next B7 hb
  clear hb
  go_wp2_with fail
  refine (T2.out w8 B8).mono ?_
  rintro e w9 ⟨rfl, hb⟩
  have B9 : Below w4.heap.size w4 w9 := below_next B8 hb
  clear hb
  go_wp2_with fail
  refine (T3.out w9 B9).mono ?_
  rintro e w10 ⟨rfl, hb⟩
  have B10 : Below w4.heap.size w4 w10 := below_next B9 hb
  clear hb
  go_wp2_with fail
  refine (VL.out w10).mono ?_
  rintro e w11 ⟨rfl, hb⟩
  have B11 : Below w4.heap.size w4 w11 := below_next B10 hb
  clear hb
  go_wp2_with fail
  refine (SA.out w11 B11).mono ?_
  rintro e w12 ⟨rfl, hb⟩
  have B12 : Below w4.heap.size w4 w12 := below_next (below_alloc B11 _) hb
  clear hb
  go_wp2_with fail
  refine (SB.out w12 B12).mono ?_
  rintro e w13 ⟨rfl, hb⟩
  have B13 : Below w4.heap.size w4 w13 := below_next (below_alloc B12 _) hb
  clear hb
  go_wp2_with fail
  refine (F1.out w13).mono ?_
  rintro e w14 ⟨rfl, hb⟩
  have B14 : Below w4.heap.size w4 w14 := below_next B13 hb
  clear hb
  go_wp2_with fail
  refine (SAB.out w14 B14).mono ?_
  rintro e w15 ⟨rfl, hb⟩
  have B15 : Below w4.heap.size w4 w15 := below_next (below_alloc B14 _) hb
  clear hb
  go_wp2_with fail
  refine (SAB.out w15 B15).mono ?_
  rintro e w16 ⟨rfl, hb⟩
  have B16 : Below w4.heap.size w4 w16 := below_next (below_alloc B15 _) hb
  clear hb
  go_wp2_with fail
  refine (SC.out w16 B16).mono ?_
  rintro e w17 ⟨rfl, hb⟩
  have B17 : Below w4.heap.size w4 w17 := below_next (below_alloc B16 _) hb
  clear hb
  go_wp2_with fail
  refine (F2.out w17).mono ?_
  rintro e w18 ⟨rfl, hb⟩
  have B18 : Below w4.heap.size w4 w18 := below_next B17 hb
  clear hb
  go_wp2_with fail
  refine (one_any _).mono ?_
  rintro e w19 ⟨rfl, hb⟩
  have B19 : Below w4.heap.size w4 w19 := below_next B18 hb
  clear hb
  go_wp2_with fail
  go_ret
  exact ⟨rfl, HBall.out.trans (B19.mono HBall.out.size)⟩
theorem parts_walk (a b c : Option Addr) (la lb lc ca cb cc : Nat) (za zb zc : List Int) (w : World)
    (ha : TxtAt w (.slice a la ca) za ∧ za.length = la ∧ la ≤ ca ∧ (0 < la → ∃ b off, a = some ⟨b, off, none⟩)) (hb : TxtAt w (.slice b lb cb) zb ∧ zb.length = lb ∧ lb ≤ cb ∧ (0 < lb → ∃ b' off, b = some ⟨b', off, none⟩))
    (hc : TxtAt w (.slice c lc cc) zc ∧ zc.length = lc ∧ lc ≤ cc ∧ (0 < lc → ∃ b off, c = some ⟨b, off, none⟩)) (sa : la ≤ 140737488351232) (sb : lb ≤ 140737488351232) (sc : lc ≤ 140737488351232) :
    Calls Try.prog 10 #[.slice a la ca, .slice b lb cb, .slice c lc cc] w fun e w' => e = .returned (.bool true) ∧ Below w.heap.size w w' := by
  by_cases h1 : la + lb ≤ 3000
  · by_cases h2 : lc ≤ 2000
    · exact parts_main a b c la lb lc ca cb cc za zb zc w ha.1 hb.1 hc.1 ha.2.1 hb.2.1 hc.2.1 h1 h2
    · clear ha hb hc
      have d1 : decide (3000 < (la : Int) + (lb : Int)) = false := by simp; omega
      have d2 : decide (2000 < (lc : Int)) = true := by simp; omega
      go_enter Try.func10, Try.ntmps10
      go_wp2_with fail
      go_ret
      exact ⟨rfl, Below.refl _ _⟩
  · clear ha hb hc
    have d1 : decide (3000 < (la : Int) + (lb : Int)) = true := by simp; omega
    go_enter Try.func10, Try.ntmps10
    go_wp2_with fail
    go_ret
    exact ⟨rfl, Below.refl _ _⟩
end Go.Proofs.Ytjpjlfdlhhnpnaa
