/- JournalFrames walked. Condition: errors.errorType reads as the program's text lays it. -/
import Derived.Test.YtomhfnaekjmjnaaDoorJnm
import Derived.Test.YtomhfnaekjmjnaaDoorJno
import Derived.Test.YtomhfnaekjmjnaaDoorJnR
import Derived.Deep.CutBlock
import Derived.BigQuiet
namespace Go.Proofs.YtomhfnaekjmjnaaDoor
set_option linter.unusedVariables false
open Go.ChangeShapes Go.WideShapes Go.ChangeAt Go.RowKit Go.Lib
attribute [local go_sem ↓] Go.wp_at_zero Go.wp_at_succ comesTo_value_eq comesTo_skip_eq comesTo_enter_eq

theorem TxtAt.mem8 {w : World} {v : Value} {bs : List Int} (h : TxtAt w v bs) : ∀ x ∈ bs, 0 ≤ x ∧ x ≤ 255 := by
  intro x hx
  obtain ⟨k, hk, rfl⟩ := List.getElem_of_mem hx
  have := h.bytes8 k hk
  simpa [List.getD, List.getElem?_eq_getElem hk] using this
theorem parse_many : ∀ (k : Nat) (xs : List Int), xs.length ≤ k → (parseF xs).1.length ≤ xs.length := by
  intro k
  induction k with
  | zero => intro xs h; rw [parse_none (by unfold firstF; rw [if_pos (by omega)])]; exact Nat.zero_le _
  | succ k ih =>
    intro xs h
    cases hf : firstF xs with
    | none => rw [parse_none hf]; exact Nat.zero_le _
    | some p =>
      obtain ⟨r, n⟩ := p
      have hp := first_pos hf
      have hd : (xs.drop n).length = xs.length - n := List.length_drop
      rw [parse_some hf]
      have := ih (xs.drop n) (by omega)
      simp only [List.length_cons]
      omega
set_option maxRecDepth 100000 in
set_option maxHeartbeats 4000000 in
theorem jframes_any (g : Int) (bs : List Int) (ad : Option Addr) (c : Nat) (hg : -9223372036854775808 ≤ g ∧ g ≤ 9223372036854775807) (bad : Option Addr) (bn bc : Nat) (zs : List Int) (W : World) (hT : TxtAt W (.slice ad bs.length c) bs) (hZ : TxtAt W (.slice bad bn bc) zs ∧ zs.length = bn ∧ bn ≤ bc ∧ (0 < bn → ∃ b off, bad = some ⟨b, off, none⟩)) (hE : ErrAt W) :
    Calls Tryd.prog 3 #[.agg #[.int .i64 g, .slice ad bs.length c], .slice bad bn bc] W fun e W' => e = .returned (.bool true) ∧ Below W.heap.size W W' := by
  have hmx : Tryd.prog.follows .mixedOrders = true := by kernel_rfl
  obtain ⟨hzt, hzl, hzc, hzz⟩ := hZ
  clear hzz
  have hb0 := below_alloc (Below.refl _ W) (.cells #[.int .i64 g, .slice ad bs.length c] 24)
  have n0 := World.alloc_heap_new W (.cells #[.int .i64 g, .slice ad bs.length c] 24)
  have HLT := Lib.hid (show W.heap.size < (W.alloc (.cells #[.int .i64 g, .slice ad bs.length c] 24)).heap.size by simp)
  have HE := Lib.hid (fun X (hX : Below W.heap.size W X) => hE.below hX)
  have HT := Lib.hid (fun X (hX : Below W.heap.size W X) => hT.below hX)
  have HZT := Lib.hid (fun X (hX : Below W.heap.size W X) => hzt.below hX)
  have HZV := Lib.hid (fun X (hX : Below W.heap.size W X) => txt_conv hzt X hX)
  have HB8 := Lib.hid hT.mem8
  have HZ8 := Lib.hid hzt.mem8
  have HG := Lib.hid hg
  have HB0 := Lib.hid hb0
  have HN := Lib.hid n0
  have HZL := Lib.hid (And.intro hzl hzc)
  obtain ⟨n, hn⟩ : ∃ n, n = bs.length := ⟨_, rfl⟩
  have HNL := Lib.hid hn
  rw [← hn] at HT HN HB0 HLT ⊢
  have c0 := cell_of_block (o := 0) HN.out rfl
  have c1 := cell_of_block (o := 1) HN.out rfl
  have hA := hb0
  rw [← hn] at hA
  clear hb0 n0 hE hT hzt hg hzl hzc hn
  go_enter Tryd.func3, Tryd.ntmps3
  go_upto_region 1 with fail
  have HA := Lib.hid hA
  clear hA
  generalize W.alloc (.cells #[.int .i64 g, .slice ad n c] 24) = W0 at *
  by_cases hl1 : 3000 < n
  · have hd : decide ((n : Int) > 3000) = true := decide_eq_true (by omega)
    have hd2 : decide (3000 < n) = true := decide_eq_true hl1
    clear hl1
    go_wp2_with fail
    go_ret
    exact ⟨rfl, HA.out⟩
  have hd : decide ((n : Int) > 3000) = false := decide_eq_false (by omega)
  have hd2 : decide (3000 < n) = false := decide_eq_false hl1
  by_cases hl2 : 5000 < bn
  · have hd3 : decide ((bn : Int) > 5000) = true := decide_eq_true (by omega)
    have hd4 : decide (5000 < bn) = true := decide_eq_true hl2
    clear hl1 hl2
    go_wp2_with fail
    go_ret
    exact ⟨rfl, HA.out⟩
  have hd3 : decide ((bn : Int) > 5000) = false := decide_eq_false (by omega)
  have hd4 : decide (5000 < bn) = false := decide_eq_false hl2
  have HLN := Lib.hid (And.intro hl1 hl2)
  clear hl1 hl2
  have KF := Lib.hid (frame_any g HG.out (HT.out W0 HA.out))
  go_wp2_with fail
  refine KF.out.mono ?_
  rintro e w1 ⟨u, rfl, ho1, hb1⟩
  have hle : bs.length ≤ 65536 := by have := HLN.out; have := HNL.out; omega
  simp only at ho1
  rw [if_pos hle] at ho1
  rw [if_pos (show (g, bs).2.length ≤ 65536 from hle)]
  obtain ⟨ua, un, uc, rfl⟩ : ∃ a n c, u = .slice a n c := by
    rcases ho1.form with ⟨rfl, _⟩ | ⟨g', c', rfl, _⟩
    · exact ⟨_, _, _, rfl⟩
    · exact ⟨_, _, _, rfl⟩
  have HO1 := Lib.hid ho1
  have hB1 := HA.out.trans (hb1.mono HA.out.size)
  have HB1 := Lib.hid hB1
  have n1 := (hb1.block _ HLT.out).trans HN.out
  have c0' := cell_of_block (o := 0) n1 rfl
  have c1' := cell_of_block (o := 1) n1 rfl
  have KO := Lib.hid (own_any (HT.out w1 hB1) g)
  clear ho1 hB1 hb1 KF c0 c1
  have HN1 := Lib.hid n1
  clear n1
  go_wp2_with fail
  refine KO.out.mono ?_
  rintro e w2 ⟨rfl, hb2⟩
  have hB2 := HB1.out.trans (hb2.mono HB1.out.size)
  have HB2 := Lib.hid hB2
  have HO2 := Lib.hid (HO1.out.below hb2)
  have KR := Lib.hid (rframe_any (r := (g, bs)) HG.out HB8.out (by simp only; omega) w2)
  clear hb2 hB2 c0' c1' KO
  go_wp2_with fail
  refine KR.out.mono ?_
  rintro e w3 ⟨rfl, hb3⟩
  simp only
  rw [if_pos hle, if_pos hle]
  have hB3 := HB2.out.trans (hb3.mono HB2.out.size)
  have HB3 := Lib.hid hB3
  have HO3 := Lib.hid (HO2.out.below hb3)
  have KP := Lib.hid (parse_any (HZT.out w3 hB3) HZL.out.2 (by have := HLN.out; have := HZL.out; omega) (HE.out w3 hB3))
  clear hb3 hB3 KR
  go_wp2_with fail
  refine KP.out.mono ?_
  rintro e w4 ⟨v4, l, rfl, hrec, hmap, hb4⟩
  have hB4 := HB3.out.trans (hb4.mono HB3.out.size)
  have HB4 := Lib.hid hB4
  have HO4 := Lib.hid (HO3.out.below hb4)
  have hcv4 := HZV.out w4 hB4
  have KRP := Lib.hid (rparse_any (xs := zs) HZ8.out (by have := HLN.out; have := HZL.out; omega) w4)
  have HREC := Lib.hid hrec
  have HMAP := Lib.hid hmap
  clear hb4 hB4 hrec hmap KP
  go_wp2_with fail
  refine KRP.out.mono ?_
  rintro e w5 ⟨v5, rfl, hown, hb5⟩
  have hB5 := HB4.out.trans (hb5.mono HB4.out.size)
  have HB5 := Lib.hid hB5
  have hO5 := HO4.out.below hb5
  have hcv5 := txt_conv hO5.at w5 (Below.refl _ _)
  obtain ⟨SF, hSF⟩ : ∃ SF, SF = strOfNums (frameF (g, bs)) := ⟨_, rfl⟩
  rw [← hSF] at hcv5 ⊢
  obtain ⟨q, hq⟩ : ∃ q, q = (parseF zs).1.length := ⟨_, rfl⟩
  have hll : l.length = q := by have := congrArg List.length HMAP.out; rw [List.length_map] at this; rw [hq]; exact this
  obtain ⟨ra, rc, rfl⟩ : ∃ a c, v4 = .slice a q c := by
    rcases HREC.out.form with ⟨h, rfl⟩ | ⟨g, c, rfl, _⟩
    · rw [h] at hll; exact ⟨none, 0, by rw [← hll]; rfl⟩
    · exact ⟨_, _, by rw [hll]⟩
  obtain ⟨ma, mc, rfl⟩ : ∃ a c, v5 = .slice a q c := by
    rcases hown.form with ⟨h, rfl⟩ | ⟨g, c, rfl, _⟩
    · rw [h] at hq; exact ⟨none, 0, by rw [hq]; rfl⟩
    · exact ⟨_, _, by rw [hq]⟩
  have hR5 := HREC.out.below hb5
  have HR5 := Lib.hid hR5
  have HOW := Lib.hid hown
  have HLL := Lib.hid (And.intro hll hq)
  have hqb : q ≤ 5000 := by
    have h1 := parse_many zs.length zs (Nat.le_refl _)
    have h2 := HLN.out
    have h3 := HZL.out
    omega
  have HQB := Lib.hid hqb
  clear hSF hll hq hR5 hown hb5 hB5 hO5 hcv4 KRP HREC hqb
  go_upto_block 0 with fail
  go_cut [] (fun wx => Below w5.heap.size w5 wx)
  case first =>
    go_wp2_with fail
    go_loopw [13] (fun i wr => ∃ j : Nat, j ≤ q ∧ i = .int .i64 j ∧ Below w5.heap.size w5 wr) (fun i _ => q - (intOf i).toNat)
    case atStart => exact ⟨0, Nat.zero_le _, rfl, Below.refl _ _⟩
    case round =>
      obtain ⟨j, hj, rfl, hb⟩ := hrel
      have HB := Lib.hid hb
      by_cases hlt : j < q
      case pos =>
        have hd9 : decide (j < q) = true := decide_eq_true hlt
        have hix : (j : Int) < (q : Int) := by omega
        have hwk : IntKind.i64.wrap ((j : Int) + 1) = ((j + 1 : Nat) : Int) := by have := HQB.out; rw [IntKind.wrap_i64]; omega
        obtain ⟨hll, hq⟩ := HLL.out
        obtain ⟨x, hx⟩ : ∃ x, l[j]? = some x := ⟨_, List.getElem?_eq_getElem (by omega)⟩
        have hxr : (parseF zs).1[j]? = some x.rc := by rw [← HMAP.out, List.getElem?_map, hx]; rfl
        obtain ⟨g1, rfl, z1, e1, e2⟩ : ∃ g1, ra = some ⟨g1, 0, none⟩ ∧ g1 < w5.heap.size ∧ w5.cell? ⟨g1, j * 2, none⟩ = some (.int .i64 x.g) ∧ w5.cell? ⟨g1, j * 2 + 1, none⟩ = some x.val := by
          rcases HR5.out.form with ⟨h, _⟩ | ⟨g', c', h1, _, h3, h4⟩
          · rw [h] at hll; simp at hll; omega
          · injection h1 with h1 _ _
            exact ⟨g', h1, h3, (h4 j x hx).1, (h4 j x hx).2⟩
        obtain ⟨g2, rfl, z2, e3, e4⟩ : ∃ g2, ma = some ⟨g2, 0, none⟩ ∧ g2 < w5.heap.size ∧ w5.cell? ⟨g2, j * 2, none⟩ = some (.int .i64 x.g) ∧ w5.cell? ⟨g2, j * 2 + 1, none⟩ = some (.string (strOfNums x.bs)) := by
          rcases (show OwnR w5 w4.heap.size (.slice ma q mc) (parseF zs).1 from HOW.out).form with ⟨h, _⟩ | ⟨g', c', h1, _, h3, h4⟩
          · rw [h] at hq; simp at hq; omega
          · injection h1 with h1 _ _
            exact ⟨g', h1, h3, (h4 j x.rc hxr).1, (h4 j x.rc hxr).2⟩
        have htx := (HR5.out.txt x (List.mem_of_getElem? hx)).at
        obtain ⟨xg, xb, xa⟩ := x
        unfold RV.val at e2 htx
        simp only at e1 e2 e3 e4 htx
        have q0 := (hb.cell (p := ⟨g1, j * 2, none⟩) z1).trans e1
        have q1 := (hb.cell (p := ⟨g1, j * 2 + 1, none⟩) z1).trans e2
        have q2 := (hb.cell (p := ⟨g2, j * 2, none⟩) z2).trans e3
        have q3 := (hb.cell (p := ⟨g2, j * 2 + 1, none⟩) z2).trans e4
        obtain ⟨xs, hxs⟩ : ∃ xs, xs = strOfNums xb := ⟨_, rfl⟩
        obtain ⟨xn, hxn⟩ : ∃ xn, xn = xb.length := ⟨_, rfl⟩
        have htw := (htx.below hb).below (Below.refl wr.heap.size wr).drew
        rw [← hxs] at q3
        rw [← hxn] at q1 htw
        have KOW := Lib.hid (own_any htw xg)
        rw [← hxs] at KOW
        have HZZ := Lib.hid (And.intro (Nat.lt_of_lt_of_le z1 hb.size) (Nat.lt_of_lt_of_le z2 hb.size))
        clear e1 e2 e3 e4 htx htw hx hxr hb hlt hll hq hxs hxn
        go_upto_region 12 with fail
        refine wp_region_held (S := fun X => X.cell? ⟨g1, j * 2, none⟩ = some (.int .i64 xg) ∧ X.cell? ⟨g1, j * 2 + 1, none⟩ = some (.slice xa xn xn) ∧ X.cell? ⟨g2, j * 2, none⟩ = some (.int .i64 xg) ∧ X.cell? ⟨g2, j * 2 + 1, none⟩ = some (.string xs)) hmx ?_
        change wpAnyH _ _ _ _ _ 10 _ _ wr.drew
        have hSS : wr.drew.cell? ⟨g1, j * 2, none⟩ = some (.int .i64 xg) ∧ wr.drew.cell? ⟨g1, j * 2 + 1, none⟩ = some (.slice xa xn xn) ∧ wr.drew.cell? ⟨g2, j * 2, none⟩ = some (.int .i64 xg) ∧ wr.drew.cell? ⟨g2, j * 2 + 1, none⟩ = some (.string xs) := ⟨q0, q1, q2, q3⟩
        clear q0 q1 q2 q3
        refine wpAnyH_take (i := 0) (v := .slice (some ⟨g1, 0, none⟩) q rc) rfl (by decide +kernel) (by decide +kernel) (by decide +kernel) (fun _ _ _ h => h) (.inl ⟨by first | rfl | (go_simp; done), fun X hX => by have hx1 := hX.1; have hx2 := hX.2.1; have hx3 := hX.2.2.1; have hx4 := hX.2.2.2; clear hX; first | (go_simp; done) | (go_simp; rfl)⟩) hSS ?_
        refine wpAnyH_take (i := 1) (v := .int .i64 j) rfl (by decide +kernel) (by decide +kernel) (by decide +kernel) (fun _ _ _ h => h) (.inl ⟨by first | rfl | (go_simp; done), fun X hX => by have hx1 := hX.1; have hx2 := hX.2.1; have hx3 := hX.2.2.1; have hx4 := hX.2.2.2; clear hX; first | (go_simp; done) | (go_simp; rfl)⟩) hSS ?_
        refine wpAnyH_take (i := 2) (v := .pointer (some ⟨g1, j * 2, none⟩)) rfl (by decide +kernel) (by decide +kernel) (by decide +kernel) (fun _ _ _ h => h) (.inl ⟨by first | rfl | (go_simp; done), fun X hX => by have hx1 := hX.1; have hx2 := hX.2.1; have hx3 := hX.2.2.1; have hx4 := hX.2.2.2; clear hX; first | (go_simp; done) | (go_simp; rfl)⟩) hSS ?_
        refine wpAnyH_take (i := 3) (v := .agg #[.int .i64 xg, .slice xa xn xn]) rfl (by decide +kernel) (by decide +kernel) (by decide +kernel) (fun _ _ _ h => h) (.inl ⟨by first | rfl | (go_simp; done), fun X hX => by have hx1 := hX.1; have hx2 := hX.2.1; have hx3 := hX.2.2.1; have hx4 := hX.2.2.2; clear hX; first | (go_simp; done) | (go_simp; rfl)⟩) hSS ?_
        refine wpAnyH_take (i := 5) (v := .slice (some ⟨g2, 0, none⟩) q mc) rfl (by decide +kernel) (by decide +kernel) (by decide +kernel) (fun _ _ _ h => h) (.inl ⟨by first | rfl | (go_simp; done), fun X hX => by have hx1 := hX.1; have hx2 := hX.2.1; have hx3 := hX.2.2.1; have hx4 := hX.2.2.2; clear hX; first | (go_simp; done) | (go_simp; rfl)⟩) hSS ?_
        refine wpAnyH_take (i := 6) (v := .int .i64 j) rfl (by decide +kernel) (by decide +kernel) (by decide +kernel) (fun _ _ _ h => h) (.inl ⟨by first | rfl | (go_simp; done), fun X hX => by have hx1 := hX.1; have hx2 := hX.2.1; have hx3 := hX.2.2.1; have hx4 := hX.2.2.2; clear hX; first | (go_simp; done) | (go_simp; rfl)⟩) hSS ?_
        refine wpAnyH_take (i := 7) (v := .pointer (some ⟨g2, j * 2, none⟩)) rfl (by decide +kernel) (by decide +kernel) (by decide +kernel) (fun _ _ _ h => h) (.inl ⟨by first | rfl | (go_simp; done), fun X hX => by have hx1 := hX.1; have hx2 := hX.2.1; have hx3 := hX.2.2.1; have hx4 := hX.2.2.2; clear hX; first | (go_simp; done) | (go_simp; rfl)⟩) hSS ?_
        refine wpAnyH_take (i := 8) (v := .agg #[.int .i64 xg, .string xs]) rfl (by decide +kernel) (by decide +kernel) (by decide +kernel) (fun _ _ _ h => h) (.inl ⟨by first | rfl | (go_simp; done), fun X hX => by have hx1 := hX.1; have hx2 := hX.2.1; have hx3 := hX.2.2.1; have hx4 := hX.2.2.2; clear hX; first | (go_simp; done) | (go_simp; rfl)⟩) hSS ?_
        refine anyH_call (i := 4) (by decide +kernel) rfl (by first | rfl | (go_simp; done)) (by go_simp) KOW.out ?_
        rintro e w7 ⟨rfl, hb7⟩
        have hS7 : w7.cell? ⟨g1, j * 2, none⟩ = some (.int .i64 xg) ∧ w7.cell? ⟨g1, j * 2 + 1, none⟩ = some (.slice xa xn xn) ∧ w7.cell? ⟨g2, j * 2, none⟩ = some (.int .i64 xg) ∧ w7.cell? ⟨g2, j * 2 + 1, none⟩ = some (.string xs) :=
          ⟨(hb7.cell (p := ⟨g1, j * 2, none⟩) HZZ.out.1).trans hSS.1, (hb7.cell (p := ⟨g1, j * 2 + 1, none⟩) HZZ.out.1).trans hSS.2.1, (hb7.cell (p := ⟨g2, j * 2, none⟩) HZZ.out.2).trans hSS.2.2.1, (hb7.cell (p := ⟨g2, j * 2 + 1, none⟩) HZZ.out.2).trans hSS.2.2.2⟩
        refine ⟨_, rfl, hS7, ?_⟩
        refine wpAnyH_take (i := 9) (v := .bool false) rfl (by decide +kernel) (by decide +kernel) (by decide +kernel) (fun _ _ _ h => h) (.inl ⟨by first | rfl | (go_simp; done), fun X hX => exec_neqR (g := xg) (s := xs) rfl (by go_simp) (by go_simp) X⟩) hS7 ?_
        refine wpAnyH_done (by decide +kernel) ?_ _
        have HB7 := Lib.hid (HB.out.trans (((Below.refl wr.heap.size wr).drew.trans hb7).mono HB.out.size))
        clear hS7 hSS hb7
        go_simp
        go_wp2_with fail
        go_roundw
        case rel => exact ⟨j + 1, by omega, by go_num, HB7.out⟩
        case measure => simp [intOf]; omega
      case neg =>
        have hd9 : decide (j < q) = false := decide_eq_false hlt
        clear hlt hb
        go_wp2_with fail
        go_meet
        exact HB.out
  case rest =>
  have HB6 := Lib.hid (HB5.out.trans (hcut.mono HB5.out.size))
  have KJ := Lib.hid (fun X (hX : Below W.heap.size W X) => one_jn X (HE.out X hX))
  go_wp2_with fail
  refine (KJ.out _ HB6.out).mono ?_
  rintro e w10 ⟨rfl, hb10⟩
  have HB10 := Lib.hid (HB6.out.trans (hb10.mono HB6.out.size))
  clear hb10
  go_wp2_with fail
  go_ret
  exact ⟨rfl, HB10.out⟩
end Go.Proofs.YtomhfnaekjmjnaaDoor
