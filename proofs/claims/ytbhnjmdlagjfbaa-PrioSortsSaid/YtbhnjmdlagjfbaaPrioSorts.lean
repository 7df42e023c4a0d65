/- PrioSorts walked, at any items (layer 13). No condition. -/
import Derived.Test.YtbhnjmdlagjfbaaPrsA
namespace Go.Proofs.Ytbhnjmdlagjfbaa
set_option linter.unusedVariables false
open Go.ChangeShapes Go.WideShapes Go.ChangeAt Go.RowKit Go.Sort Go.Shelf
attribute [local go_sem ↓] Go.wp_at_zero Go.wp_at_succ comesTo_value_eq comesTo_skip_eq comesTo_enter_eq Rl.comesToR_value_eq Rl.comesToR_skip_eq Rl.comesToR_enter_eq

set_option maxRecDepth 100000 in
set_option maxHeartbeats 16000000 in
theorem sorts_walk (a : Option Addr) (n0 c : Nat) (zs : List (Int × Int)) (w : World) (hr0 : RowP w (.slice a n0 c) zs) (hn0 : zs.length = n0) :
    Calls Try.prog 9 #[.slice a n0 c] w fun e w' => e = .returned (.bool true) ∧ Below w.heap.size w w' := by
  have hmx : Try.prog.follows .mixedOrders = true := by kernel_rfl
  obtain ⟨l, hl⟩ : ∃ l, l = zs.take 100 := ⟨_, rfl⟩
  obtain ⟨n, hn⟩ : ∃ n, n = l.length := ⟨_, rfl⟩
  have hn100 : n ≤ 100 := by rw [hn, hl]; simp; omega
  have HR := Lib.hid (show RowP w (.slice a n c) l from by
    by_cases h : zs.length ≤ 100
    · have e : l = zs := by rw [hl, List.take_of_length_le h]
      rw [hn, e, hn0]; exact hr0
    · have e : n = 100 := by rw [hn, hl]; simp; omega
      rw [e, hl]; exact hr0.take 100 (by omega))
  have HN := Lib.hid (show (if 100 < n0 then 100 else n0) = n from by rw [hn, hl, ← hn0]; simp only [List.length_take]; split <;> omega)
  have HC := Lib.hid (show n0 ≤ c from by obtain ⟨a', c', h1, h2, _⟩ := hr0; injection h1 with _ _ e3; rw [← hn0, e3]; exact h2)
  have HNL := Lib.hid hn
  have H100 := Lib.hid hn100
  clear hr0 hl hn hn100
  obtain ⟨ba, hba⟩ : ∃ ba, ba = decide (100 < n0) := ⟨_, rfl⟩
  have hd1 : decide ((n0 : Int) > 100) = ba := by rw [hba]; exact decide_eq_decide.2 (by omega)
  have hd2 : decide ((100 : Int) < (n0 : Int)) = ba := by rw [hba]; exact decide_eq_decide.2 (by omega)
  have hd3 : decide (100 < n0) = ba := hba.symm
  have HBA := Lib.hid hba
  clear hba
  go_enter Try.func9, Try.ntmps9
  go_upto_if 10 with fail
  clear hd1 hd2 hd3
  go_cut [0] (fun s wx => s = .slice a n c ∧ wx = w)
  case first =>
    cases ba with
    | true =>
      have hgt : 100 < n0 := by simpa using HBA.out.symm
      have hn1 : n = 100 := by rw [← HN.out, if_pos hgt]
      subst hn1
      have hc1 : ((100 : Nat) : Int) ≤ (c : Int) := by have := HC.out; omega
      have hc2 : (100 : Int) ≤ (c : Int) := by have := HC.out; omega
      have hc3 : 100 ≤ c := by have := HC.out; omega
      go_wp2_with fail
      go_meet
      exact ⟨rfl, rfl⟩
    | false =>
      have hgt : ¬ 100 < n0 := by simpa using HBA.out.symm
      have hn1 : n = n0 := by rw [← HN.out, if_neg hgt]
      subst hn1
      go_wp2_with fail
      go_meet
      exact ⟨rfl, rfl⟩
  case rest =>
  obtain ⟨rfl, rfl⟩ := hcut
  clear HBA HC HN
  obtain ⟨w0, hw0⟩ : ∃ x, x = wc := ⟨_, rfl⟩
  subst hw0
  go_wp2_with fail
  go_loopw [3, 4] (fun so si wr => ∃ i : Nat, i ≤ n ∧ si = .int .i64 i ∧ OwnQ wr w0.heap.size so (l.take i) ∧ Below w0.heap.size w0 wr) (fun _ si _ => n - (intOf si).toNat)
  case atStart => exact ⟨0, Nat.zero_le _, rfl, by simp only [List.take_zero]; exact ⟨rfl, .inl ⟨rfl, rfl⟩⟩, Below.refl _ _⟩
  case round =>
    obtain ⟨i, hin, rfl, hown, hbr⟩ := hrel
    have HBR := Lib.hid hbr
    have HO := Lib.hid hown
    clear hbr hown
    by_cases hlt : i < n
    case pos =>
      obtain ⟨bl, ol, rfl, hll, hLc⟩ := HR.out.at (i := i) (by have := HNL.out; omega)
      have XL := Lib.hid (fun (Y : World) (hY : Below w0.heap.size w0 Y) => (hLc i (by have := HNL.out; omega)).below hY)
      have HNX := Lib.hid (show l.take (i + 1) = l.take i ++ [l.getD i (0, 0)] from by
        rw [List.take_add_one, List.getElem?_eq_getElem (by have := HNL.out; omega)]
        simp [List.getD, List.getElem?_eq_getElem (show i < l.length by have := HNL.out; omega)])
      have HUL := Lib.hid (show (l.take i).length = i by simp; have := HNL.out; omega)
      obtain ⟨ao, co, hso, _⟩ := HO.out.rowP
      rw [HUL.out] at hso
      subst hso
      generalize l.getD i (0, 0) = p at *
      obtain ⟨p1, p2⟩ := p
      dsimp only at XL
      have hltI : (i : Int) < (n : Int) := by omega
      have hw1 : IntKind.i64.wrap ((i : Int) + 1) = (i : Int) + 1 := by have := H100.out; rw [IntKind.wrap_i64]; omega
      have HLT := Lib.hid hlt
      clear hlt hin hll hLc
      go_upto_region 7 with fail
      have hS0 := XL.out wr HBR.out
      refine Ap.wp_region_K (S1 := fun X => X.cell? ⟨bl, ol + i * 2, none⟩ = some (.int .i64 p1) ∧ X.cell? ⟨bl, ol + i * 2 + 1, none⟩ = some (.int .i64 p2)) (S2 := fun _ => True) (js := 14) hmx ?_
      change Ap.wpAnyK _ _ _ _ _ _ _ 15 _ _ wr.drew
      have hS : wr.drew.cell? ⟨bl, ol + i * 2, none⟩ = some (.int .i64 p1) ∧ wr.drew.cell? ⟨bl, ol + i * 2 + 1, none⟩ = some (.int .i64 p2) := ⟨hS0.c0, hS0.c1⟩
      clear hS0
      refine Ap.wpAnyK_take1 (i := 0) (v := .slice ao i co) rfl (by decide) (by decide +kernel) (by decide +kernel) (by decide +kernel) (fun _ _ _ h => h) (.inl ⟨by first | rfl | (go_simp; done), fun X hX => by clear hX; first | (go_simp; done) | (go_simp; rfl)⟩) ⟨hS, trivial⟩ ?_
      refine Ap.wpAnyK_take1 (i := 1) (v := .slice (some ⟨bl, ol, none⟩) n c) rfl (by decide) (by decide +kernel) (by decide +kernel) (by decide +kernel) (fun _ _ _ h => h) (.inl ⟨by first | rfl | (go_simp; done), fun X hX => by clear hX; first | (go_simp; done) | (go_simp; rfl)⟩) ⟨hS, trivial⟩ ?_
      refine Ap.wpAnyK_take1 (i := 2) (v := .int .i64 i) rfl (by decide) (by decide +kernel) (by decide +kernel) (by decide +kernel) (fun _ _ _ h => h) (.inl ⟨by first | rfl | (go_simp; done), fun X hX => by clear hX; first | (go_simp; done) | (go_simp; rfl)⟩) ⟨hS, trivial⟩ ?_
      refine Ap.wpAnyK_take1 (i := 3) (v := .pointer (some ⟨bl, ol + i * 2, none⟩)) rfl (by decide) (by decide +kernel) (by decide +kernel) (by decide +kernel) (fun _ _ _ h => h) (.inl ⟨by first | rfl | (go_simp; done), fun X hX => by clear hX; first | (go_simp; done) | (go_simp; rfl)⟩) ⟨hS, trivial⟩ ?_
      refine Ap.wpAnyK_take1 (i := 4) (v := .pointer (some ⟨bl, ol + i * 2, none⟩)) rfl (by decide) (by decide +kernel) (by decide +kernel) (by decide +kernel) (fun _ _ _ h => h) (.inl ⟨by first | rfl | (go_simp; done), fun X hX => by clear hX; first | (go_simp; done) | (go_simp; rfl)⟩) ⟨hS, trivial⟩ ?_
      refine Ap.wpAnyK_take1 (i := 5) (v := .int .i64 p1) rfl (by decide) (by decide +kernel) (by decide +kernel) (by decide +kernel) (fun _ _ _ h => h) (.inl ⟨by first | rfl | (go_simp; done), fun X hX => by obtain ⟨hx0, hx1⟩ := hX; first | (go_simp; done) | (go_simp; rfl)⟩) ⟨hS, trivial⟩ ?_
      refine Ap.wpAnyK_take1 (i := 6) (v := .slice (some ⟨bl, ol, none⟩) n c) rfl (by decide) (by decide +kernel) (by decide +kernel) (by decide +kernel) (fun _ _ _ h => h) (.inl ⟨by first | rfl | (go_simp; done), fun X hX => by clear hX; first | (go_simp; done) | (go_simp; rfl)⟩) ⟨hS, trivial⟩ ?_
      refine Ap.wpAnyK_take1 (i := 7) (v := .int .i64 i) rfl (by decide) (by decide +kernel) (by decide +kernel) (by decide +kernel) (fun _ _ _ h => h) (.inl ⟨by first | rfl | (go_simp; done), fun X hX => by clear hX; first | (go_simp; done) | (go_simp; rfl)⟩) ⟨hS, trivial⟩ ?_
      refine Ap.wpAnyK_take1 (i := 8) (v := .pointer (some ⟨bl, ol + i * 2, none⟩)) rfl (by decide) (by decide +kernel) (by decide +kernel) (by decide +kernel) (fun _ _ _ h => h) (.inl ⟨by first | rfl | (go_simp; done), fun X hX => by clear hX; first | (go_simp; done) | (go_simp; rfl)⟩) ⟨hS, trivial⟩ ?_
      refine Ap.wpAnyK_take1 (i := 9) (v := .pointer (some ⟨bl, ol + i * 2 + 1, none⟩)) rfl (by decide) (by decide +kernel) (by decide +kernel) (by decide +kernel) (fun _ _ _ h => h) (.inl ⟨by first | rfl | (go_simp; done), fun X hX => by clear hX; first | (go_simp; done) | (go_simp; rfl)⟩) ⟨hS, trivial⟩ ?_
      refine Ap.wpAnyK_take1 (i := 10) (v := .int .i64 p2) rfl (by decide) (by decide +kernel) (by decide +kernel) (by decide +kernel) (fun _ _ _ h => h) (.inl ⟨by first | rfl | (go_simp; done), fun X hX => by obtain ⟨hx0, hx1⟩ := hX; first | (go_simp; done) | (go_simp; rfl)⟩) ⟨hS, trivial⟩ ?_
      refine Ap.wpAnyK_take1 (i := 11) (v := .agg #[.int .i64 p1, .int .i64 p2]) rfl (by decide) (by decide +kernel) (by decide +kernel) (by decide +kernel) (fun _ _ _ h => h) (.inl ⟨by first | rfl | (go_simp; done), fun X hX => by clear hX; first | (go_simp; done) | (go_simp; rfl)⟩) ⟨hS, trivial⟩ ?_
      have bd := below_alloc (Below.drew (Below.refl _ wr)) (.cells #[.int .i64 p1, .int .i64 p2] 98)
      have nd := World.alloc_heap_new wr.drew (.cells #[.int .i64 p1, .int .i64 p2] 98)
      have hh1 := (XL.out wr HBR.out).below bd
      refine Ap.anyK_val1 (i := 12) (v := .slice (some ⟨wr.drew.heap.size, 0, none⟩) 1 1) (w' := wr.drew.alloc (.cells #[.int .i64 p1, .int .i64 p2] 98)) (by decide +kernel) rfl rfl (by first | (go_simp; done) | (go_simp; rfl)) ⟨⟨hh1.c0, hh1.c1⟩, trivial⟩ ?_
      have hrd : Ap.RdG (wr.drew.alloc (.cells #[.int .i64 p1, .int .i64 p2] 98)) 2 (.slice (some ⟨wr.drew.heap.size, 0, none⟩) 1 1) 1 [.int .i64 p1, .int .i64 p2] :=
        ⟨⟨_, 1, rfl, (fun h => by cases h), (fun x hx j u hj => by
          cases hx
          rw [addp]
          rcases (by have : j < 2 := (List.getElem?_eq_some_iff.1 hj).1
                     omega : j = 0 ∨ j = 1) with rfl | rfl
          · simp at hj; subst hj; exact cell_of_block (o := 0) nd rfl
          · simp at hj; subst hj; exact cell_of_block (o := 1) nd rfl), (fun x hx hm => by cases hx; exact (Array.getElem?_eq_some_iff.1 nd).1)⟩, rfl, fun u hu => by simp at hu; rcases hu with rfl | rfl <;> rfl⟩
      have hb1 := H100.out
      have hb2 := HLT.out
      have hOw : OwnQ (wr.drew.alloc (.cells #[.int .i64 p1, .int .i64 p2] 98)) w0.heap.size (.slice ao i co) (l.take i) := HO.out.below bd
      unfold OwnQ at hOw
      rw [HUL.out] at hOw
      obtain ⟨v1, X1, hrun, hown2, _, hbel⟩ := Ap.run_app eltQ 95 w0.heap.size (.slice ao i co) i _ hOw _ 1 _ hrd (by unfold maxLen; omega) (by omega) (Nat.le_trans HBR.out.size bd.size)
      have HB1 := Lib.hid (show Below w0.heap.size w0 X1 from Below.trans (Below.trans HBR.out (Below.mono bd HBR.out.size)) hbel)
      have hS1 : X1.cell? ⟨bl, ol + i * 2, none⟩ = some (.int .i64 p1) ∧ X1.cell? ⟨bl, ol + i * 2 + 1, none⟩ = some (.int .i64 p2) := ⟨(XL.out X1 HB1.out).c0, (XL.out X1 HB1.out).c1⟩
      refine Ap.anyK_val1 (i := 13) (v := v1) (w' := X1) (by decide +kernel) rfl rfl (Ap.exec_app rfl (by simp [Act.put, Act.eval]) (by simp [Act.put, Act.eval]) hrun) ⟨hS1, trivial⟩ ?_
      refine Ap.anyK_val1 (i := 14) (v := v1) (w' := X1) (by decide +kernel) rfl rfl (by first | (go_simp; done) | (go_simp; rfl)) ⟨hS1, trivial⟩ ?_
      have HO1 := Lib.hid (show OwnQ X1 w0.heap.size v1 (l.take (i + 1)) from by
        rw [HNX.out]
        unfold OwnQ
        rw [flatS_append, List.length_append, HUL.out]
        exact hown2)
      clear hS hS1 hown2 hrun hbel hrd bd nd hh1 hOw hb1 hb2
      refine Ap.wpAnyK_done (by decide +kernel) ?_ _
      go_simp
      go_wp2_with fail
      go_roundw
      case rel => exact ⟨i + 1, by have := HLT.out; omega, by go_num, HO1.out, HB1.out⟩
      case measure => have := HLT.out; simp [intOf]; omega
    case neg =>
    obtain rfl : i = n := by omega
    have hge : ¬ (i : Int) < (i : Int) := by omega
    have HO2 := HO.out
    rw [List.take_of_length_le (by have := HNL.out; omega)] at HO2
    have HO3 := Lib.hid HO2
    clear hlt HO2 HO hin
    obtain ⟨ao, co, hso, _⟩ := HO3.out.rowP
    rw [← HNL.out] at hso
    subst hso
    have hlm : l.length ≤ 1000000 := by have := HNL.out; have := H100.out; omega
    have K1 := Lib.hid (psort_any (HR.out.below HBR.out) hlm)
    obtain ⟨M, hM⟩ : ∃ M, M = Ss.isort lessB l := ⟨_, rfl⟩
    have HMS := Lib.hid (show Ss.Srt lessB M from by rw [hM]; exact Ss.isort_srt swoP _)
    have HML := Lib.hid (show M.length = i from by rw [HNL.out, hM]; exact Ss.isort_length _ _)
    have K2 := Lib.hid (fun (Y : World) (hY : Below wr.heap.size wr Y) => rsort_any ((HO3.out.below hY).rowP) hlm)
    rw [← hM] at K1 K2
    clear hM hlm
    go_wp2_with fail
    refine K1.out.mono ?_
    rintro e W1 ⟨vm, rfl, hom, hb1⟩
    have HM1 := Lib.hid hom.rowP
    have HB1 := Lib.hid hb1
    obtain ⟨am, cm, rfl⟩ : ∃ am cm, vm = .slice am i cm := by obtain ⟨am, cm, h1, _⟩ := hom.rowP; rw [HML.out] at h1; exact ⟨am, cm, h1⟩
    clear hom hb1 K1
    go_wp2_with fail
    refine (K2.out W1 HB1.out).mono ?_
    rintro e W2 ⟨vk, rfl, hok, hb2⟩
    have HK2 := Lib.hid hok.rowP
    obtain ⟨ak, ck, rfl⟩ : ∃ ak ck, vk = .slice ak i ck := by obtain ⟨am, cm, h1, _⟩ := hok.rowP; rw [HML.out] at h1; exact ⟨am, cm, h1⟩
    have HM2 := Lib.hid (HM1.out.below hb2)
    have HB2 := Lib.hid (below_next (below_next HBR.out HB1.out) hb2)
    clear hok hb2 K2 HM1 HB1 HO3
    have ne0 : ((i : Int) != (i : Int)) = false := by simp
    go_wp2_with fail
    clear ne0 hge
    obtain ⟨n, hnn⟩ : ∃ n, n = i := ⟨_, rfl⟩
    subst hnn
    go_loopw [7] (fun si wx => ∃ i : Nat, i ≤ n ∧ si = .int .i64 i ∧ Below W2.heap.size W2 wx) (fun si _ => n - (intOf si).toNat)
    case atStart => exact ⟨0, Nat.zero_le _, rfl, Below.refl _ _⟩
    case round =>
      obtain ⟨i, hin, rfl, hbr⟩ := hrel
      have HBX := Lib.hid hbr
      clear hbr
      by_cases hlt : i < n
      case neg =>
        obtain rfl : i = n := by omega
        have hge : ¬ (i : Int) < (i : Int) := by omega
        clear hlt
        go_wp2_with fail
        refine (prio_one _).mono ?_
        rintro e wz ⟨rfl, hbz⟩
        have HBZ := Lib.hid (below_next HBX.out hbz)
        clear hbz
        go_wp2_with fail
        go_ret
        exact ⟨rfl, below_next HB2.out HBZ.out⟩
      case pos =>
      obtain ⟨bm, om, rfl, hml, hMc⟩ := HM2.out.at (i := i) (by have := HML.out; omega)
      obtain ⟨bk, ok, rfl, hkl, hKc⟩ := HK2.out.at (i := i) (by have := HML.out; omega)
      have XM := Lib.hid (fun (Y : World) (hY : Below W2.heap.size W2 Y) => (hMc i (by have := HML.out; omega)).below hY)
      have XK := Lib.hid (fun (Y : World) (hY : Below W2.heap.size W2 Y) => (hKc i (by have := HML.out; omega)).below hY)
      have XP := Lib.hid (fun (h0 : 0 < i) (Y : World) (hY : Below W2.heap.size W2 Y) => (hMc (i - 1) (by have := HML.out; omega)).below hY)
      have HLE := Lib.hid (fun (h0 : 0 < i) => (show lessB (M.getD i (0, 0)) (M.getD (i - 1) (0, 0)) = false from by
        have h1 : i < M.length := by have := HML.out; omega
        have h2 : i - 1 < M.length := by omega
        have := List.pairwise_iff_getElem.1 HMS.out (i - 1) i h2 h1 (by omega)
        simpa [List.getD, h1, h2] using this))
      clear hMc hKc hml hkl
      generalize M.getD i (0, 0) = q at *
      generalize M.getD (i - 1) (0, 0) = q0 at *
      obtain ⟨q1, q2⟩ := q
      obtain ⟨r1, r2⟩ := q0
      dsimp only at XM XK XP
      have hltI : (i : Int) < (n : Int) := by omega
      have hw1 : IntKind.i64.wrap ((i : Int) + 1) = (i : Int) + 1 := by have := H100.out; rw [IntKind.wrap_i64]; omega
      have e1 : (q1 != q1) = false := by simp
      have e2 : (q2 != q2) = false := by simp
      have HLT := Lib.hid hlt
      clear hlt hin
      go_upto_region 14 with fail
      go_cut [87] (fun s wx => s = .bool false ∧ Below W2.heap.size W2 wx)
      case first =>
        by_cases hi0 : 0 < i
        case pos =>
          obtain ⟨i1, hi1⟩ : ∃ z, z = i - 1 := ⟨_, rfl⟩
          have ei1 : (i : Int) - 1 = (i1 : Int) := by omega
          have ri1 : IntKind.i64.wrap (i1 : Int) = (i1 : Int) := by have := HLT.out; have := H100.out; rw [IntKind.wrap_i64]; omega
          have hin1 : (i1 : Int) < (n : Int) := by have := HLT.out; omega
          have XPi := Lib.hid (XP.out hi0)
          rw [← hi1] at XPi
          have KLE := Lib.hid (fun (Y : World) => less_below q1 q2 r1 r2 false (HLE.out hi0) Y)
          have hgi : decide ((i : Int) > 0) = true := decide_eq_true (by omega)
          have hgi2 : decide ((0 : Int) < (i : Int)) = true := decide_eq_true (by omega)
          have hgi3 : decide (0 < i) = true := decide_eq_true hi0
          have hgi4 : (0 : Int) < (i : Int) := by omega
          clear hi1
          refine Rl.wp_region_rel (fun a b => Below a.heap.size a b) wr (fun a b c h h' => below_next h h') (fun a => Below.refl _ _) hmx (by kernel_rfl) (Below.refl _ _).drew ?_
          iterate 4 (refine Rl.textR_run ?_ (fun ρ => ?_) (fun ρ W hS hd => ?_) ?_; rotate_left; (focus go_simp); (focus (obtain ⟨hc, hf⟩ := bcell hS; go_simp; first | exact ⟨rfl, Below.refl _ _⟩ | (refine ⟨?_, Below.refl _ _⟩; rfl))); (try go_simp))
          (refine Rl.textR_run ?_ (fun ρ => ?_) (fun ρ W hS hd => ?_) ?_; rotate_left; (focus go_simp); (focus (have hfact0 := (show W.cell? ⟨bm, om + i * 2, none⟩ = some (.int .i64 q1) from (XM.out W (below_next HBX.out hS)).c0); go_simp; first | exact ⟨rfl, Below.refl _ _⟩ | (refine ⟨?_, Below.refl _ _⟩; rfl))); (try go_simp))
          iterate 4 (refine Rl.textR_run ?_ (fun ρ => ?_) (fun ρ W hS hd => ?_) ?_; rotate_left; (focus go_simp); (focus (obtain ⟨hc, hf⟩ := bcell hS; go_simp; first | exact ⟨rfl, Below.refl _ _⟩ | (refine ⟨?_, Below.refl _ _⟩; rfl))); (try go_simp))
          (refine Rl.textR_run ?_ (fun ρ => ?_) (fun ρ W hS hd => ?_) ?_; rotate_left; (focus go_simp); (focus (have hfact0 := (show W.cell? ⟨bk, ok + i * 2, none⟩ = some (.int .i64 q1) from (XK.out W (below_next HBX.out hS)).c0); go_simp; first | exact ⟨rfl, Below.refl _ _⟩ | (refine ⟨?_, Below.refl _ _⟩; rfl))); (try go_simp))
          iterate 6 (refine Rl.textR_run ?_ (fun ρ => ?_) (fun ρ W hS hd => ?_) ?_; rotate_left; (focus go_simp); (focus (obtain ⟨hc, hf⟩ := bcell hS; go_simp; first | exact ⟨rfl, Below.refl _ _⟩ | (refine ⟨?_, Below.refl _ _⟩; rfl))); (try go_simp))
          (refine Rl.textR_run ?_ (fun ρ => ?_) (fun ρ W hS hd => ?_) ?_; rotate_left; (focus go_simp); (focus (have hfact0 := (show W.cell? ⟨bm, om + i * 2 + 1, none⟩ = some (.int .i64 q2) from (XM.out W (below_next HBX.out hS)).c1); go_simp; first | exact ⟨rfl, Below.refl _ _⟩ | (refine ⟨?_, Below.refl _ _⟩; rfl))); (try go_simp))
          iterate 4 (refine Rl.textR_run ?_ (fun ρ => ?_) (fun ρ W hS hd => ?_) ?_; rotate_left; (focus go_simp); (focus (obtain ⟨hc, hf⟩ := bcell hS; go_simp; first | exact ⟨rfl, Below.refl _ _⟩ | (refine ⟨?_, Below.refl _ _⟩; rfl))); (try go_simp))
          (refine Rl.textR_run ?_ (fun ρ => ?_) (fun ρ W hS hd => ?_) ?_; rotate_left; (focus go_simp); (focus (have hfact0 := (show W.cell? ⟨bk, ok + i * 2 + 1, none⟩ = some (.int .i64 q2) from (XK.out W (below_next HBX.out hS)).c1); go_simp; first | exact ⟨rfl, Below.refl _ _⟩ | (refine ⟨?_, Below.refl _ _⟩; rfl))); (try go_simp))
          iterate 6 (refine Rl.textR_run ?_ (fun ρ => ?_) (fun ρ W hS hd => ?_) ?_; rotate_left; (focus go_simp); (focus (obtain ⟨hc, hf⟩ := bcell hS; go_simp; first | exact ⟨rfl, Below.refl _ _⟩ | (refine ⟨?_, Below.refl _ _⟩; rfl))); (try go_simp))
          iterate 3 (refine Rl.textR_run ?_ (fun ρ => ?_) (fun ρ W hS hd => ?_) ?_; rotate_left; (focus go_simp); (focus (obtain ⟨hc, hf⟩ := bcell hS; go_simp; first | exact ⟨rfl, Below.refl _ _⟩ | (refine ⟨?_, Below.refl _ _⟩; rfl))); (try go_simp))
          refine Rl.textR_run (.agg #[.int .i64 q1, .int .i64 q2]) (fun ρ => ?_) (fun ρ W hS hd => ?_) ?_
          · go_simp
          · exact comesToR_load2 _ rfl (b := bm) (off := om + i * 2) (by go_simp) (XM.out W (below_next HBX.out hS)).c0 (XM.out W (below_next HBX.out hS)).c1 ⟨rfl, Below.refl _ _⟩
          (try go_simp)
          iterate 4 (refine Rl.textR_run ?_ (fun ρ => ?_) (fun ρ W hS hd => ?_) ?_; rotate_left; (focus go_simp); (focus (obtain ⟨hc, hf⟩ := bcell hS; go_simp; first | exact ⟨rfl, Below.refl _ _⟩ | (refine ⟨?_, Below.refl _ _⟩; rfl))); (try go_simp))
          refine Rl.textR_run (.agg #[.int .i64 r1, .int .i64 r2]) (fun ρ => ?_) (fun ρ W hS hd => ?_) ?_
          · go_simp
          · exact comesToR_load2 _ rfl (b := bm) (off := om + i1 * 2) (by go_simp) (XPi.out W (below_next HBX.out hS)).c0 (XPi.out W (below_next HBX.out hS)).c1 ⟨rfl, Below.refl _ _⟩
          (try go_simp)
          (refine Rl.textR_run ?_ (fun ρ => ?_) (fun ρ W hS hd => ?_) ?_; rotate_left; (focus go_simp); (focus (obtain ⟨hc, hf⟩ := bcell hS; go_simp; refine (KLE.out W).mono ?_; rintro e w1 ⟨rfl, hb⟩; refine ⟨_, rfl, ?_, hb⟩; rfl)); (try go_simp))
          iterate 2 (refine Rl.textR_run ?_ (fun ρ => ?_) (fun ρ W hS hd => ?_) ?_; rotate_left; (focus go_simp); (focus (obtain ⟨hc, hf⟩ := bcell hS; go_simp; first | exact ⟨rfl, Below.refl _ _⟩ | (refine ⟨?_, Below.refl _ _⟩; rfl))); (try go_simp))
          refine Rl.textR_nil ?_
          intro ρ wz hg hk
          dsimp only
          have HBU := Lib.hid (below_next HBX.out hg)
          clear hg hk
          go_simp
          go_wp2_with fail
          go_meet
          exact ⟨rfl, HBU.out⟩
        case neg =>
          obtain rfl : i = 0 := by omega
          have h0n : (0 : Int) < (n : Int) := by have := HLT.out; omega
          have h0n2 : 0 < n := HLT.out
          refine Rl.wp_region_rel (fun a b => Below a.heap.size a b) wr (fun a b c h h' => below_next h h') (fun a => Below.refl _ _) hmx (by kernel_rfl) (Below.refl _ _).drew ?_
          iterate 4 (refine Rl.textR_run ?_ (fun ρ => ?_) (fun ρ W hS hd => ?_) ?_; rotate_left; (focus go_simp); (focus (obtain ⟨hc, hf⟩ := bcell hS; go_simp; first | exact ⟨rfl, Below.refl _ _⟩ | (refine ⟨?_, Below.refl _ _⟩; rfl))); (try go_simp))
          (refine Rl.textR_run ?_ (fun ρ => ?_) (fun ρ W hS hd => ?_) ?_; rotate_left; (focus go_simp); (focus (have hfact0 := (show W.cell? ⟨bm, om, none⟩ = some (.int .i64 q1) from (by simpa using (XM.out W (below_next HBX.out hS)).c0)); go_simp; first | exact ⟨rfl, Below.refl _ _⟩ | (refine ⟨?_, Below.refl _ _⟩; rfl))); (try go_simp))
          iterate 4 (refine Rl.textR_run ?_ (fun ρ => ?_) (fun ρ W hS hd => ?_) ?_; rotate_left; (focus go_simp); (focus (obtain ⟨hc, hf⟩ := bcell hS; go_simp; first | exact ⟨rfl, Below.refl _ _⟩ | (refine ⟨?_, Below.refl _ _⟩; rfl))); (try go_simp))
          (refine Rl.textR_run ?_ (fun ρ => ?_) (fun ρ W hS hd => ?_) ?_; rotate_left; (focus go_simp); (focus (have hfact0 := (show W.cell? ⟨bk, ok, none⟩ = some (.int .i64 q1) from (by simpa using (XK.out W (below_next HBX.out hS)).c0)); go_simp; first | exact ⟨rfl, Below.refl _ _⟩ | (refine ⟨?_, Below.refl _ _⟩; rfl))); (try go_simp))
          iterate 6 (refine Rl.textR_run ?_ (fun ρ => ?_) (fun ρ W hS hd => ?_) ?_; rotate_left; (focus go_simp); (focus (obtain ⟨hc, hf⟩ := bcell hS; go_simp; first | exact ⟨rfl, Below.refl _ _⟩ | (refine ⟨?_, Below.refl _ _⟩; rfl))); (try go_simp))
          (refine Rl.textR_run ?_ (fun ρ => ?_) (fun ρ W hS hd => ?_) ?_; rotate_left; (focus go_simp); (focus (have hfact0 := (show W.cell? ⟨bm, om + 1, none⟩ = some (.int .i64 q2) from (by simpa using (XM.out W (below_next HBX.out hS)).c1)); go_simp; first | exact ⟨rfl, Below.refl _ _⟩ | (refine ⟨?_, Below.refl _ _⟩; rfl))); (try go_simp))
          iterate 4 (refine Rl.textR_run ?_ (fun ρ => ?_) (fun ρ W hS hd => ?_) ?_; rotate_left; (focus go_simp); (focus (obtain ⟨hc, hf⟩ := bcell hS; go_simp; first | exact ⟨rfl, Below.refl _ _⟩ | (refine ⟨?_, Below.refl _ _⟩; rfl))); (try go_simp))
          (refine Rl.textR_run ?_ (fun ρ => ?_) (fun ρ W hS hd => ?_) ?_; rotate_left; (focus go_simp); (focus (have hfact0 := (show W.cell? ⟨bk, ok + 1, none⟩ = some (.int .i64 q2) from (by simpa using (XK.out W (below_next HBX.out hS)).c1)); go_simp; first | exact ⟨rfl, Below.refl _ _⟩ | (refine ⟨?_, Below.refl _ _⟩; rfl))); (try go_simp))
          iterate 6 (refine Rl.textR_run ?_ (fun ρ => ?_) (fun ρ W hS hd => ?_) ?_; rotate_left; (focus go_simp); (focus (obtain ⟨hc, hf⟩ := bcell hS; go_simp; first | exact ⟨rfl, Below.refl _ _⟩ | (refine ⟨?_, Below.refl _ _⟩; rfl))); (try go_simp))
          iterate 10 (refine Rl.textR_skip (fun ρ => ?_) ?_; (focus (first | rfl | (go_simp; done) | (go_simp; rfl))); (try go_simp))
          iterate 2 (refine Rl.textR_run ?_ (fun ρ => ?_) (fun ρ W hS hd => ?_) ?_; rotate_left; (focus go_simp); (focus (obtain ⟨hc, hf⟩ := bcell hS; go_simp; first | exact ⟨rfl, Below.refl _ _⟩ | (refine ⟨?_, Below.refl _ _⟩; rfl))); (try go_simp))
          refine Rl.textR_nil ?_
          intro ρ wz hg hk
          dsimp only
          have HBU := Lib.hid (below_next HBX.out hg)
          clear hg hk
          go_simp
          go_wp2_with fail
          go_meet
          exact ⟨rfl, HBU.out⟩
      case rest =>
      obtain ⟨rfl, hbu⟩ := hcut
      have HBU := Lib.hid hbu
      clear hbu
      go_wp2_with fail
      go_roundw
      case rel => exact ⟨i + 1, by have := HLT.out; omega, by go_num, HBU.out⟩
      case measure => have := HLT.out; simp [intOf]; omega
end Go.Proofs.Ytbhnjmdlagjfbaa
