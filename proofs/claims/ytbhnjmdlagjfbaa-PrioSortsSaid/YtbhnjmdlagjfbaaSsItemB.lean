/- The stable sort of slices at elements of k cells (Item), whole: what lies in the row behind it is the stable sort of what lay there. Condition: cmp's order is a strict weak one. -/
import Derived.Test.YtbhnjmdlagjfbaaSsItem
namespace Go.Proofs.Ytbhnjmdlagjfbaa
set_option linter.unusedVariables false
open Go.Shelf Go.RowKit Go.Lib Go.Sort Ss
namespace SsItem
variable {P : Program} {k : Nat} {α : Type} [Inhabited α] {enc : α → List Value} {blk off : Nat} {d0 : Array α} {w0 : World}
theorem blkF_size (lt : α → α → Bool) : ∀ (n : Nat) (d : Array α) (a m : Nat), m - a ≤ n → (blkF lt d a m).size = d.size := by
  intro n
  induction n using Nat.strongRecOn with
  | _ n ih =>
    intro d a m h
    by_cases hc : a + 20 ≤ m
    · rw [blkF_go hc, ih (m - (a + 20)) (by omega) _ _ _ (Nat.le_refl _), insertionSort_size]
    · rw [blkF_end hc, insertionSort_size]
theorem passF_size (lt : α → α → Bool) {bs : Nat} (h0 : 0 < bs) : ∀ (n : Nat) (d : Array α) (a m : Nat), m - a ≤ n → (passF lt d bs a m).size = d.size := by
  intro n
  induction n using Nat.strongRecOn with
  | _ n ih =>
    intro d a m h
    by_cases hc : a + 2 * bs ≤ m
    · rw [passF_go h0 hc, ih (m - (a + 2 * bs)) (by omega) _ _ _ (Nat.le_refl _), symM_size]
    · by_cases hc2 : a + bs < m
      · rw [passF_part hc hc2, symM_size]
      · rw [passF_end hc hc2]
set_option maxHeartbeats 8000000 in
set_option maxRecDepth 1000000 in
theorem stable_any (L : Lay P k) (R : RowK enc k w0 blk off d0) (cf : α → α → Int) (g : Nat) (cb : Array Value) (eg : ∀ args w, (callFunc g args).run P w = .ok (.enter g args) w) (hcmp : CmpLays P g cb enc k cf blk off d0.size w0) (cap : Nat)
    (eI : ∀ args w, (callFunc 160 args).run P w = .ok (.enter 160 args) w)
    (hI : ∀ (a b : Nat) (d : Array α) (w : World), d0.size = d.size → SWK enc k w0 blk off d w → a ≤ b → b ≤ d.size → d.size < 4611686018427387904 → Calls P 160 #[.slice (some ⟨blk, off, none⟩) d.size cap, .int .i64 a, .int .i64 b, .func (.func g) #[] cb] w fun e w' => e = .returned (.tuple #[]) ∧ SWK enc k w0 blk off (Sort.insertionSort (ltOf cf) d a b) w')
    (d : Array α) (w : World) (hs : d0.size = d.size) (S : SWK enc k w0 blk off d w) (hsz : d.size < 1152921504606846976) :
    Calls P 144 #[.slice (some ⟨blk, off, none⟩) d.size cap, .int .i64 d.size, .func (.func g) #[] cb] w fun e w' => e = .returned (.tuple #[]) ∧ SWK enc k w0 blk off (passesF (ltOf cf) (blkF (ltOf cf) d 0 d.size) 20 d.size) w' := by
  have mixed := L.mixed; have aE := L.aE; have zE := L.zE; have t0 := L.t0; have a0 := L.a0; have z0 := L.z0; have v0 := L.v0; have t3 := L.t3; have a3 := L.a3; have z3 := L.z3; have v3 := L.v3; have t4 := L.t4; have a4 := L.a4; have z4 := L.z4; have v4 := L.v4; have t5 := L.t5; have a5 := L.a5; have z5 := L.z5; have v5 := L.v5; have t6 := L.t6; have a6 := L.a6; have z6 := L.z6; have v6 := L.v6; have t7 := L.t7; have a7 := L.a7; have z7 := L.z7; have v7 := L.v7
  have S0 : Aside (SWK enc k w0 blk off d w) := S
  have eM : ∀ args w, (callFunc 161 args).run P w = .ok (.enter 161 args) w := enters_of L.fM (by kernel_rfl) rfl
  obtain ⟨n, hn⟩ : ∃ n, n = d.size := ⟨_, rfl⟩
  rw [← hn] at hsz ⊢
  have HI := Lib.hid (fun (a b : Nat) (dk : Array α) (X : World) (h1 : dk.size = n) (h2 : SWK enc k w0 blk off dk X) (h3 : a ≤ b) (h4 : b ≤ n) => (show Calls P 160 #[.slice (some ⟨blk, off, none⟩) n cap, .int .i64 a, .int .i64 b, .func (.func g) #[] cb] X fun ex w' => ex = .returned (.tuple #[]) ∧ SWK enc k w0 blk off (Sort.insertionSort (ltOf cf) dk a b) w' from by rw [← h1]; exact hI a b dk X (by omega) h2 h3 (by omega) (by omega)))
  have HM := Lib.hid (fun (f a m b : Nat) (dk : Array α) (X : World) (h1 : dk.size = n) (h2 : SWK enc k w0 blk off dk X) (h3 : a < m) (h4 : m < b) (h5 : b ≤ n) (h6 : b - a ≤ f) => (show Calls P 161 #[.slice (some ⟨blk, off, none⟩) n cap, .int .i64 a, .int .i64 m, .int .i64 b, .func (.func g) #[] cb] X fun ex w' => ex = .returned (.tuple #[]) ∧ SWK enc k w0 blk off (symM (ltOf cf) f dk a m b) w' from by rw [← h1]; exact merge_any L R cf g cb eg hcmp cap f a m b dk X (by omega) h2 h3 h4 (by omega) (by omega) h6))
  have HN := Lib.hid hn
  clear hI hcmp S hn
  go_enter L.fS, Try.ntmps144
  go_wp2
  go_loopg [7, 8] n (fun kx s7 s8 wr => ∃ (a b : Nat) (dk : Array α), s7 = .int .i64 a ∧ s8 = .int .i64 b ∧ b = a + 20 ∧ a ≤ n ∧ n - a ≤ kx ∧ dk.size = n ∧ Aside (SWK enc k w0 blk off dk wr) ∧ Hid (blkF (ltOf cf) dk a n = blkF (ltOf cf) d 0 n))
  case atStart => exact ⟨0, 20, d, rfl, rfl, rfl, Nat.zero_le _, Nat.le_refl _, HN.out.symm, S0, rfl⟩
  case round =>
    clear S0
    obtain ⟨a, b, dk, rfl, rfl, hab, han, hkx, hds, S1, HB⟩ := hrel
    by_cases hle : b ≤ n
    · have hlz : (b : Int) ≤ (n : Int) := by omega
      have HB2 := Lib.hid (show blkF (ltOf cf) (Sort.insertionSort (ltOf cf) dk a b) b n = blkF (ltOf cf) d 0 n from by rw [← HB.out, blkF_go (a := a) (by omega), ← hab])
      have K1 := Lib.hid (HI.out a b dk wr hds S1.out (by omega) hle)
      have r1 : IntKind.i64.wrap ((b : Int) + 20) = (b : Int) + 20 := by rw [IntKind.wrap_i64]; omega
      have HAB := Lib.hid hab
      clear hab
      go_wp2_with fail
      refine K1.out.mono ?_
      rintro e w2 ⟨rfl, h⟩
      have S2 := Lib.hid h
      clear h K1 S1
      go_wp2
      go_roundg (n - b)
      case measure => have := HAB.out; omega
      case rel => exact ⟨b, b + 20, _, rfl, by go_num, rfl, hle, Nat.le_refl _, by rw [insertionSort_size]; exact hds, S2.out, HB2.out⟩
    · have hlz : ¬ (b : Int) ≤ (n : Int) := by omega
      have HB2 := Lib.hid (show Sort.insertionSort (ltOf cf) dk a n = blkF (ltOf cf) d 0 n from by rw [← HB.out, blkF_end (by omega)])
      have K1 := Lib.hid (HI.out a n dk wr hds S1.out han (Nat.le_refl _))
      clear hab hkx HB
      go_wp2_with fail
      refine K1.out.mono ?_
      rintro e w2 ⟨rfl, h⟩
      rw [HB2.out] at h
      have hz : (blkF (ltOf cf) d 0 n).size = n := by rw [blkF_size _ n _ _ _ (by omega)]; exact HN.out.symm
      obtain ⟨D0, hD0⟩ : ∃ D, D = blkF (ltOf cf) d 0 n := ⟨_, rfl⟩
      rw [← hD0] at h hz
      have HD0 := Lib.hid hD0
      clear hD0
      have S2 := Lib.hid h
      clear h K1 S1 HB2 hle hlz
      go_wp2
      go_loopg [6, 7, 8, 9] n (fun kx s6 s7 s8 s9 wr => ∃ (bs : Nat) (dk : Array α), s6 = .int .i64 bs ∧ 0 < bs ∧ bs ≤ 20 + 2 * n ∧ n - bs ≤ kx ∧ dk.size = n ∧ Aside (SWK enc k w0 blk off dk wr) ∧ Hid (passesF (ltOf cf) dk bs n = passesF (ltOf cf) D0 20 n))
      case atStart => exact ⟨20, D0, rfl, by decide, by omega, by omega, hz, S2.out, rfl⟩
      case round =>
        clear S2 hz han hds dk
        obtain ⟨bs, dk, rfl, hb0, hbn, hkx, hds, S3, HP⟩ := hrel
        by_cases hlt : bs < n
        · have hltz : (bs : Int) < (n : Int) := by omega
          obtain ⟨b2, hb2⟩ : ∃ z, z = bs * 2 := ⟨_, rfl⟩
          have e2 : (2 : Int) * (bs : Int) = (b2 : Int) := by omega
          have e2' : (bs : Int) * 2 = (b2 : Int) := by omega
          have r2 : IntKind.i64.wrap (b2 : Int) = (b2 : Int) := by rw [IntKind.wrap_i64]; omega
          have HB2 := Lib.hid hb2
          have HP2 := Lib.hid (show passesF (ltOf cf) (passF (ltOf cf) dk bs 0 n) b2 n = passesF (ltOf cf) D0 20 n from by rw [← HP.out, passesF_go hb0 hlt, ← hb2])
          clear hb2 HP
          go_wp2
          go_loopg [7, 8] n (fun ky s7 s8 wx => ∃ (a b : Nat) (dj : Array α), s7 = .int .i64 a ∧ s8 = .int .i64 b ∧ b = a + 2 * bs ∧ a ≤ n ∧ n - a ≤ ky ∧ dj.size = n ∧ Aside (SWK enc k w0 blk off dj wx) ∧ Hid (passF (ltOf cf) dj bs a n = passF (ltOf cf) dk bs 0 n))
          case atStart => exact ⟨0, b2, dk, rfl, rfl, by have := HB2.out; omega, Nat.zero_le _, Nat.le_refl _, hds, S3, rfl⟩
          case round =>
            clear S3
            obtain ⟨a, b, dj, rfl, rfl, hab, han, hky, hdj, S4, HQ⟩ := hrel
            obtain ⟨m, hm⟩ : ∃ z, z = a + bs := ⟨_, rfl⟩
            have em : (a : Int) + (bs : Int) = (m : Int) := by omega
            have rm : IntKind.i64.wrap (m : Int) = (m : Int) := by rw [IntKind.wrap_i64]; omega
            have HMM := Lib.hid hm
            have HAB := Lib.hid hab
            by_cases hle : b ≤ n
            · have hlz : (b : Int) ≤ (n : Int) := by omega
              have HQ2 := Lib.hid (show passF (ltOf cf) (symM (ltOf cf) (2 * bs) dj a m b) bs b n = passF (ltOf cf) dk bs 0 n from by rw [← HQ.out, passF_go hb0 (a := a) (by omega), ← hm, ← hab])
              have K1 := Lib.hid (HM.out (2 * bs) a m b dj wr hdj S4.out (by omega) (by omega) hle (by omega))
              obtain ⟨b3, hb3⟩ : ∃ z, z = b + b2 := ⟨_, rfl⟩
              have e3 : (b : Int) + (b2 : Int) = (b3 : Int) := by omega
              have r3 : IntKind.i64.wrap (b3 : Int) = (b3 : Int) := by have := HB2.out; rw [IntKind.wrap_i64]; omega
              have HB3 := Lib.hid hb3
              clear hab hm hb3
              go_wp2_with fail
              refine K1.out.mono ?_
              rintro e w2 ⟨rfl, h⟩
              have S5 := Lib.hid h
              clear h K1 S4
              go_wp2
              go_roundg (n - b)
              case measure => have := HAB.out; omega
              case rel => exact ⟨b, b3, _, rfl, rfl, by have := HB3.out; have := HB2.out; omega, hle, Nat.le_refl _, by rw [symM_size]; exact hdj, S5.out, HQ2.out⟩
            · have hlz : ¬ (b : Int) ≤ (n : Int) := by omega
              by_cases hmn : m < n
              · have hmz : (m : Int) < (n : Int) := by omega
                have HQ2 := Lib.hid (show symM (ltOf cf) (n - a) dj a m n = passF (ltOf cf) dk bs 0 n from by rw [← HQ.out, passF_part (by omega) (by omega), ← hm])
                have K1 := Lib.hid (HM.out (n - a) a m n dj wr hdj S4.out (by omega) hmn (Nat.le_refl _) (Nat.le_refl _))
                clear hab hm
                go_wp2_with fail
                refine K1.out.mono ?_
                rintro e w2 ⟨rfl, h⟩
                have S5 := Lib.hid h
                clear h K1 S4
                go_wp2
                go_roundg (n - b2)
                case measure => have := HB2.out; omega
                case rel => exact ⟨b2, symM (ltOf cf) (n - a) dj a m n, rfl, by have := HB2.out; omega, by have := HB2.out; omega, Nat.le_refl _, by rw [symM_size]; exact hdj, S5.out, by show _ = _; rw [HQ2.out]; exact HP2.out⟩
              · have hmz : ¬ (m : Int) < (n : Int) := by omega
                have HQ2 := Lib.hid (show dj = passF (ltOf cf) dk bs 0 n from by rw [← HQ.out, passF_end (by omega) (by omega)])
                clear hab hm
                go_wp2
                go_roundg (n - b2)
                case measure => have := HB2.out; omega
                case rel => exact ⟨b2, dj, rfl, by have := HB2.out; omega, by have := HB2.out; omega, Nat.le_refl _, hdj, S4, by show _ = _; rw [HQ2.out]; exact HP2.out⟩
        · have hltz : ¬ (bs : Int) < (n : Int) := by omega
          have HR := Lib.hid (show dk = passesF (ltOf cf) D0 20 n from by rw [← HP.out, passesF_end hlt])
          go_wp2
          go_end0
          rw [← HD0.out, ← HR.out]
          exact ⟨rfl, S3.out⟩
  /-- **slices.SortStableFunc: the row holds the stable sort of what it held** -/
  theorem sort_any (L : Lay P k) (fSS : P.funcs[107]? = some Try.f107) (R : RowK enc k w0 blk off d0) (cf : α → α → Int) (hO : SWO (ltOf cf)) (g : Nat) (cb : Array Value) (eg : ∀ args w, (callFunc g args).run P w = .ok (.enter g args) w) (hcmp : CmpLays P g cb enc k cf blk off d0.size w0) (cap : Nat)
      (eI : ∀ args w, (callFunc 160 args).run P w = .ok (.enter 160 args) w)
      (hI : ∀ (a b : Nat) (d : Array α) (w : World), d0.size = d.size → SWK enc k w0 blk off d w → a ≤ b → b ≤ d.size → d.size < 4611686018427387904 → Calls P 160 #[.slice (some ⟨blk, off, none⟩) d.size cap, .int .i64 a, .int .i64 b, .func (.func g) #[] cb] w fun e w' => e = .returned (.tuple #[]) ∧ SWK enc k w0 blk off (Sort.insertionSort (ltOf cf) d a b) w')
      (hsz : d0.size < 1152921504606846976) :
      Calls P 107 #[.slice (some ⟨blk, off, none⟩) d0.size cap, .func (.func g) #[] cb] w0 fun e w' => e = .returned (.tuple #[]) ∧ ∃ n os, w' = sortWorldK enc k w0 blk off n (isort (ltOf cf) d0.toList).toArray os := by
    have mixed := L.mixed; have t3 := L.t3; have t6 := L.t6
    have S : SWK enc k w0 blk off d0 w0 := ⟨0, #[], (sortWorldK_start enc k w0 blk off d0 R.hH).symm⟩
    have K := Lib.hid (stable_any L R cf g cb eg hcmp cap eI hI d0 w0 rfl S hsz)
    have HS := Lib.hid (stable_list hO d0)
    have eS : ∀ args w, (callFunc 144 args).run P w = .ok (.enter 144 args) w := enters_of L.fS (by kernel_rfl) rfl
    clear S hcmp hI
    generalize passesF (ltOf cf) (blkF (ltOf cf) d0 0 d0.size) 20 d0.size = D at *
    generalize hn : d0.size = n at *
    go_enter fSS, Try.ntmps107
    go_wp2_with fail
    refine K.out.mono ?_
    rintro e w2 ⟨rfl, h⟩
    obtain ⟨m, os, h⟩ := h
    have H := Lib.hid h
    clear h
    go_wp2
    go_end0
    refine ⟨rfl, m, os, ?_⟩
    rw [H.out, ← HS.out]
  end SsItem
  end Go.Proofs.Ytbhnjmdlagjfbaa
