/- The stable sort of slices at elements of k cells (berthing/prio.Item), walked: the exchange of two ranges, the turn of two parts, the merge in place, the whole: from a world of the sort to a world of the sort. No condition but that cmp says what it says in each world of the sort. -/
import Derived.Test.YtbhnjmdlagjfbaaSsP
import Derived.Shelf.SlSortCmp.KitK
import Derived.Sort.WalkB2
import Derived.Sort.WalkB12
import Derived.Deep.LoopGhost
import Derived.Deep.CutBlock
import Derived.Deep.DeepCutAuto
import Derived.Lib.Hide
import Derived.Test.YtbhnjmdlagjfbaaProg
namespace Go.Proofs.Ytbhnjmdlagjfbaa
set_option linter.unusedVariables false
open Go.Shelf Go.RowKit Go.Lib Go.Sort Ss
namespace SsItem

/-- what is asked of the program: its bodies, its types -/
structure Lay (P : Program) (k : Nat) : Prop where
  mixed : P.follows .mixedOrders = true
  fR : P.funcs[169]? = some Try.f169
  fT : P.funcs[166]? = some Try.f166
  fM : P.funcs[161]? = some Try.f161
  fS : P.funcs[144]? = some Try.f144
  aE : ∀ w, (isAgg 97).run P w = .ok true w
  zE : ∀ w, (Go.sizeOf 97).run P w = .ok k w
  t0 : P.underlying 0 = some (TypeDesc.tuple #[])
  a0 : ∀ w, (isAgg 0).run P w = .ok false w
  z0 : ∀ w, (Go.sizeOf 0).run P w = .ok 1 w
  v0 : ∀ w, (zeroValue 0).run P w = .ok (Value.tuple #[]) w
  t3 : P.underlying 3 = some (TypeDesc.int IntKind.i64)
  a3 : ∀ w, (isAgg 3).run P w = .ok false w
  z3 : ∀ w, (Go.sizeOf 3).run P w = .ok 1 w
  v3 : ∀ w, (zeroValue 3).run P w = .ok (Value.int IntKind.i64 0) w
  t4 : P.underlying 4 = some TypeDesc.bool
  a4 : ∀ w, (isAgg 4).run P w = .ok false w
  z4 : ∀ w, (Go.sizeOf 4).run P w = .ok 1 w
  v4 : ∀ w, (zeroValue 4).run P w = .ok (Value.bool false) w
  t5 : P.underlying 210 = some (TypeDesc.int IntKind.u64)
  a5 : ∀ w, (isAgg 210).run P w = .ok false w
  z5 : ∀ w, (Go.sizeOf 210).run P w = .ok 1 w
  v5 : ∀ w, (zeroValue 210).run P w = .ok (Value.int IntKind.u64 0) w
  t6 : P.underlying 94 = some (TypeDesc.slice 97)
  a6 : ∀ w, (isAgg 94).run P w = .ok false w
  z6 : ∀ w, (Go.sizeOf 94).run P w = .ok 1 w
  v6 : ∀ w, (zeroValue 94).run P w = .ok (Value.slice none 0 0) w
  t7 : P.underlying 167 = some (TypeDesc.func #[97, 97] #[3] false)
  a7 : ∀ w, (isAgg 167).run P w = .ok false w
  z7 : ∀ w, (Go.sizeOf 167).run P w = .ok 1 w
  v7 : ∀ w, (zeroValue 167).run P w = .ok Value.nilFunc w
variable {P : Program} {k : Nat} {α : Type} [Inhabited α] {enc : α → List Value} {blk off : Nat} {d0 : Array α} {w0 : World}
set_option maxHeartbeats 8000000 in
set_option maxRecDepth 1000000 in
theorem range_any (L : Lay P k) (R : RowK enc k w0 blk off d0) (cap a b n : Nat) (fv : Value) (d : Array α) (w : World) (hs : d0.size = d.size) (S : SWK enc k w0 blk off d w) (ha : a + n ≤ d.size) (hb : b + n ≤ d.size) (hsz : d.size < 4611686018427387904) :
    Calls P 169 #[.slice (some ⟨blk, off, none⟩) d.size cap, .int .i64 a, .int .i64 b, .int .i64 n, fv] w fun e w' => e = .returned (.tuple #[]) ∧ SWK enc k w0 blk off (swapR d a b n) w' := by
  have mixed := L.mixed; have aE := L.aE; have zE := L.zE; have t0 := L.t0; have a0 := L.a0; have z0 := L.z0; have v0 := L.v0; have t3 := L.t3; have a3 := L.a3; have z3 := L.z3; have v3 := L.v3; have t4 := L.t4; have a4 := L.a4; have z4 := L.z4; have v4 := L.v4; have t5 := L.t5; have a5 := L.a5; have z5 := L.z5; have v5 := L.v5; have t6 := L.t6; have a6 := L.a6; have z6 := L.z6; have v6 := L.v6; have t7 := L.t7; have a7 := L.a7; have z7 := L.z7; have v7 := L.v7
  have S0 : Aside (SWK enc k w0 blk off d w) := S
  clear S
  go_enter L.fR, Try.ntmps169
  go_wp2
  go_loopg [10] n (fun kx s10 wr => ∃ (i : Nat) (dk : Array α), s10 = .int .i64 i ∧ i ≤ n ∧ n - i ≤ kx ∧ dk.size = d.size ∧ Aside (SWK enc k w0 blk off dk wr) ∧ Hid (dk = swapR d a b i))
  case atStart => exact ⟨0, d, by go_num, by omega, by omega, rfl, S0, rfl⟩
  case round =>
    clear S0
    obtain ⟨i, dk, rfl, hin, hkx, hds, S1, HD⟩ := hrel
    by_cases hlt : i < n
    · have hltz : (i : Int) < (n : Int) := by omega
      obtain ⟨x, hx⟩ : ∃ x, x = a + i := ⟨_, rfl⟩
      obtain ⟨y, hy⟩ : ∃ y, y = b + i := ⟨_, rfl⟩
      have ex : (a : Int) + (i : Int) = (x : Int) := by omega
      have ey : (b : Int) + (i : Int) = (y : Int) := by omega
      have rx : IntKind.i64.wrap (x : Int) = (x : Int) := by rw [IntKind.wrap_i64]; omega
      have ry : IntKind.i64.wrap (y : Int) = (y : Int) := by rw [IntKind.wrap_i64]; omega
      have ri : IntKind.i64.wrap ((i : Int) + 1) = (i : Int) + 1 := by rw [IntKind.wrap_i64]; omega
      have HX : Hid (x = a + i) := hx
      have HY : Hid (y = b + i) := hy
      have hxs : x < d.size := by omega
      have hys : y < d.size := by omega
      clear hx hy
      go_wp2_with fail
      have q0 : (0 : Int) ≤ (x : Int) := by omega
      have q1 : (x : Int) < (d.size : Int) := by omega
      have q2 : (0 : Int) ≤ (y : Int) := by omega
      have q3 : (y : Int) < (d.size : Int) := by omega
      have q4 : ((x : Int)).toNat = x := by omega
      have q5 : ((y : Int)).toNat = y := by omega
      have S2 : Aside (SWK enc k w0 blk off (swp dk x y) ((wr.drew.setCells blk (off + x * k) (enc dk[y]!)).setCells blk (off + y * k) (enc dk[x]!))) := S1.out.swapped R x y (by omega) (by omega)
      have la := S1.out.ld1 R (by omega) P x (by omega)
      have lb := S1.out.ld1 R (by omega) P y (by omega)
      have sa := S1.out.st1 R (by omega) P x (by omega) dk[y]!
      have sb := S1.out.st2 R (by omega) P x y (by omega) (by omega) dk[y]! dk[x]!
      have na : (enc dk[x]!).length = k := R.hk _
      have nb : (enc dk[y]!).length = k := R.hk _
      generalize enc dk[x]! = cX at S2 la sb na
      generalize enc dk[y]! = cY at S2 lb sa sb nb
      clear S1
      go_wp2_with fail
      go_big_region_o
      clear la lb sa sb na nb
      generalize (wr.drew.setCells blk (off + x * k) cY).setCells blk (off + y * k) cX = w2 at S2 ⊢
      go_wp2
      go_roundg (n - (i + 1))
      case measure => omega
      case rel =>
        refine ⟨i + 1, swp dk x y, by go_num, by omega, Nat.le_refl _, by rw [size_swp]; exact hds, S2, ?_⟩
        show _ = _
        rw [HD.out, HX.out, HY.out]; rfl
    · have hltz : ¬ (i : Int) < (n : Int) := by omega
      obtain rfl : i = n := by omega
      go_wp2
      go_end0
      refine ⟨rfl, ?_⟩
      rw [← HD.out]
      exact S1.out
set_option maxHeartbeats 8000000 in
set_option maxRecDepth 1000000 in
theorem rotate_any (L : Lay P k) (R : RowK enc k w0 blk off d0) (cap a m b : Nat) (fv : Value) (d : Array α) (w : World) (hs : d0.size = d.size) (S : SWK enc k w0 blk off d w) (ha : a < m) (hm : m < b) (hb : b ≤ d.size) (hsz : d.size < 4611686018427387904) :
    Calls P 166 #[.slice (some ⟨blk, off, none⟩) d.size cap, .int .i64 a, .int .i64 m, .int .i64 b, fv] w fun e w' => e = .returned (.tuple #[]) ∧ SWK enc k w0 blk off (rotF m (b - a) d (m - a) (b - m)) w' := by
  have mixed := L.mixed; have aE := L.aE; have zE := L.zE; have t0 := L.t0; have a0 := L.a0; have z0 := L.z0; have v0 := L.v0; have t3 := L.t3; have a3 := L.a3; have z3 := L.z3; have v3 := L.v3; have t4 := L.t4; have a4 := L.a4; have z4 := L.z4; have v4 := L.v4; have t5 := L.t5; have a5 := L.a5; have z5 := L.z5; have v5 := L.v5; have t6 := L.t6; have a6 := L.a6; have z6 := L.z6; have v6 := L.v6; have t7 := L.t7; have a7 := L.a7; have z7 := L.z7; have v7 := L.v7
  have S0 : Aside (SWK enc k w0 blk off d w) := S
  have KR : Hid (∀ (x y n : Nat) (dk : Array α) (W : World), dk.size = d.size → SWK enc k w0 blk off dk W → x + n ≤ d.size → y + n ≤ d.size → Calls P 169 #[.slice (some ⟨blk, off, none⟩) d.size cap, .int .i64 x, .int .i64 y, .int .i64 n, fv] W fun e w' => e = .returned (.tuple #[]) ∧ SWK enc k w0 blk off (swapR dk x y n) w') :=
    fun x y n dk W h1 h2 h3 h4 => by rw [← h1]; exact range_any L R cap x y n fv dk W (by omega) h2 (by omega) (by omega) (by omega)
  have eR : ∀ args w, (callFunc 169 args).run P w = .ok (.enter 169 args) w := enters_of L.fR (by kernel_rfl) rfl
  obtain ⟨i0, hi0⟩ : ∃ i0, i0 = m - a := ⟨_, rfl⟩
  obtain ⟨j0, hj0⟩ : ∃ j0, j0 = b - m := ⟨_, rfl⟩
  obtain ⟨f0, hf0⟩ : ∃ f0, f0 = b - a := ⟨_, rfl⟩
  rw [← hi0, ← hj0, ← hf0]
  have ei : (m : Int) - (a : Int) = (i0 : Int) := by omega
  have ej : (b : Int) - (m : Int) = (j0 : Int) := by omega
  have ri : IntKind.i64.wrap (i0 : Int) = (i0 : Int) := by rw [IntKind.wrap_i64]; omega
  have rj : IntKind.i64.wrap (j0 : Int) = (j0 : Int) := by rw [IntKind.wrap_i64]; omega
  have b1 : 0 < i0 := by omega
  have b2 : 0 < j0 := by omega
  have b3 : i0 ≤ m := by omega
  have b4 : m + j0 ≤ d.size := by omega
  have b5 : i0 + j0 = f0 := by omega
  clear S hi0 hj0 hf0 ha hm hb
  go_enter L.fT, Try.ntmps166
  go_wp2
  go_loopg [10, 11] f0 (fun kx s10 s11 wr => ∃ (i j : Nat) (dk : Array α), s10 = .int .i64 i ∧ s11 = .int .i64 j ∧ 0 < i ∧ 0 < j ∧ i ≤ m ∧ m + j ≤ d.size ∧ i + j ≤ kx ∧ dk.size = d.size ∧ Aside (SWK enc k w0 blk off dk wr) ∧ Hid (rotF m kx dk i j = rotF m f0 d i0 j0))
  case atStart => exact ⟨i0, j0, d, rfl, rfl, b1, b2, b3, b4, by omega, rfl, S0, rfl⟩
  case round =>
    clear S0 ei ej ri rj b1 b2 b3 b4 b5
    obtain ⟨i, j, dk, rfl, rfl, hi, hj, him, hmj, hkx, hds, S1, HD⟩ := hrel
    obtain ⟨q, rfl⟩ : ∃ q, gk = q + 1 := ⟨gk - 1, by omega⟩
    obtain ⟨x, hx⟩ : ∃ x, x = m - i := ⟨_, rfl⟩
    have ex : (m : Int) - (i : Int) = (x : Int) := by omega
    have rx : IntKind.i64.wrap (x : Int) = (x : Int) := by rw [IntKind.wrap_i64]; omega
    by_cases hij : i = j
    · subst hij
      have HD2 : Hid (swapR dk (m - i) m i = rotF m f0 d i0 j0) := by show _ = _; rw [← HD.out]; unfold rotF; rw [if_pos rfl]
      have K2 := Lib.hid (KR.out x m i dk wr hds S1.out (by omega) (by omega))
      have hne : ((i : Int) != (i : Int)) = false := by simp
      rw [← hx] at HD2
      clear hx KR HD
      go_wp2_with fail
      refine K2.out.mono ?_
      rintro e w2 ⟨rfl, h⟩
      have S2 := Lib.hid h
      clear h
      go_wp2
      go_end0
      rw [← HD2.out]
      exact ⟨rfl, S2.out⟩
    · have hne : ((i : Int) != (j : Int)) = true := by simp; omega
      by_cases hlt : j < i
      · have hlz : (j : Int) < (i : Int) := by omega
        have hgz : decide ((i : Int) > (j : Int)) = true := decide_eq_true hlz
        have HD2 : Hid (rotF m q (swapR dk x m j) (i - j) j = rotF m f0 d i0 j0) := by show _ = _; rw [← HD.out, hx]; conv => rhs; unfold rotF; rw [if_neg hij, if_pos hlt]
        have K1 := Lib.hid (KR.out x m j dk wr hds S1.out (by omega) (by omega))
        obtain ⟨y, hy⟩ : ∃ y, y = i - j := ⟨_, rfl⟩
        have ey : (i : Int) - (j : Int) = (y : Int) := by omega
        have ry : IntKind.i64.wrap (y : Int) = (y : Int) := by rw [IntKind.wrap_i64]; omega
        rw [← hy] at HD2
        have HY : Hid (y = i - j) := hy
        clear hx hy HD
        go_wp2_with fail
        refine K1.out.mono ?_
        rintro e w2 ⟨rfl, h⟩
        have S2 := Lib.hid h
        clear h K1 S1
        go_wp2
        go_roundg q
        case measure => omega
        case rel => exact ⟨y, j, swapR dk x m j, rfl, rfl, by have := HY.out; omega, hj, by have := HY.out; omega, hmj, by have := HY.out; omega, by rw [swapR_size]; exact hds, S2, HD2.out⟩
      · have hlz : ¬ (j : Int) < (i : Int) := by omega
        have hgz : decide ((i : Int) > (j : Int)) = false := decide_eq_false hlz
        obtain ⟨z, hz⟩ : ∃ z, z = m + j - i := ⟨_, rfl⟩
        obtain ⟨mj, hmj'⟩ : ∃ t, t = m + j := ⟨_, rfl⟩
        have ez1 : (m : Int) + (j : Int) = (mj : Int) := by omega
        have ez2 : (mj : Int) - (i : Int) = (z : Int) := by omega
        have rz1 : IntKind.i64.wrap (mj : Int) = (mj : Int) := by rw [IntKind.wrap_i64]; omega
        have rz2 : IntKind.i64.wrap (z : Int) = (z : Int) := by rw [IntKind.wrap_i64]; omega
        have HD2 : Hid (rotF m q (swapR dk x z i) i (j - i) = rotF m f0 d i0 j0) := by show _ = _; rw [← HD.out, hx, hz]; conv => rhs; unfold rotF; rw [if_neg hij, if_neg hlt]
        have K1 := Lib.hid (KR.out x z i dk wr hds S1.out (by omega) (by omega))
        obtain ⟨y, hy⟩ : ∃ y, y = j - i := ⟨_, rfl⟩
        have ey : (j : Int) - (i : Int) = (y : Int) := by omega
        have ry : IntKind.i64.wrap (y : Int) = (y : Int) := by rw [IntKind.wrap_i64]; omega
        rw [← hy] at HD2
        have HY : Hid (y = j - i) := hy
        have HMJ : Hid (mj = m + j) := hmj'
        clear hx hy hz hmj' HD
        go_wp2_with fail
        refine K1.out.mono ?_
        rintro e w2 ⟨rfl, h⟩
        have S2 := Lib.hid h
        clear h K1 S1
        go_wp2
        go_roundg q
        case measure => omega
        case rel => exact ⟨i, y, swapR dk x z i, rfl, rfl, hi, by have := HY.out; omega, him, by have := HY.out; omega, by have := HY.out; omega, by rw [swapR_size]; exact hds, S2, HD2.out⟩
set_option maxHeartbeats 8000000 in
set_option maxRecDepth 1000000 in
theorem merge_one (L : Lay P k) (R : RowK enc k w0 blk off d0) (cf : α → α → Int) (g : Nat) (cb : Array Value) (eg : ∀ args w, (callFunc g args).run P w = .ok (.enter g args) w) (hcmp : CmpLays P g cb enc k cf blk off d0.size w0) (cap f a m b : Nat) (d : Array α) (w : World) (hs : d0.size = d.size) (S : SWK enc k w0 blk off d w) (ha : a < m) (hm : m < b) (hb : b ≤ d.size) (hsz : d.size < 4611686018427387904) (h1 : m - a = 1) :
    Calls P 161 #[.slice (some ⟨blk, off, none⟩) d.size cap, .int .i64 a, .int .i64 m, .int .i64 b, .func (.func g) #[] cb] w fun e w' => e = .returned (.tuple #[]) ∧ SWK enc k w0 blk off (symM (ltOf cf) (f + 1) d a m b) w' := by
    have mixed := L.mixed; have aE := L.aE; have zE := L.zE; have t0 := L.t0; have a0 := L.a0; have z0 := L.z0; have v0 := L.v0; have t3 := L.t3; have a3 := L.a3; have z3 := L.z3; have v3 := L.v3; have t4 := L.t4; have a4 := L.a4; have z4 := L.z4; have v4 := L.v4; have t5 := L.t5; have a5 := L.a5; have z5 := L.z5; have v5 := L.v5; have t6 := L.t6; have a6 := L.a6; have z6 := L.z6; have v6 := L.v6; have t7 := L.t7; have a7 := L.a7; have z7 := L.z7; have v7 := L.v7
    have eM : ∀ args w, (callFunc 161 args).run P w = .ok (.enter 161 args) w := enters_of L.fM (by kernel_rfl) rfl
    have eT : ∀ args w, (callFunc 166 args).run P w = .ok (.enter 166 args) w := enters_of L.fT (by kernel_rfl) rfl
    have HC : Aside _ := hcmp
    clear hcmp
    have S0 : Aside (SWK enc k w0 blk off d w) := S
    clear S
    have HR : Hid (symM (ltOf cf) (f + 1) d a m b = shU d a (bsW (fun h => ltOf cf d[h]! d[a]!) m b - 1 - a)) := by show _ = _; unfold symM; dsimp only; rw [if_pos h1]
    have e1 : (m : Int) - (a : Int) = 1 := by omega
    go_enter L.fM, Try.ntmps161
    go_wp2
    go_loopg [10, 11] (b - m) (fun kx s10 s11 wr => ∃ (i j : Nat), s10 = .int .i64 i ∧ s11 = .int .i64 j ∧ m ≤ i ∧ i ≤ j ∧ j ≤ b ∧ j - i ≤ kx ∧ Aside (SWK enc k w0 blk off d wr) ∧ Hid (bsW (fun h => ltOf cf d[h]! d[a]!) i j = bsW (fun h => ltOf cf d[h]! d[a]!) m b))
    case atStart => exact ⟨m, b, rfl, rfl, Nat.le_refl _, by omega, Nat.le_refl _, Nat.le_refl _, S0, rfl⟩
    case round =>
      clear S0
      obtain ⟨i, j, rfl, rfl, hmi, hij, hjb, hkx, S1, HB⟩ := hrel
      by_cases hlt : i < j
      · have hltz : (i : Int) < (j : Int) := by omega
        obtain ⟨s, hqs⟩ : ∃ z, z = i + j := ⟨_, rfl⟩
        obtain ⟨h, hh⟩ : ∃ z, z = (i + j) / 2 := ⟨_, rfl⟩
        have es : (i : Int) + (j : Int) = (s : Int) := by omega
        have eh : (s : Int) / 2 = (h : Int) := by omega
        have rs : IntKind.i64.wrap (s : Int) = (s : Int) := by rw [IntKind.wrap_i64]; omega
        have us : IntKind.u64.wrap (s : Int) = (s : Int) := by rw [IntKind.wrap_u64]; omega
        have rh : IntKind.i64.wrap (h : Int) = (h : Int) := by rw [IntKind.wrap_i64]; omega
        have Hh : Hid (h = (i + j) / 2) := hh
        have e2 : (h : Int) + 1 = ((h + 1 : Nat) : Int) := by omega
        have r2 : IntKind.i64.wrap ((h : Int) + 1) = (h : Int) + 1 := by rw [IntKind.wrap_i64]; omega
        have hhs : h < d.size := by omega
        have hh1 : i ≤ h ∧ h < j := by omega
        clear hqs hh e2
        cases hc : ltOf cf d[h]! d[a]! with
        | true =>
          have HB2 : Hid (bsW (fun h => ltOf cf d[h]! d[a]!) (h + 1) j = bsW (fun h => ltOf cf d[h]! d[a]!) m b) := by show _ = _; rw [← HB.out, bsW_go1 (P := fun h => ltOf cf d[h]! d[a]!) hlt (by rw [← Hh.out]; exact hc), ← Hh.out]
          have q0 : (0 : Int) ≤ (h : Int) := by omega
          have q1 : (h : Int) < (d.size : Int) := by omega
          have q2 : (0 : Int) ≤ (a : Int) := by omega
          have q3 : (a : Int) < (d.size : Int) := by omega
          have q4 : ((h : Int)).toNat = h := by omega
          have q5 : ((a : Int)).toNat = a := by omega
          obtain ⟨vx, hvx⟩ : ∃ z, z = d[h]! := ⟨_, rfl⟩
          obtain ⟨vy, hvy⟩ : ∃ z, z = d[a]! := ⟨_, rfl⟩
          have la := S1.out.ld R (by omega) P h (by omega)
          have lb := S1.out.ld R (by omega) P a (by omega)
          rw [← hvx] at la
          rw [← hvy] at lb
          have hcc := S1.out.cmp HC.out (by omega) vx vy
          have hcv : cf vx vy < 0 := by rw [hvx, hvy]; exact of_decide_eq_true hc
          have hcd : decide (cf vx vy < 0) = true := decide_eq_true hcv
          clear hvx hvy
          go_wp2_with fail
          go_quiet_grown (first | (go_at_fn g; refine Calls.grown_of (hcc _ _)))
          have S2 : Aside (SWK enc k w0 blk off d (grow (wr.drewN nq) osq)) := S1.out.grown nq osq
          clear la lb hcc S1
          generalize grow (wr.drewN nq) osq = w2 at S2 ⊢
          clear nq osq
          clear hc
          go_wp2
          go_roundg (j - (h + 1))
          case measure => omega
          case rel => exact ⟨h + 1, j, by go_num, rfl, by omega, by omega, hjb, Nat.le_refl _, S2, HB2⟩
        | false =>
          have HB2 : Hid (bsW (fun h => ltOf cf d[h]! d[a]!) i h = bsW (fun h => ltOf cf d[h]! d[a]!) m b) := by show _ = _; rw [← HB.out, bsW_go0 (P := fun h => ltOf cf d[h]! d[a]!) hlt (by rw [← Hh.out]; exact hc), ← Hh.out]
          have q0 : (0 : Int) ≤ (h : Int) := by omega
          have q1 : (h : Int) < (d.size : Int) := by omega
          have q2 : (0 : Int) ≤ (a : Int) := by omega
          have q3 : (a : Int) < (d.size : Int) := by omega
          have q4 : ((h : Int)).toNat = h := by omega
          have q5 : ((a : Int)).toNat = a := by omega
          obtain ⟨vx, hvx⟩ : ∃ z, z = d[h]! := ⟨_, rfl⟩
          obtain ⟨vy, hvy⟩ : ∃ z, z = d[a]! := ⟨_, rfl⟩
          have la := S1.out.ld R (by omega) P h (by omega)
          have lb := S1.out.ld R (by omega) P a (by omega)
          rw [← hvx] at la
          rw [← hvy] at lb
          have hcc := S1.out.cmp HC.out (by omega) vx vy
          have hcv : ¬ cf vx vy < 0 := by rw [hvx, hvy]; exact of_decide_eq_false hc
          have hcd : decide (cf vx vy < 0) = false := decide_eq_false hcv
          clear hvx hvy
          go_wp2_with fail
          go_quiet_grown (first | (go_at_fn g; refine Calls.grown_of (hcc _ _)))
          have S2 : Aside (SWK enc k w0 blk off d (grow (wr.drewN nq) osq)) := S1.out.grown nq osq
          clear la lb hcc S1
          generalize grow (wr.drewN nq) osq = w2 at S2 ⊢
          clear nq osq
          clear hc
          go_wp2
          go_roundg (h - i)
          case measure => omega
          case rel => exact ⟨i, h, rfl, rfl, hmi, by omega, by omega, Nat.le_refl _, S2, HB2⟩
      · have hltz : ¬ (i : Int) < (j : Int) := by omega
        obtain ⟨i1, hi1⟩ : ∃ z, z = i - 1 := ⟨_, rfl⟩
        have ei1 : (i : Int) - 1 = (i1 : Int) := by omega
        have ri1 : IntKind.i64.wrap (i1 : Int) = (i1 : Int) := by rw [IntKind.wrap_i64]; omega
        have HR2 : Hid (symM (ltOf cf) (f + 1) d a m b = shU d a (i1 - a)) := by show _ = _; rw [HR.out, ← HB.out, bsW_end hlt, ← hi1]
        have hai : a ≤ i1 ∧ i1 < d.size := by omega
        clear HB HR hi1 hij
        go_wp2
        go_loopg [13] (i1 - a) (fun kx s13 wr => ∃ (n z : Nat) (dk : Array α), s13 = .int .i64 z ∧ z = a + n ∧ z ≤ i1 ∧ i1 - z ≤ kx ∧ dk.size = d.size ∧ Aside (SWK enc k w0 blk off dk wr) ∧ Hid (dk = shU d a n))
        case atStart => exact ⟨0, a, d, rfl, rfl, hai.1, Nat.le_refl _, rfl, S1, rfl⟩
        case round =>
          clear S1
          obtain ⟨n, z, dk, rfl, hz, hzi, hkz, hds, S3, HD⟩ := hrel
          have HZ : Hid (z = a + n) := hz
          clear hz
          by_cases hl2 : z < i1
          · have hl2z : (z : Int) < (i1 : Int) := by omega
            obtain ⟨y, hy⟩ : ∃ y, y = z + 1 := ⟨_, rfl⟩
            have ey : (z : Int) + 1 = (y : Int) := by omega
            have ry : IntKind.i64.wrap (y : Int) = (y : Int) := by rw [IntKind.wrap_i64]; omega
            have HY : Hid (y = z + 1) := hy
            have hys : y < d.size := by omega
            have hyi : y ≤ i1 := by omega
            clear hy
            go_wp2_with fail
            have q0 : (0 : Int) ≤ (z : Int) := by omega
            have q1 : (z : Int) < (d.size : Int) := by omega
            have q2 : (0 : Int) ≤ (y : Int) := by omega
            have q3 : (y : Int) < (d.size : Int) := by omega
            have q4 : ((z : Int)).toNat = z := by omega
            have q5 : ((y : Int)).toNat = y := by omega
            have S4 : Aside (SWK enc k w0 blk off (swp dk z y) ((wr.drew.setCells blk (off + z * k) (enc dk[y]!)).setCells blk (off + y * k) (enc dk[z]!))) := S3.out.swapped R z y (by omega) (by omega)
            have la := S3.out.ld1 R (by omega) P z (by omega)
            have lb := S3.out.ld1 R (by omega) P y (by omega)
            have sa := S3.out.st1 R (by omega) P z (by omega) dk[y]!
            have sb := S3.out.st2 R (by omega) P z y (by omega) (by omega) dk[y]! dk[z]!
            have na : (enc dk[z]!).length = k := R.hk _
            have nb : (enc dk[y]!).length = k := R.hk _
            generalize enc dk[z]! = cX at S4 la sb na
            generalize enc dk[y]! = cY at S4 lb sa sb nb
            clear S3
            go_wp2_with fail
            go_big_region_o
            clear la lb sa sb na nb
            generalize (wr.drew.setCells blk (off + z * k) cY).setCells blk (off + y * k) cX = w4 at S4 ⊢
            go_wp2
            go_roundg (i1 - y)
            case measure => have := HY.out; omega
            case rel =>
              refine ⟨n + 1, y, swp dk z y, rfl, by have := HY.out; have := HZ.out; omega, hyi, Nat.le_refl _, by rw [size_swp]; exact hds, S4, ?_⟩
              show _ = _
              rw [HD.out, HY.out, HZ.out]; rfl
          · have hl2z : ¬ (z : Int) < (i1 : Int) := by omega
            have hn : n = i1 - a := by have := HZ.out; omega
            have S5 : Aside (SWK enc k w0 blk off (symM (ltOf cf) (f + 1) d a m b) wr) := by show SWK _ _ _ _ _ _ _; rw [HR2.out, ← hn, ← HD.out]; exact S3.out
            clear hn
            go_wp2
            first | go_end0 | go_ret | ((try simp only [Exit.inBlock, Exit.then]); refine bodyPost_ret (results_none rfl _ _ _) rfl ?_)
            exact ⟨rfl, S5.out⟩
set_option maxHeartbeats 8000000 in
set_option maxRecDepth 1000000 in
theorem merge_two (L : Lay P k) (R : RowK enc k w0 blk off d0) (cf : α → α → Int) (g : Nat) (cb : Array Value) (eg : ∀ args w, (callFunc g args).run P w = .ok (.enter g args) w) (hcmp : CmpLays P g cb enc k cf blk off d0.size w0) (cap f a m b : Nat) (d : Array α) (w : World) (hs : d0.size = d.size) (S : SWK enc k w0 blk off d w) (ha : a < m) (hm : m < b) (hb : b ≤ d.size) (hsz : d.size < 4611686018427387904) (h1 : ¬ m - a = 1) (h2 : b - m = 1) :
    Calls P 161 #[.slice (some ⟨blk, off, none⟩) d.size cap, .int .i64 a, .int .i64 m, .int .i64 b, .func (.func g) #[] cb] w fun e w' => e = .returned (.tuple #[]) ∧ SWK enc k w0 blk off (symM (ltOf cf) (f + 1) d a m b) w' := by
    have mixed := L.mixed; have aE := L.aE; have zE := L.zE; have t0 := L.t0; have a0 := L.a0; have z0 := L.z0; have v0 := L.v0; have t3 := L.t3; have a3 := L.a3; have z3 := L.z3; have v3 := L.v3; have t4 := L.t4; have a4 := L.a4; have z4 := L.z4; have v4 := L.v4; have t5 := L.t5; have a5 := L.a5; have z5 := L.z5; have v5 := L.v5; have t6 := L.t6; have a6 := L.a6; have z6 := L.z6; have v6 := L.v6; have t7 := L.t7; have a7 := L.a7; have z7 := L.z7; have v7 := L.v7
    have eM : ∀ args w, (callFunc 161 args).run P w = .ok (.enter 161 args) w := enters_of L.fM (by kernel_rfl) rfl
    have eT : ∀ args w, (callFunc 166 args).run P w = .ok (.enter 166 args) w := enters_of L.fT (by kernel_rfl) rfl
    have HC : Aside _ := hcmp
    clear hcmp
    have S0 : Aside (SWK enc k w0 blk off d w) := S
    clear S
    have n1 : ((m : Int) - (a : Int) == 1) = false := by simp; omega
    have w1 : IntKind.i64.wrap ((m : Int) - (a : Int)) = (m : Int) - (a : Int) := by rw [IntKind.wrap_i64]; omega
    have HR : Hid (symM (ltOf cf) (f + 1) d a m b = shD d m (m - bsW (fun h => !ltOf cf d[m]! d[h]!) a m)) := by show _ = _; unfold symM; dsimp only; rw [if_neg h1, if_pos h2]
    have e1 : (b : Int) - (m : Int) = 1 := by omega
    go_enter L.fM, Try.ntmps161
    go_wp2
    go_loopg [14, 15] (m - a) (fun kx s10 s11 wr => ∃ (i j : Nat), s10 = .int .i64 i ∧ s11 = .int .i64 j ∧ a ≤ i ∧ i ≤ j ∧ j ≤ m ∧ j - i ≤ kx ∧ Aside (SWK enc k w0 blk off d wr) ∧ Hid (bsW (fun h => !ltOf cf d[m]! d[h]!) i j = bsW (fun h => !ltOf cf d[m]! d[h]!) a m))
    case atStart => exact ⟨a, m, rfl, rfl, Nat.le_refl _, by omega, Nat.le_refl _, Nat.le_refl _, S0, rfl⟩
    case round =>
      clear S0 n1 w1 e1
      obtain ⟨i, j, rfl, rfl, hmi, hij, hjb, hkx, S1, HB⟩ := hrel
      by_cases hlt : i < j
      · have hltz : (i : Int) < (j : Int) := by omega
        obtain ⟨s, hqs⟩ : ∃ z, z = i + j := ⟨_, rfl⟩
        obtain ⟨h, hh⟩ : ∃ z, z = (i + j) / 2 := ⟨_, rfl⟩
        have es : (i : Int) + (j : Int) = (s : Int) := by omega
        have eh : (s : Int) / 2 = (h : Int) := by omega
        have rs : IntKind.i64.wrap (s : Int) = (s : Int) := by rw [IntKind.wrap_i64]; omega
        have us : IntKind.u64.wrap (s : Int) = (s : Int) := by rw [IntKind.wrap_u64]; omega
        have rh : IntKind.i64.wrap (h : Int) = (h : Int) := by rw [IntKind.wrap_i64]; omega
        have Hh : Hid (h = (i + j) / 2) := hh
        have r2 : IntKind.i64.wrap ((h : Int) + 1) = (h : Int) + 1 := by rw [IntKind.wrap_i64]; omega
        have hhs : h < d.size := by omega
        have hh1 : i ≤ h ∧ h < j := by omega
        clear hqs hh
        cases hc : ltOf cf d[m]! d[h]! with
        | false =>
          have HB2 : Hid (bsW (fun h => !ltOf cf d[m]! d[h]!) (h + 1) j = bsW (fun h => !ltOf cf d[m]! d[h]!) a m) := by show _ = _; rw [← HB.out, bsW_go1 (P := fun h => !ltOf cf d[m]! d[h]!) hlt (by rw [← Hh.out, hc]; rfl), ← Hh.out]
          have q0 : (0 : Int) ≤ (m : Int) := by omega
          have q1 : (m : Int) < (d.size : Int) := by omega
          have q2 : (0 : Int) ≤ (h : Int) := by omega
          have q3 : (h : Int) < (d.size : Int) := by omega
          have q4 : ((m : Int)).toNat = m := by omega
          have q5 : ((h : Int)).toNat = h := by omega
          obtain ⟨vx, hvx⟩ : ∃ z, z = d[m]! := ⟨_, rfl⟩
          obtain ⟨vy, hvy⟩ : ∃ z, z = d[h]! := ⟨_, rfl⟩
          have la := S1.out.ld R (by omega) P m (by omega)
          have lb := S1.out.ld R (by omega) P h (by omega)
          rw [← hvx] at la
          rw [← hvy] at lb
          have hcc := S1.out.cmp HC.out (by omega) vx vy
          have hcv : ¬ cf vx vy < 0 := by rw [hvx, hvy]; exact of_decide_eq_false hc
          have hcd : decide (cf vx vy < 0) = false := decide_eq_false hcv
          clear hvx hvy
          go_wp2_with fail
          go_quiet_grown (first | (go_at_fn g; refine Calls.grown_of (hcc _ _)))
          have S2 : Aside (SWK enc k w0 blk off d (grow (wr.drewN nq) osq)) := S1.out.grown nq osq
          clear la lb hcc S1
          generalize grow (wr.drewN nq) osq = w2 at S2 ⊢
          clear nq osq
          clear hc
          go_wp2
          go_roundg (j - (h + 1))
          case measure => omega
          case rel => exact ⟨h + 1, j, by go_num, rfl, by omega, by omega, hjb, Nat.le_refl _, S2, HB2⟩
        | true =>
          have HB2 : Hid (bsW (fun h => !ltOf cf d[m]! d[h]!) i h = bsW (fun h => !ltOf cf d[m]! d[h]!) a m) := by show _ = _; rw [← HB.out, bsW_go0 (P := fun h => !ltOf cf d[m]! d[h]!) hlt (by rw [← Hh.out, hc]; rfl), ← Hh.out]
          have q0 : (0 : Int) ≤ (m : Int) := by omega
          have q1 : (m : Int) < (d.size : Int) := by omega
          have q2 : (0 : Int) ≤ (h : Int) := by omega
          have q3 : (h : Int) < (d.size : Int) := by omega
          have q4 : ((m : Int)).toNat = m := by omega
          have q5 : ((h : Int)).toNat = h := by omega
          obtain ⟨vx, hvx⟩ : ∃ z, z = d[m]! := ⟨_, rfl⟩
          obtain ⟨vy, hvy⟩ : ∃ z, z = d[h]! := ⟨_, rfl⟩
          have la := S1.out.ld R (by omega) P m (by omega)
          have lb := S1.out.ld R (by omega) P h (by omega)
          rw [← hvx] at la
          rw [← hvy] at lb
          have hcc := S1.out.cmp HC.out (by omega) vx vy
          have hcv : cf vx vy < 0 := by rw [hvx, hvy]; exact of_decide_eq_true hc
          have hcd : decide (cf vx vy < 0) = true := decide_eq_true hcv
          clear hvx hvy
          go_wp2_with fail
          go_quiet_grown (first | (go_at_fn g; refine Calls.grown_of (hcc _ _)))
          have S2 : Aside (SWK enc k w0 blk off d (grow (wr.drewN nq) osq)) := S1.out.grown nq osq
          clear la lb hcc S1
          generalize grow (wr.drewN nq) osq = w2 at S2 ⊢
          clear nq osq
          clear hc
          go_wp2
          go_roundg (h - i)
          case measure => omega
          case rel => exact ⟨i, h, rfl, rfl, hmi, by omega, by omega, Nat.le_refl _, S2, HB2⟩
      · have hltz : ¬ (i : Int) < (j : Int) := by omega
        have HR2 : Hid (symM (ltOf cf) (f + 1) d a m b = shD d m (m - i)) := by show _ = _; rw [HR.out, ← HB.out, bsW_end hlt]
        have hai : i ≤ m ∧ m < d.size := by omega
        clear HB HR hij
        go_wp2
        go_loopg [17] (m - i) (fun kx s13 wr => ∃ (n z : Nat) (dk : Array α), s13 = .int .i64 z ∧ z = m - n ∧ n ≤ m - i ∧ z - i ≤ kx ∧ dk.size = d.size ∧ Aside (SWK enc k w0 blk off dk wr) ∧ Hid (dk = shD d m n))
        case atStart => exact ⟨0, m, d, rfl, rfl, Nat.zero_le _, Nat.le_refl _, rfl, S1, rfl⟩
        case round =>
          clear S1
          obtain ⟨n, z, dk, rfl, hz, hzi, hkz, hds, S3, HD⟩ := hrel
          have HZ : Hid (z = m - n) := hz
          have hzm : z ≤ m := by omega
          clear hz
          by_cases hl2 : i < z
          · have hl2z : (i : Int) < (z : Int) := by omega
            have hl2g : decide ((z : Int) > (i : Int)) = true := decide_eq_true hl2z
            obtain ⟨y, hy⟩ : ∃ y, y = z - 1 := ⟨_, rfl⟩
            have ey : (z : Int) - 1 = (y : Int) := by omega
            have ry : IntKind.i64.wrap (y : Int) = (y : Int) := by rw [IntKind.wrap_i64]; omega
            have HY : Hid (y = z - 1) := hy
            have hys : y < d.size := by omega
            have hyi : i ≤ y := by omega
            clear hy
            go_wp2_with fail
            have q0 : (0 : Int) ≤ (z : Int) := by omega
            have q1 : (z : Int) < (d.size : Int) := by omega
            have q2 : (0 : Int) ≤ (y : Int) := by omega
            have q3 : (y : Int) < (d.size : Int) := by omega
            have q4 : ((z : Int)).toNat = z := by omega
            have q5 : ((y : Int)).toNat = y := by omega
            have S4 : Aside (SWK enc k w0 blk off (swp dk z y) ((wr.drew.setCells blk (off + z * k) (enc dk[y]!)).setCells blk (off + y * k) (enc dk[z]!))) := S3.out.swapped R z y (by omega) (by omega)
            have la := S3.out.ld1 R (by omega) P z (by omega)
            have lb := S3.out.ld1 R (by omega) P y (by omega)
            have sa := S3.out.st1 R (by omega) P z (by omega) dk[y]!
            have sb := S3.out.st2 R (by omega) P z y (by omega) (by omega) dk[y]! dk[z]!
            have na : (enc dk[z]!).length = k := R.hk _
            have nb : (enc dk[y]!).length = k := R.hk _
            generalize enc dk[z]! = cX at S4 la sb na
            generalize enc dk[y]! = cY at S4 lb sa sb nb
            clear S3
            go_wp2_with fail
            go_big_region_o
            clear la lb sa sb na nb
            generalize (wr.drew.setCells blk (off + z * k) cY).setCells blk (off + y * k) cX = w4 at S4 ⊢
            go_wp2
            go_roundg (y - i)
            case measure => have := HY.out; omega
            case rel =>
              refine ⟨n + 1, y, swp dk z y, rfl, by have := HY.out; have := HZ.out; omega, by have := HY.out; have := HZ.out; omega, Nat.le_refl _, by rw [size_swp]; exact hds, S4, ?_⟩
              show _ = _
              rw [HD.out, HY.out, HZ.out]; rfl
          · have hl2z : ¬ (i : Int) < (z : Int) := by omega
            have hl2g : decide ((z : Int) > (i : Int)) = false := decide_eq_false hl2z
            have hn : n = m - i := by have := HZ.out; omega
            have S5 : Aside (SWK enc k w0 blk off (symM (ltOf cf) (f + 1) d a m b) wr) := by show SWK _ _ _ _ _ _ _; rw [HR2.out, ← hn, ← HD.out]; exact S3.out
            clear hn
            go_wp2
            first | go_end0 | go_ret | ((try simp only [Exit.inBlock, Exit.then]); refine bodyPost_ret (results_none rfl _ _ _) rfl ?_)
            exact ⟨rfl, S5.out⟩
set_option maxHeartbeats 8000000 in
set_option maxRecDepth 1000000 in
theorem merge_main (L : Lay P k) (R : RowK enc k w0 blk off d0) (cf : α → α → Int) (g : Nat) (cb : Array Value) (eg : ∀ args w, (callFunc g args).run P w = .ok (.enter g args) w) (hcmp : CmpLays P g cb enc k cf blk off d0.size w0) (cap f a m b : Nat) (d : Array α) (w : World) (hs : d0.size = d.size) (S : SWK enc k w0 blk off d w) (ha : a < m) (hm : m < b) (hb : b ≤ d.size) (hsz : d.size < 4611686018427387904) (h1 : ¬ m - a = 1) (h2 : ¬ b - m = 1) (hf : b - a ≤ f + 1)
    (ih : ∀ (a m b : Nat) (d : Array α) (w : World), d0.size = d.size → SWK enc k w0 blk off d w → a < m → m < b → b ≤ d.size → d.size < 4611686018427387904 → b - a ≤ f → Calls P 161 #[.slice (some ⟨blk, off, none⟩) d.size cap, .int .i64 a, .int .i64 m, .int .i64 b, .func (.func g) #[] cb] w fun e w' => e = .returned (.tuple #[]) ∧ SWK enc k w0 blk off (symM (ltOf cf) f d a m b) w') :
    Calls P 161 #[.slice (some ⟨blk, off, none⟩) d.size cap, .int .i64 a, .int .i64 m, .int .i64 b, .func (.func g) #[] cb] w fun e w' => e = .returned (.tuple #[]) ∧ SWK enc k w0 blk off (symM (ltOf cf) (f + 1) d a m b) w' := by
  have mixed := L.mixed; have aE := L.aE; have zE := L.zE; have t0 := L.t0; have a0 := L.a0; have z0 := L.z0; have v0 := L.v0; have t3 := L.t3; have a3 := L.a3; have z3 := L.z3; have v3 := L.v3; have t4 := L.t4; have a4 := L.a4; have z4 := L.z4; have v4 := L.v4; have t5 := L.t5; have a5 := L.a5; have z5 := L.z5; have v5 := L.v5; have t6 := L.t6; have a6 := L.a6; have z6 := L.z6; have v6 := L.v6; have t7 := L.t7; have a7 := L.a7; have z7 := L.z7; have v7 := L.v7
  have eM : ∀ args w, (callFunc 161 args).run P w = .ok (.enter 161 args) w := enters_of L.fM (by kernel_rfl) rfl
  have eT : ∀ args w, (callFunc 166 args).run P w = .ok (.enter 166 args) w := enters_of L.fT (by kernel_rfl) rfl
  have HC : Aside _ := hcmp
  clear hcmp
  have S0 : Aside (SWK enc k w0 blk off d w) := S
  clear S
  have IH := Lib.hid ih
  clear ih
  have n1 : ((m : Int) - (a : Int) == 1) = false := by simp; omega
  have w1 : IntKind.i64.wrap ((m : Int) - (a : Int)) = (m : Int) - (a : Int) := by rw [IntKind.wrap_i64]; omega
  have n2 : ((b : Int) - (m : Int) == 1) = false := by simp; omega
  have w2' : IntKind.i64.wrap ((b : Int) - (m : Int)) = (b : Int) - (m : Int) := by rw [IntKind.wrap_i64]; omega
  obtain ⟨sab, hqsab⟩ : ∃ z, z = a + b := ⟨_, rfl⟩
  obtain ⟨md, hmd⟩ : ∃ z, z = (a + b) / 2 := ⟨_, rfl⟩
  have esab : (a : Int) + (b : Int) = (sab : Int) := by omega
  have emd : (sab : Int) / 2 = (md : Int) := by omega
  have rsab : IntKind.i64.wrap (sab : Int) = (sab : Int) := by rw [IntKind.wrap_i64]; omega
  have usab : IntKind.u64.wrap (sab : Int) = (sab : Int) := by rw [IntKind.wrap_u64]; omega
  have rmd : IntKind.i64.wrap (md : Int) = (md : Int) := by rw [IntKind.wrap_i64]; omega
  have Hmd : Hid (md = (a + b) / 2) := hmd
  obtain ⟨nn, hnn⟩ : ∃ z, z = md + m := ⟨_, rfl⟩
  have enn : (md : Int) + (m : Int) = (nn : Int) := by omega
  have rnn : IntKind.i64.wrap (nn : Int) = (nn : Int) := by rw [IntKind.wrap_i64]; omega
  have HR : Hid (∀ s e, s = symStart (ltOf cf) d a m b → e = nn - s → symM (ltOf cf) (f + 1) d a m b = (if md < e ∧ e < b then symM (ltOf cf) f (if a < s ∧ s < md then symM (ltOf cf) f (symRot d s m e) a s md else symRot d s m e) md e b else if a < s ∧ s < md then symM (ltOf cf) f (symRot d s m e) a s md else symRot d s m e)) := fun s e h3 h4 => symM_main h1 h2 hmd h3 (by rw [h4, hnn])
  have HST : Hid (symStart (ltOf cf) d a m b = if md < m then bsW (fun c => !ltOf cf d[nn - 1 - c]! d[c]!) (nn - b) md else bsW (fun c => !ltOf cf d[nn - 1 - c]! d[c]!) a m) := by show _ = _; subst hnn hmd; rfl
  have HNN : Hid (nn = md + m) := hnn
  have g1 : a + 2 ≤ m ∧ m + 2 ≤ b ∧ a < md ∧ md < b ∧ md - a < b - a ∧ b - md < b - a ∧ a + b ≤ 2 * md + 1 ∧ 2 * md ≤ a + b := by omega
  clear hqsab hmd hnn
  obtain ⟨ba, hba⟩ : ∃ ba, ba = decide (md < m) := ⟨_, rfl⟩
  have hd1 : decide ((m : Int) > (md : Int)) = ba := by rw [hba]; exact decide_eq_decide.2 (by omega)
  have hd2 : decide ((md : Int) < (m : Int)) = ba := by rw [hba]; exact decide_eq_decide.2 (by omega)
  have HBA : Hid (ba = decide (md < m)) := hba
  clear hba
  go_enter L.fM, Try.ntmps161
  go_upto_if 140 with fail
  clear hd1 hd2
  go_cut [20, 21] (fun s20 s21 wx => ∃ (s0 r0 : Nat), s20 = .int .i64 s0 ∧ s21 = .int .i64 r0 ∧ a ≤ s0 ∧ s0 ≤ r0 ∧ r0 ≤ m ∧ r0 ≤ md ∧ nn - b ≤ s0 ∧ wx = w ∧ Hid (symStart (ltOf cf) d a m b = bsW (fun c => !ltOf cf d[nn - 1 - c]! d[c]!) s0 r0))
  case first =>
    as_aux_lemma =>
    cases ba with
    | true =>
      have hmm : md < m := by simpa using HBA.out.symm
      obtain ⟨s0, hs0⟩ : ∃ z, z = nn - b := ⟨_, rfl⟩
      have es0 : (nn : Int) - (b : Int) = (s0 : Int) := by have := HNN.out; omega
      have rs0 : IntKind.i64.wrap (s0 : Int) = (s0 : Int) := by have := HNN.out; rw [IntKind.wrap_i64]; omega
      have HS0 : Hid (s0 = nn - b) := hs0
      clear hs0
      go_wp2_with fail
      go_meet
      exact ⟨s0, md, rfl, rfl, by have := HNN.out; have := HS0.out; omega, by have := HNN.out; have := HS0.out; omega, by omega, Nat.le_refl _, by have := HS0.out; omega, rfl, by show _ = _; rw [HST.out, if_pos hmm, HS0.out]⟩
    | false =>
      have hmm : ¬ md < m := by simpa using HBA.out.symm
      go_wp2_with fail
      go_meet
      exact ⟨a, m, rfl, rfl, Nat.le_refl _, by omega, Nat.le_refl _, by omega, by have := HNN.out; omega, rfl, by show _ = _; rw [HST.out, if_neg hmm]⟩
  case rest =>
  obtain ⟨s0, r0, rfl, rfl, c1, c2, c3, c4, c5, rfl, HSS⟩ := hcut
  clear HST HBA n1 w1 n2 w2' esab emd rsab usab rmd enn rnn
  obtain ⟨p1, hp1⟩ : ∃ z, z = nn - 1 := ⟨_, rfl⟩
  have ep1 : (nn : Int) - 1 = (p1 : Int) := by have := HNN.out; omega
  have rp1 : IntKind.i64.wrap (p1 : Int) = (p1 : Int) := by have := HNN.out; rw [IntKind.wrap_i64]; omega
  have HP1 : Hid (p1 = nn - 1) := hp1
  clear hp1
  go_wp2
  go_loopg [20, 21] (r0 - s0) (fun kx s20 s21 wr => ∃ (s r : Nat), s20 = .int .i64 s ∧ s21 = .int .i64 r ∧ s0 ≤ s ∧ s ≤ r ∧ r ≤ r0 ∧ r - s ≤ kx ∧ Aside (SWK enc k w0 blk off d wr) ∧ Hid (symStart (ltOf cf) d a m b = bsW (fun c => !ltOf cf d[nn - 1 - c]! d[c]!) s r))
  case atStart => exact ⟨s0, r0, rfl, rfl, Nat.le_refl _, c2, Nat.le_refl _, Nat.le_refl _, S0, HSS⟩
  case round =>
    clear S0 HSS ep1 rp1
    as_aux_lemma =>
    obtain ⟨s, r, rfl, rfl, d1, d2, d3, hkx, S1, HB⟩ := hrel
    by_cases hlt : s < r
    · have hltz : (s : Int) < (r : Int) := by omega
      obtain ⟨sr, hqsr⟩ : ∃ z, z = s + r := ⟨_, rfl⟩
      obtain ⟨c, hc⟩ : ∃ z, z = (s + r) / 2 := ⟨_, rfl⟩
      have esr : (s : Int) + (r : Int) = (sr : Int) := by omega
      have ec : (sr : Int) / 2 = (c : Int) := by omega
      have rsr : IntKind.i64.wrap (sr : Int) = (sr : Int) := by rw [IntKind.wrap_i64]; omega
      have usr : IntKind.u64.wrap (sr : Int) = (sr : Int) := by rw [IntKind.wrap_u64]; omega
      have rc : IntKind.i64.wrap (c : Int) = (c : Int) := by rw [IntKind.wrap_i64]; omega
      have Hc : Hid (c = (s + r) / 2) := hc
      have r2 : IntKind.i64.wrap ((c : Int) + 1) = (c : Int) + 1 := by rw [IntKind.wrap_i64]; omega
      obtain ⟨pc, hpc⟩ : ∃ z, z = nn - 1 - c := ⟨_, rfl⟩
      have epc : (p1 : Int) - (c : Int) = (pc : Int) := by have := HNN.out; have := HP1.out; omega
      have rpc : IntKind.i64.wrap (pc : Int) = (pc : Int) := by have := HNN.out; rw [IntKind.wrap_i64]; omega
      have hpcs : pc < d.size := by have := HNN.out; omega
      have hcs : c < d.size := by omega
      have hh1 : s ≤ c ∧ c < r := by omega
      have HPC : Hid (pc = nn - 1 - c) := hpc
      clear hqsr hc hpc
      cases hcc0 : ltOf cf d[pc]! d[c]! with
      | false =>
        have HB2 : Hid (symStart (ltOf cf) d a m b = bsW (fun c => !ltOf cf d[nn - 1 - c]! d[c]!) (c + 1) r) := by show _ = _; rw [HB.out, bsW_go1 (P := fun c => !ltOf cf d[nn - 1 - c]! d[c]!) hlt (by rw [← Hc.out, ← HPC.out, hcc0]; rfl), ← Hc.out]
        have q0 : (0 : Int) ≤ (pc : Int) := by omega
        have q1 : (pc : Int) < (d.size : Int) := by omega
        have q2 : (0 : Int) ≤ (c : Int) := by omega
        have q3 : (c : Int) < (d.size : Int) := by omega
        have q4 : ((pc : Int)).toNat = pc := by omega
        have q5 : ((c : Int)).toNat = c := by omega
        obtain ⟨vx, hvx⟩ : ∃ z, z = d[pc]! := ⟨_, rfl⟩
        obtain ⟨vy, hvy⟩ : ∃ z, z = d[c]! := ⟨_, rfl⟩
        have la := S1.out.ld R (by omega) P pc (by omega)
        have lb := S1.out.ld R (by omega) P c (by omega)
        rw [← hvx] at la
        rw [← hvy] at lb
        have hcc := S1.out.cmp HC.out (by omega) vx vy
        have hcv : ¬ cf vx vy < 0 := by rw [hvx, hvy]; exact of_decide_eq_false hcc0
        have hcd : decide (cf vx vy < 0) = false := decide_eq_false hcv
        clear hvx hvy
        go_wp2_with fail
        go_quiet_grown (first | (go_at_fn g; refine Calls.grown_of (hcc _ _)))
        have S2 : Aside (SWK enc k w0 blk off d (grow (wr.drewN nq) osq)) := S1.out.grown nq osq
        clear la lb hcc S1
        generalize grow (wr.drewN nq) osq = w2 at S2 ⊢
        clear nq osq
        clear hcc0
        go_wp2
        go_roundg (r - (c + 1))
        case measure => omega
        case rel => exact ⟨c + 1, r, by go_num, rfl, by omega, by omega, d3, Nat.le_refl _, S2, HB2⟩
      | true =>
        have HB2 : Hid (symStart (ltOf cf) d a m b = bsW (fun c => !ltOf cf d[nn - 1 - c]! d[c]!) s c) := by show _ = _; rw [HB.out, bsW_go0 (P := fun c => !ltOf cf d[nn - 1 - c]! d[c]!) hlt (by rw [← Hc.out, ← HPC.out, hcc0]; rfl), ← Hc.out]
        have q0 : (0 : Int) ≤ (pc : Int) := by omega
        have q1 : (pc : Int) < (d.size : Int) := by omega
        have q2 : (0 : Int) ≤ (c : Int) := by omega
        have q3 : (c : Int) < (d.size : Int) := by omega
        have q4 : ((pc : Int)).toNat = pc := by omega
        have q5 : ((c : Int)).toNat = c := by omega
        obtain ⟨vx, hvx⟩ : ∃ z, z = d[pc]! := ⟨_, rfl⟩
        obtain ⟨vy, hvy⟩ : ∃ z, z = d[c]! := ⟨_, rfl⟩
        have la := S1.out.ld R (by omega) P pc (by omega)
        have lb := S1.out.ld R (by omega) P c (by omega)
        rw [← hvx] at la
        rw [← hvy] at lb
        have hcc := S1.out.cmp HC.out (by omega) vx vy
        have hcv : cf vx vy < 0 := by rw [hvx, hvy]; exact of_decide_eq_true hcc0
        have hcd : decide (cf vx vy < 0) = true := decide_eq_true hcv
        clear hvx hvy
        go_wp2_with fail
        go_quiet_grown (first | (go_at_fn g; refine Calls.grown_of (hcc _ _)))
        have S2 : Aside (SWK enc k w0 blk off d (grow (wr.drewN nq) osq)) := S1.out.grown nq osq
        clear la lb hcc S1
        generalize grow (wr.drewN nq) osq = w2 at S2 ⊢
        clear nq osq
        clear hcc0
        go_wp2
        go_roundg (c - s)
        case measure => omega
        case rel => exact ⟨s, c, rfl, rfl, d1, by omega, by omega, Nat.le_refl _, S2, HB2⟩
    · have hltz : ¬ (s : Int) < (r : Int) := by omega
      obtain ⟨e, he⟩ : ∃ z, z = nn - s := ⟨_, rfl⟩
      have ee : (nn : Int) - (s : Int) = (e : Int) := by have := HNN.out; omega
      have re : IntKind.i64.wrap (e : Int) = (e : Int) := by have := HNN.out; rw [IntKind.wrap_i64]; omega
      have HR2 := Lib.hid (HR.out s e (by rw [HB.out, bsW_end hlt]) he)
      have g2 : a ≤ s ∧ s ≤ m ∧ s ≤ md ∧ m ≤ e ∧ e ≤ b := by have := HNN.out; omega
      have hds : d.size = d.size := rfl
      clear HB HR he d1 d2 d3 hkx hltz
      have KT := Lib.hid (fun (h1 : s < m) (h2 : m < e) => rotate_any L R cap s m e (.func (.func g) #[] cb) d wr hs S1.out h1 h2 (by omega) hsz)
      obtain ⟨D1, hD1⟩ : ∃ D, D = symRot d s m e := ⟨_, rfl⟩
      obtain ⟨D2, hD2⟩ : ∃ D, D = if a < s ∧ s < md then symM (ltOf cf) f D1 a s md else D1 := ⟨_, rfl⟩
      obtain ⟨D3, hD3⟩ : ∃ D, D = if md < e ∧ e < b then symM (ltOf cf) f D2 md e b else D2 := ⟨_, rfl⟩
      have HRES : Hid (symM (ltOf cf) (f + 1) d a m b = D3) := by show _ = _; rw [HR2.out, hD3, hD2, hD1]
      have z1 : D1.size = d.size := by rw [hD1]; exact symRot_size _ _ _ _
      have z2 : D2.size = d.size := by rw [hD2]; split <;> simp [symM_size, z1]
      have HD1 : Hid (D1 = symRot d s m e) := hD1
      have HD2 : Hid (D2 = if a < s ∧ s < md then symM (ltOf cf) f D1 a s md else D1) := hD2
      have HD3 : Hid (D3 = if md < e ∧ e < b then symM (ltOf cf) f D2 md e b else D2) := hD3
      clear hD1 hD2 hD3 HR2
      have K1 := Lib.hid (fun (X : World) (hX : SWK enc k w0 blk off D1 X) (h1 : a < s) (h2 : s < md) => (show Calls P 161 #[.slice (some ⟨blk, off, none⟩) d.size cap, .int .i64 a, .int .i64 s, .int .i64 md, .func (.func g) #[] cb] X fun ex w' => ex = .returned (.tuple #[]) ∧ SWK enc k w0 blk off (symM (ltOf cf) f D1 a s md) w' from by rw [← z1]; exact IH.out a s md D1 X (by omega) hX h1 h2 (by omega) (by omega) (by omega)))
      have K2 := Lib.hid (fun (X : World) (hX : SWK enc k w0 blk off D2 X) (h1 : md < e) (h2 : e < b) => (show Calls P 161 #[.slice (some ⟨blk, off, none⟩) d.size cap, .int .i64 md, .int .i64 e, .int .i64 b, .func (.func g) #[] cb] X fun ex w' => ex = .returned (.tuple #[]) ∧ SWK enc k w0 blk off (symM (ltOf cf) f D2 md e b) w' from by rw [← z2]; exact IH.out md e b D2 X (by omega) hX h1 h2 (by omega) (by omega) (by omega)))
      clear z1 z2 hds IH
      go_upto_region 39 with fail
      go_cut [185] (fun vv wx => vv = .bool (decide (s < m ∧ m < e)) ∧ wx = wr)
      case first =>
        as_aux_lemma =>
        by_cases k1 : s < m
        · have k1d : decide ((s : Int) < (m : Int)) = true := decide_eq_true (by omega)
          have k1n : decide (s < m) = true := decide_eq_true k1
          have k1z : (s : Int) < (m : Int) := by omega
          by_cases k2 : m < e
          · have k2d : decide ((m : Int) < (e : Int)) = true := decide_eq_true (by omega)
            have k2n : decide (m < e) = true := decide_eq_true k2
            have k2z : (m : Int) < (e : Int) := by omega
            have kk : decide (s < m ∧ m < e) = true := decide_eq_true ⟨k1, k2⟩
            have KK0 := Lib.hid kk
            clear k1 k2 kk
            go_wp2_with fail
            go_meet
            exact ⟨by rw [KK0.out], rfl⟩
          · have k2d : decide ((m : Int) < (e : Int)) = false := decide_eq_false (by omega)
            have k2n : decide (m < e) = false := decide_eq_false k2
            have k2z : ¬ (m : Int) < (e : Int) := by omega
            have kk : decide (s < m ∧ m < e) = false := decide_eq_false fun h => k2 h.2
            have KK0 := Lib.hid kk
            clear k1 k2 kk
            go_wp2_with fail
            go_meet
            exact ⟨by rw [KK0.out], rfl⟩
        · have k1d : decide ((s : Int) < (m : Int)) = false := decide_eq_false (by omega)
          have k1n : decide (s < m) = false := decide_eq_false k1
          have k1z : ¬ (s : Int) < (m : Int) := by omega
          have kk : decide (s < m ∧ m < e) = false := decide_eq_false fun h => k1 h.1
          have KK0 := Lib.hid kk
          clear k1 kk
          go_wp2_with fail
          go_meet
          exact ⟨by rw [KK0.out], rfl⟩
      case rest =>
      obtain ⟨rfl, rfl⟩ := hcut
      as_aux_lemma =>
      obtain ⟨bb, hbb⟩ : ∃ bb, bb = decide (s < m ∧ m < e) := ⟨_, rfl⟩
      rw [← hbb]
      have HBB : Hid (bb = decide (s < m ∧ m < e)) := hbb
      clear hbb
      go_upto_if 185 with fail
      go_cut [] (fun wx => Aside (SWK enc k w0 blk off D1 wx))
      case first =>
        as_aux_lemma =>
        cases bb with
        | true =>
          have hbt : s < m ∧ m < e := by simpa using HBB.out.symm
          have KK := Lib.hid (KT.out hbt.1 hbt.2)
          have hND := (show D1 = rotF m (e - s) d (m - s) (e - m) from by rw [HD1.out]; unfold symRot; rw [if_pos hbt])
          have HND := Lib.hid hND
          clear hbt hND
          go_wp2_with fail
          refine KK.out.mono ?_
          rintro ex wy ⟨rfl, hS⟩
          have HS := Lib.hid hS
          clear hS
          go_wp2_with fail
          go_meet
          rw [HND.out]
          exact HS.out
        | false =>
          have hbf : ¬ (s < m ∧ m < e) := by simpa using HBB.out.symm
          have HND := Lib.hid (show D1 = d from by rw [HD1.out]; unfold symRot; rw [if_neg hbf])
          clear hbf
          go_wp2_with fail
          go_meet
          rw [HND.out]
          exact S1.out
      case rest =>
      have S2 := hcut
      as_aux_lemma =>
      clear hcut HBB S1
      clear KT
      go_upto_region 41 with fail
      go_cut [199] (fun vv wx => vv = .bool (decide (a < s ∧ s < md)) ∧ wx = wc)
      case first =>
        as_aux_lemma =>
        by_cases k1 : a < s
        · have k1d : decide ((a : Int) < (s : Int)) = true := decide_eq_true (by omega)
          have k1n : decide (a < s) = true := decide_eq_true k1
          have k1z : (a : Int) < (s : Int) := by omega
          by_cases k2 : s < md
          · have k2d : decide ((s : Int) < (md : Int)) = true := decide_eq_true (by omega)
            have k2n : decide (s < md) = true := decide_eq_true k2
            have k2z : (s : Int) < (md : Int) := by omega
            have kk : decide (a < s ∧ s < md) = true := decide_eq_true ⟨k1, k2⟩
            have KK0 := Lib.hid kk
            clear k1 k2 kk
            go_wp2_with fail
            go_meet
            exact ⟨by rw [KK0.out], rfl⟩
          · have k2d : decide ((s : Int) < (md : Int)) = false := decide_eq_false (by omega)
            have k2n : decide (s < md) = false := decide_eq_false k2
            have k2z : ¬ (s : Int) < (md : Int) := by omega
            have kk : decide (a < s ∧ s < md) = false := decide_eq_false fun h => k2 h.2
            have KK0 := Lib.hid kk
            clear k1 k2 kk
            go_wp2_with fail
            go_meet
            exact ⟨by rw [KK0.out], rfl⟩
        · have k1d : decide ((a : Int) < (s : Int)) = false := decide_eq_false (by omega)
          have k1n : decide (a < s) = false := decide_eq_false k1
          have k1z : ¬ (a : Int) < (s : Int) := by omega
          have kk : decide (a < s ∧ s < md) = false := decide_eq_false fun h => k1 h.1
          have KK0 := Lib.hid kk
          clear k1 kk
          go_wp2_with fail
          go_meet
          exact ⟨by rw [KK0.out], rfl⟩
      case rest =>
      obtain ⟨rfl, rfl⟩ := hcut
      as_aux_lemma =>
      obtain ⟨bb, hbb⟩ : ∃ bb, bb = decide (a < s ∧ s < md) := ⟨_, rfl⟩
      rw [← hbb]
      have HBB : Hid (bb = decide (a < s ∧ s < md)) := hbb
      clear hbb
      go_upto_if 199 with fail
      go_cut [] (fun wx => Aside (SWK enc k w0 blk off D2 wx))
      case first =>
        as_aux_lemma =>
        cases bb with
        | true =>
          have hbt : a < s ∧ s < md := by simpa using HBB.out.symm
          have KK := Lib.hid (K1.out _ S2.out hbt.1 hbt.2)
          have hND := (show D2 = symM (ltOf cf) f D1 a s md from by rw [HD2.out, if_pos hbt])
          have HND := Lib.hid hND
          clear hbt hND
          go_wp2_with fail
          refine KK.out.mono ?_
          rintro ex wy ⟨rfl, hS⟩
          have HS := Lib.hid hS
          clear hS
          go_wp2_with fail
          go_meet
          rw [HND.out]
          exact HS.out
        | false =>
          have hbf : ¬ (a < s ∧ s < md) := by simpa using HBB.out.symm
          have HND := Lib.hid (show D2 = D1 from by rw [HD2.out, if_neg hbf])
          clear hbf
          go_wp2_with fail
          go_meet
          rw [HND.out]
          exact S2.out
      case rest =>
      have S3 := hcut
      as_aux_lemma =>
      clear hcut HBB S2
      go_upto_region 43 with fail
      go_cut [213] (fun vv wx => vv = .bool (decide (md < e ∧ e < b)) ∧ wx = wc)
      case first =>
        as_aux_lemma =>
        by_cases k1 : md < e
        · have k1d : decide ((md : Int) < (e : Int)) = true := decide_eq_true (by omega)
          have k1n : decide (md < e) = true := decide_eq_true k1
          have k1z : (md : Int) < (e : Int) := by omega
          by_cases k2 : e < b
          · have k2d : decide ((e : Int) < (b : Int)) = true := decide_eq_true (by omega)
            have k2n : decide (e < b) = true := decide_eq_true k2
            have k2z : (e : Int) < (b : Int) := by omega
            have kk : decide (md < e ∧ e < b) = true := decide_eq_true ⟨k1, k2⟩
            have KK0 := Lib.hid kk
            clear k1 k2 kk
            go_wp2_with fail
            go_meet
            exact ⟨by rw [KK0.out], rfl⟩
          · have k2d : decide ((e : Int) < (b : Int)) = false := decide_eq_false (by omega)
            have k2n : decide (e < b) = false := decide_eq_false k2
            have k2z : ¬ (e : Int) < (b : Int) := by omega
            have kk : decide (md < e ∧ e < b) = false := decide_eq_false fun h => k2 h.2
            have KK0 := Lib.hid kk
            clear k1 k2 kk
            go_wp2_with fail
            go_meet
            exact ⟨by rw [KK0.out], rfl⟩
        · have k1d : decide ((md : Int) < (e : Int)) = false := decide_eq_false (by omega)
          have k1n : decide (md < e) = false := decide_eq_false k1
          have k1z : ¬ (md : Int) < (e : Int) := by omega
          have kk : decide (md < e ∧ e < b) = false := decide_eq_false fun h => k1 h.1
          have KK0 := Lib.hid kk
          clear k1 kk
          go_wp2_with fail
          go_meet
          exact ⟨by rw [KK0.out], rfl⟩
      case rest =>
      obtain ⟨rfl, rfl⟩ := hcut
      as_aux_lemma =>
      obtain ⟨bb, hbb⟩ : ∃ bb, bb = decide (md < e ∧ e < b) := ⟨_, rfl⟩
      rw [← hbb]
      have HBB : Hid (bb = decide (md < e ∧ e < b)) := hbb
      clear hbb
      cases bb with
      | true =>
        have hbt : md < e ∧ e < b := by simpa using HBB.out.symm
        have KK := Lib.hid (K2.out _ S3.out hbt.1 hbt.2)
        have hND := (show D3 = symM (ltOf cf) f D2 md e b from by rw [HD3.out, if_pos hbt])
        have HND := Lib.hid hND
        clear hbt hND
        go_wp2_with fail
        refine KK.out.mono ?_
        rintro ex wy ⟨rfl, hS⟩
        have HS := Lib.hid hS
        clear hS
        go_wp2
        first | go_end0 | go_ret | ((try simp only [Exit.inBlock, Exit.then]); refine bodyPost_ret (results_none rfl _ _ _) rfl ?_)
        rw [HRES.out, HND.out]
        exact ⟨rfl, HS.out⟩
      | false =>
        have hbf : ¬ (md < e ∧ e < b) := by simpa using HBB.out.symm
        have HND := Lib.hid (show D3 = D2 from by rw [HD3.out, if_neg hbf])
        clear hbf
        go_wp2
        first | go_end0 | go_ret | ((try simp only [Exit.inBlock, Exit.then]); refine bodyPost_ret (results_none rfl _ _ _) rfl ?_)
        rw [HRES.out, HND.out]
        exact ⟨rfl, S3.out⟩
theorem merge_any (L : Lay P k) (R : RowK enc k w0 blk off d0) (cf : α → α → Int) (g : Nat) (cb : Array Value) (eg : ∀ args w, (callFunc g args).run P w = .ok (.enter g args) w) (hcmp : CmpLays P g cb enc k cf blk off d0.size w0) (cap : Nat) :
    ∀ (f a m b : Nat) (d : Array α) (w : World), d0.size = d.size → SWK enc k w0 blk off d w → a < m → m < b → b ≤ d.size → d.size < 4611686018427387904 → b - a ≤ f → Calls P 161 #[.slice (some ⟨blk, off, none⟩) d.size cap, .int .i64 a, .int .i64 m, .int .i64 b, .func (.func g) #[] cb] w fun e w' => e = .returned (.tuple #[]) ∧ SWK enc k w0 blk off (symM (ltOf cf) f d a m b) w' := by
  intro f
  induction f with
  | zero => intro a m b d w _ _ h1 h2 _ _ h3; omega
  | succ f ih =>
    intro a m b d w hs S ha hm hb hsz hf
    by_cases h1 : m - a = 1
    · exact merge_one L R cf g cb eg hcmp cap f a m b d w hs S ha hm hb hsz h1
    · by_cases h2 : b - m = 1
      · exact merge_two L R cf g cb eg hcmp cap f a m b d w hs S ha hm hb hsz h1 h2
      · exact merge_main L R cf g cb eg hcmp cap f a m b d w hs S ha hm hb hsz h1 h2 hf ih
end SsItem
end Go.Proofs.Ytbhnjmdlagjfbaa
