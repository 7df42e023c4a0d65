/- Laws that belong together: Saving; a small play. Condition: errors.errorType reads as the program's text lays it.; The document's records: a frame, its numbers. No condition but the lengths' bounds. The document's records of bytes. No condition but the lengths' bounds.; The document's answer on files that hold a text. No condition. -/
import Derived.Test.YtomhfnaekjmjnaaDoorMan
import Derived.Lib.SlBytesConst
import Derived.Test.YtomhfnaekjmjnaaDoorMam
import Derived.Test.YtomhfnaekjmjnaaDoorMae
import Derived.Test.YtomhfnaekjmjnaaDoorMac
namespace Go.Proofs.YtomhfnaekjmjnaaDoor
set_option linter.unusedVariables false
open Go.ChangeShapes Go.WideShapes Go.ChangeAt Go.RowKit
attribute [local go_sem ↓] Go.wp_at_zero Go.wp_at_succ comesTo_value_eq comesTo_skip_eq comesTo_enter_eq

def saveS (st : SS) (ds : DS) (bs : List Int) : SS × DS × Int :=
  if st.failed = true then (st, ds, 16) else if 65536 < bs.length then (st, ds, 3) else if 4611686018427387904 ≤ st.gen then (st, ds, 15) else saveF st ds bs
theorem saveEnd_same {w : World} {S D : Nat} {H : Nat → Prop} {st : SS} {ds : DS} (h : SD w S D H st ds) (code : Int) : SaveEnd w S D H (st, ds, code) (.returned (.int .i64 code)) w :=
  ⟨rfl, h.more fun j _ hj => .inl hj, Fr.refl _ _⟩
set_option maxRecDepth 100000 in
theorem savec_sd {w : World} {S D : Nat} {H : Nat → Prop} {st : SS} {ds : DS} (h : SD w S D H st ds) (ad : Option Addr) (n c : Nat) (bs : List Int) (hX : ∀ w', Fr H w w' → TxtAt w' (.slice ad n c) bs) :
    Calls Tryd.prog 30 #[.pointer (some ⟨S, 0, none⟩), .slice ad n c] w fun e w' => SaveEnd w S D H (saveS st ds bs) e w' := by
  have HX0 := hX _ (Fr.refl _ _)
  have hn : n = bs.length := by
    rcases HX0 with ⟨b', o', c', e, h1, h2⟩ | ⟨rfl, a, cp, e, _⟩ <;> (cases e; rfl)
  have HSD := Lib.hid h
  obtain ⟨F, G, hs, _, _, _⟩ := h
  have K := Lib.hid (there_syes hs.made)
  obtain ⟨_, _, _, _, tv, hb, _⟩ := hs
  obtain ⟨f0, f1, last, text, gen, failed⟩ := st
  unfold snCells at hb
  simp only at hb
  have c6 := cell_of_block (o := 6) hb rfl
  have c5 := cell_of_block (o := 5) hb rfl
  unfold saveS
  simp only
  clear hb HX0
  cases failed with
  | true =>
    rw [if_pos rfl]
    clear hX hn c5
    go_enter Tryd.func30, Tryd.ntmps30
    go_wp2_with fail
    refine K.out.mono ?_
    rintro e w' ⟨rfl, rfl⟩
    go_wp2_with fail
    go_ret
    exact saveEnd_same HSD.out 16
  | false =>
    rw [if_neg (by simp)]
    by_cases hl : 65536 < bs.length
    · rw [if_pos hl]
      have hd : decide ((n : Int) > 65536) = true := decide_eq_true (by omega)
      have hd2 : decide (65536 < n) = true := decide_eq_true (by omega)
      clear hX hn c5 hl
      go_enter Tryd.func30, Tryd.ntmps30
      go_wp2_with fail
      refine K.out.mono ?_
      rintro e w' ⟨rfl, rfl⟩
      go_wp2_with fail
      go_ret
      exact saveEnd_same HSD.out 3
    · rw [if_neg hl]
      have hd : decide ((n : Int) > 65536) = false := decide_eq_false (by omega)
      have hd2 : decide (65536 < n) = false := decide_eq_false (by omega)
      by_cases hg : 4611686018427387904 ≤ gen
      · rw [if_pos hg]
        have hd3 : decide (gen ≥ 4611686018427387904) = true := decide_eq_true hg
        have hd4 : decide (4611686018427387904 ≤ gen) = true := decide_eq_true hg
        clear hX hn hl hg
        go_enter Tryd.func30, Tryd.ntmps30
        go_wp2_with fail
        refine K.out.mono ?_
        rintro e w' ⟨rfl, rfl⟩
        go_wp2_with fail
        go_ret
        exact saveEnd_same HSD.out 15
      · rw [if_neg hg]
        have hd3 : decide (gen ≥ 4611686018427387904) = false := decide_eq_false hg
        have hd4 : decide (4611686018427387904 ≤ gen) = false := decide_eq_false hg
        have KS := Lib.hid (save_sd HSD.out (by omega) ad n c bs hX (by omega))
        clear hX hn hl hg
        go_enter Tryd.func30, Tryd.ntmps30
        go_wp2_with fail
        refine K.out.mono ?_
        rintro e w' ⟨rfl, rfl⟩
        go_wp2_with fail
        refine KS.out.mono ?_
        rintro e w' ⟨rfl, h1, h2⟩
        have HQ := Lib.hid (And.intro h1 h2)
        clear h1 h2
        go_wp2_with fail
        go_ret
        exact ⟨rfl, HQ.out.1, HQ.out.2⟩
deriving instance DecidableEq for SS
def st0 (f0 f1 : Int) : SS := ⟨f0, f1, -1, [], 0, false⟩
theorem sopen_new (f0 f1 : Int) : openS newF f0 f1 = st0 f0 f1 := rfl
def pl1 : SS × DS × Int := saveS (st0 1 2) newF [97]
def pl2 : SS × DS × Int := saveS pl1.1 pl1.2.1 [98]
theorem pl1_ok : pl1.2.2 = 0 := by decide +kernel
theorem pl2_ok : pl2.2.2 = 0 ∧ pl2.2.1.down = false := by decide +kernel
theorem pl2_open : openS pl2.2.1 1 2 = ⟨1, 2, 1, [98], 2, false⟩ := by decide +kernel
/-- opened over a disk -/
theorem sopened {w1 w2 : World} {D S : Nat} {ds : DS} {B : Nat} {st : SS} (hd : Dk w1 D (fun j => B ≤ j) ds) (hB : B ≤ w1.heap.size) (hb : Below w1.heap.size w1 w2) (hl : Sn w2 S D (fun j => w1.heap.size ≤ j) st) : SD w2 S D (fun j => B ≤ j) st ds :=
  SD.of hl (hd.bound.below hb) (fun j _ hj hg => by omega) (fun j _ hj => by omega) (fun j _ hj => hj.1)
theorem lit_txt {w' : World} {b : Nat} {x : Int} (hx : 0 ≤ x ∧ x ≤ 255) {m : Nat × Nat} (hm : m = (1, 2)) (h : w'.heap[b]? = some (.cells #[.int .u8 x] 5 m)) : TxtAt w' (.slice (some ⟨b, 0, none⟩) 1 1) [x] := by
  subst hm
  refine .inl ⟨b, 0, 1, rfl, by simp, ⟨fun k hk => ?_, fun k hk => ?_, fun k hk => ?_, by simp⟩⟩
  · obtain rfl : k = 0 := by simpa using hk
    unfold World.cell?; rw [show ∀ o, (⟨b, o, none⟩ : Addr).block = b from fun _ => rfl, h]; rfl
  · obtain rfl : k = 0 := by simpa using hk
    exact hx.1
  · obtain rfl : k = 0 := by simpa using hk
    exact hx.2
set_option maxRecDepth 100000 in
set_option maxHeartbeats 4000000 in
theorem one_sn (w : World) (hE : ErrAt w) : Calls Tryd.prog 32 #[] w fun e w' => e = .returned (.bool true) ∧ Below w.heap.size w w' := by
  have kc := fun (w : World) (C : Array Value) (n c : Nat) => Lib.run_convert_bytes_const (P := Tryd.prog) w 22 5 C n c Tryd.underlying22 Tryd.underlying5
  have KN := Lib.hid (new_any w)
  have HE := Lib.hid hE
  clear hE
  go_enter Tryd.func32, Tryd.ntmps32
  go_wp2_with fail
  refine KN.out.mono ?_
  rintro e w1 ⟨D, rfl, hd, hb⟩
  have HD := Lib.hid hd
  have HB := Lib.hid hb
  clear hd hb
  go_wp2_with fail
  refine (sopen_any HD.out (HE.out.below HB.out) 1 2).mono ?_
  rintro e w2 ⟨hb2, h | h | h | ⟨_, _, _, S, rfl, hs⟩⟩
  · exact absurd h.1 (by decide)
  · exact absurd (by decide : wrongF newF.down 1 = 0) h.2.1
  · exact absurd (by decide : wrongF newF.down 2 = 0) h.2.2.1
  rw [sopen_new] at hs
  have HB2 := Lib.hid (HB.out.trans (hb2.mono HB.out.size))
  have hL := sopened (B := w.heap.size) HD.out HB.out.size hb2 hs
  have hA := below_alloc (Below.refl _ w2) (.cells #[.int .u8 97] 5 (1, 2))
  have hL2 := (hL.more (K := fun j => w.heap.size ≤ j ∧ j < w2.heap.size) (fun j h1 h2 => ⟨h2, h1⟩)).below hA
  have KA := Lib.hid (savec_sd hL2 (some ⟨w2.heap.size, 0, none⟩) 1 1 [97] (fun w' hf => lit_txt (by decide) rfl ((hf.block _ (by simp) (fun h => by omega)).trans (World.alloc_heap_new w2 _))))
  have HA := Lib.hid hA
  clear hL hL2 hA hb2 hs
  go_wp2_with fail
  refine KA.out.mono ?_
  rintro e w3 ⟨rfl, hL3, hf3⟩
  rw [show (saveS (st0 1 2) newF [97]).2.2 = 0 from pl1_ok]
  have hB3 := (HB2.out.trans (HA.out.mono HB2.out.size)).trans (hf3.below (B := w.heap.size) (Nat.le_trans HB2.out.size HA.out.size) (fun j hj => hj.1))
  have HB3 := Lib.hid hB3
  have hA3 := below_alloc (Below.refl _ w3) (.cells #[.int .u8 98] 5 (1, 2))
  have hsz2 := HB2.out.size
  have hsA := HA.out.size
  have hL4 := (hL3.more (K := fun j => w.heap.size ≤ j ∧ j < w3.heap.size) (fun j h1 h2 => ⟨by rcases h2 with h | h; exact h.1; omega, h1⟩)).below hA3
  have KA4 := Lib.hid (savec_sd hL4 (some ⟨w3.heap.size, 0, none⟩) 1 1 [98] (fun w' hf => lit_txt (by decide) rfl ((hf.block _ (by simp) (fun h => by omega)).trans (World.alloc_heap_new w3 _))))
  have HA3 := Lib.hid hA3
  clear hL3 hf3 KA HA HB2 hB3 hA3 hL4 hsz2 hsA
  go_wp2_with fail
  refine KA4.out.mono ?_
  rintro e w4 ⟨rfl, hL5, hf5⟩
  rw [show (saveS (saveS (st0 1 2) newF [97]).1 (saveS (st0 1 2) newF [97]).2.1 [98]).2.2 = 0 from pl2_ok.1]
  have hB5 := (HB3.out.trans (HA3.out.mono HB3.out.size)).trans (hf5.below (B := w.heap.size) (Nat.le_trans HB3.out.size HA3.out.size) (fun j hj => hj.1))
  have HB5 := Lib.hid hB5
  obtain ⟨F, G, _, hd5, _, _⟩ := hL5
  have KO := Lib.hid (sopen_any (ds := pl2.2.1) hd5 (HE.out.below hB5) 1 2)
  clear hf5 hB5 hd5 KA4 HA3 HB3
  go_wp2_with fail
  refine KO.out.mono ?_
  rintro e w6 ⟨hb6, h | h | h | ⟨_, _, _, S6, rfl, hs6⟩⟩
  · exact absurd h.1 (by decide)
  · exact absurd (by rw [pl2_ok.2]; decide) h.2.1
  · exact absurd (by rw [pl2_ok.2]; decide) h.2.2.1
  rw [pl2_open] at hs6
  have HB6 := Lib.hid (HB5.out.trans (hb6.mono HB5.out.size))
  have KL := Lib.hid (last_sn hs6)
  have HS6 := Lib.hid hs6
  clear hs6 hb6 KO
  go_wp2_with fail
  refine KL.out.mono ?_
  rintro e w7 ⟨u, rfl, ho, hb7⟩
  have hcv := txt_conv ho.at w7 (Below.refl _ _)
  rw [show strOfNums [98] = ⟨#[98]⟩ from by decide +kernel] at hcv
  obtain ⟨ua, un, uc, rfl⟩ : ∃ a n c, u = .slice a n c := by
    rcases ho.form with ⟨rfl, _⟩ | ⟨g, c, rfl, _⟩
    · exact ⟨_, _, _, rfl⟩
    · exact ⟨_, _, _, rfl⟩
  have KSL := Lib.hid (slot_sn (HS6.out.below hb7))
  have HB7 := Lib.hid (HB6.out.trans (hb7.mono HB6.out.size))
  clear ho hb7 KL
  go_wp2_with fail
  refine KSL.out.mono ?_
  rintro e w8 ⟨rfl, hb8⟩
  have HB8 := Lib.hid (HB7.out.trans (hb8.mono HB7.out.size))
  clear hb8
  go_wp2_with fail
  go_ret
  exact ⟨rfl, HB8.out⟩
end Go.Proofs.YtomhfnaekjmjnaaDoor
namespace Go.Proofs.YtomhfnaekjmjnaaDoor
set_option linter.unusedVariables false
section
open Go.ChangeShapes Go.WideShapes Go.ChangeAt Go.RowKit Go.Lib
attribute [local go_sem ↓] Go.wp_at_zero Go.wp_at_succ comesTo_value_eq comesTo_skip_eq comesTo_enter_eq

theorem bytes_str {xs : List Int} (h : ∀ x ∈ xs, 0 ≤ x ∧ x ≤ 255) : bytesOf (strOfNums xs) = xs :=
  bytesOf_str xs (fun k hk => (getD_in h k hk).1) (fun k hk => (getD_in h k hk).2)
/-- a law's 'own': a record as the document has it -/
theorem own_any {w : World} {ad : Option Addr} {n c : Nat} {bs : List Int} (h : TxtAt w (.slice ad n c) bs) (g : Int) :
    Calls Tryd.prog 15 #[.agg #[.int .i64 g, .slice ad n c]] w fun e w' => e = .returned (.agg #[.int .i64 g, .string (strOfNums bs)]) ∧ Below w.heap.size w w' := by
  have hA := below_alloc (below_alloc (Below.refl _ w) (.cells #[.int .i64 g, .slice ad n c] 24)) (.cells #[.int .i64 0, .string ⟨#[]⟩] 31)
  have n2 := World.alloc_heap_new (w.alloc (.cells #[.int .i64 g, .slice ad n c] 24)) (.cells #[.int .i64 0, .string ⟨#[]⟩] 31)
  have n1 : ((w.alloc (.cells #[.int .i64 g, .slice ad n c] 24)).alloc (.cells #[.int .i64 0, .string ⟨#[]⟩] 31)).heap[w.heap.size]? = some (.cells #[.int .i64 g, .slice ad n c] 24 (0, 0)) :=
    ((below_alloc (Below.refl _ _) _).block _ (by simp)).trans (World.alloc_heap_new w _)
  rw [show (w.alloc (.cells #[.int .i64 g, .slice ad n c] 24)).heap.size = w.heap.size + 1 by simp] at n2
  have hcv := txt_conv h _ hA
  have c0 := cell_of_block (o := 0) n1 rfl
  have c1 := cell_of_block (o := 1) n1 rfl
  have r0 := cell_of_block (o := 0) n2 rfl
  have r1 := cell_of_block (o := 1) n2 rfl
  have f0 := free_of_block 0 n2
  have f1 := free_of_block 1 n2
  have HA := Lib.hid hA
  have N2 := Lib.hid n2
  clear hA n1 n2 h
  go_enter Tryd.func15, Tryd.ntmps15
  go_upto_region 1 with fail
  generalize (w.alloc (.cells #[.int .i64 g, .slice ad n c] 24)).alloc (.cells #[.int .i64 0, .string ⟨#[]⟩] 31) = W1 at *
  have hw := ((wrote_refl N2.out).set 0 (.int .i64 g)).set 1 (.string (strOfNums bs))
  have e0 := cell_of_block (o := 0) hw.there rfl
  have e1 := cell_of_block (o := 1) hw.there rfl
  have HW := Lib.hid hw
  clear hw
  go_wp2_with fail
  generalize (W1.setCell ⟨w.heap.size + 1, 0, none⟩ (.int .i64 g)).setCell ⟨w.heap.size + 1, 1, none⟩ (.string (strOfNums bs)) = W2 at *
  clear c0 c1 r0 r1 f0 f1
  exact bodyPost_ret (v := .agg #[.int .i64 g, .string (strOfNums bs)]) (by simp [results, Tryd.results15, go_sem]; try go_simp) rfl ⟨rfl, HW.out.below HA.out (by omega)⟩
set_option maxRecDepth 100000 in
theorem low_any {n : Int} (hn : 0 ≤ n ∧ n < 4294967296) (w : World) : Calls Tryd.prog 42 #[.int .u32 n] w fun e w' => e = .returned (.string (strOfNums (four n))) ∧ Below w.heap.size w w' := by
  have w0 : IntKind.u8.wrap n = n % 256 := by rw [IntKind.wrap_u8']
  have w1 : IntKind.u8.wrap (n / 256) = n / 256 % 256 := by rw [IntKind.wrap_u8']
  have w2 : IntKind.u8.wrap (n / 65536) = n / 65536 % 256 := by rw [IntKind.wrap_u8']
  have w3 : IntKind.u8.wrap (n / 16777216) = n / 16777216 % 256 := by rw [IntKind.wrap_u8']
  have hA := below_alloc (Below.refl _ w) (.cells #[.int .u8 (n % 256), .int .u8 (n / 256 % 256), .int .u8 (n / 65536 % 256), .int .u8 (n / 16777216 % 256)] 5)
  have hT := four_txt (World.alloc_heap_new w (.cells #[.int .u8 (n % 256), .int .u8 (n / 256 % 256), .int .u8 (n / 65536 % 256), .int .u8 (n / 16777216 % 256)] 5))
  have hcv := txt_conv hT _ (Below.refl _ _)
  have HA := Lib.hid hA
  obtain ⟨S, hS⟩ : ∃ S, S = strOfNums (four n) := ⟨_, rfl⟩
  rw [← hS] at hcv ⊢
  clear hA hT hn hS
  go_enter Tryd.func42, Tryd.ntmps42
  go_wp2_with fail
  go_ret
  exact ⟨rfl, HA.out⟩
set_option maxRecDepth 100000 in
theorem number_any {xs : List Int} (hx : ∀ x ∈ xs, 0 ≤ x ∧ x ≤ 255) (h4 : 4 ≤ xs.length) (w : World) : Calls Tryd.prog 45 #[.string (strOfNums xs)] w fun e w' => e = .returned (.int .u32 (num4 xs)) ∧ Below w.heap.size w w' := by
  have hsz := size_str xs
  have hg := fun (k : Nat) (hk : k < (strOfNums xs).size) => str_get xs k hk hx
  have b0 := getD_in hx 0 (by omega)
  have b1 := getD_in hx 1 (by omega)
  have b2 := getD_in hx 2 (by omega)
  have b3 := getD_in hx 3 (by omega)
  unfold num4
  generalize hS : strOfNums xs = S at *
  clear hS
  have s0 : 0 < S.size := by omega
  have s1 : 1 < S.size := by omega
  have s2 : 2 < S.size := by omega
  have s3 : 3 < S.size := by omega
  have g0 := hg 0 s0
  have g1 := hg 1 s1
  have g2 := hg 2 s2
  have g3 := hg 3 s3
  clear hg
  generalize xs.getD 0 0 = x0 at *
  generalize xs.getD 1 0 = x1 at *
  generalize xs.getD 2 0 = x2 at *
  generalize xs.getD 3 0 = x3 at *
  have i0 : (0 : Int) < (S.size : Int) := by omega
  have i1 : (1 : Int) < (S.size : Int) := by omega
  have i2 : (2 : Int) < (S.size : Int) := by omega
  have i3 : (3 : Int) < (S.size : Int) := by omega
  have v0 : IntKind.u32.wrap x0 = x0 := by rw [IntKind.wrap_u32]; omega
  have v1 : IntKind.u32.wrap x1 = x1 := by rw [IntKind.wrap_u32]; omega
  have v2 : IntKind.u32.wrap x2 = x2 := by rw [IntKind.wrap_u32]; omega
  have v3 : IntKind.u32.wrap x3 = x3 := by rw [IntKind.wrap_u32]; omega
  have k1 : IntKind.u32.wrap (x1 * 256) = x1 * 256 := by rw [IntKind.wrap_u32]; omega
  have k2 : IntKind.u32.wrap (x2 * 65536) = x2 * 65536 := by rw [IntKind.wrap_u32]; omega
  have k3 : IntKind.u32.wrap (x3 * 16777216) = x3 * 16777216 := by rw [IntKind.wrap_u32]; omega
  have a1 : IntKind.u32.wrap (x0 + x1 * 256) = x0 + x1 * 256 := by rw [IntKind.wrap_u32]; omega
  have a2 : IntKind.u32.wrap (x0 + x1 * 256 + x2 * 65536) = x0 + x1 * 256 + x2 * 65536 := by rw [IntKind.wrap_u32]; omega
  have a3 : IntKind.u32.wrap (x0 + x1 * 256 + x2 * 65536 + x3 * 16777216) = x0 + x1 * 256 + x2 * 65536 + x3 * 16777216 := by rw [IntKind.wrap_u32]; omega
  clear hx h4 b0 b1 b2 b3 hsz
  go_enter Tryd.func45, Tryd.ntmps45
  go_upto_region 1 with fail
  go_quiet (fail)
  go_wp2
  go_ret
  exact ⟨rfl, below_drewN (Below.refl w.heap.size w) nq⟩
theorem rsum_xs {xs : List Int} (hx : ∀ x ∈ xs, 0 ≤ x ∧ x ≤ 255) (hl : xs.length ≤ 1099511627776) (w : World) : Calls Tryd.prog 43 #[.string (strOfNums xs)] w fun e w' => e = .returned (.int .u32 (sumF xs)) ∧ w = w' := by
  have h := rsum_any (strOfNums xs) (by rw [size_str]; omega) w
  rw [bytes_str hx] at h
  exact h
set_option maxRecDepth 100000 in
set_option maxHeartbeats 1000000 in
theorem rframe_any {r : JRec} (hg : -9223372036854775808 ≤ r.1 ∧ r.1 ≤ 9223372036854775807) (hx : ∀ x ∈ r.2, 0 ≤ x ∧ x ≤ 255) (hl : r.2.length ≤ 1099511627000) (w : World) :
    Calls Tryd.prog 14 #[.agg #[.int .i64 r.1, .string (strOfNums r.2)]] w fun e w' => e = .returned (.tuple #[.string (strOfNums (if r.2.length ≤ 65536 then frameF r else [])), .int .i64 (if r.2.length ≤ 65536 then 0 else 3)]) ∧ Below w.heap.size w w' := by
  have hmx : Tryd.prog.follows .mixedOrders = true := by kernel_rfl
  obtain ⟨g, bs⟩ := r
  simp only at hg hx hl ⊢
  have hA := below_alloc (Below.refl _ w) (.cells #[.int .i64 g, .string (strOfNums bs)] 31)
  have n0 := World.alloc_heap_new w (.cells #[.int .i64 g, .string (strOfNums bs)] 31)
  have c0 := cell_of_block (o := 0) n0 rfl
  have c1 := cell_of_block (o := 1) n0 rfl
  have hsz := size_str bs
  by_cases hb : bs.length ≤ 65536
  · rw [if_pos hb, if_pos hb]
    have hbody : ∀ x ∈ bodyF (g, bs), 0 ≤ x ∧ x ≤ 255 := body_mem ⟨hg, hb, hx⟩
    have hbl := body_len (r := (g, bs)) ⟨hg, hb, hx⟩
    have hd : decide ((bs.length : Int) > 65536) = false := decide_eq_false (by omega)
    have hd2 : decide (65536 < bs.length) = false := decide_eq_false (by omega)
    have HN := Lib.hid n0
    have HA := Lib.hid hA
    have KP := Lib.hid (fun W => show Calls Tryd.prog 41 #[.string ⟨#[]⟩, .int .i64 g] W _ from rputint_any [] (by simp) hg W)
    have HBL := Lib.hid hbl
    have KS := Lib.hid (fun W => rsum_xs hbody (by omega) W)
    have HSB := Lib.hid (sumF_bd (bodyF (g, bs)))
    have HE := Lib.hid (show strOfNums (putI g) ++ strOfNums bs = strOfNums (bodyF (g, bs)) from str_append _ _)
    have HF := Lib.hid (show strOfNums (four ((bodyF (g, bs)).length : Int)) ++ strOfNums (four (sumF (bodyF (g, bs)))) ++ strOfNums (bodyF (g, bs)) = strOfNums (frameF (g, bs)) from by rw [str_append, str_append, List.append_assoc]; rfl)
    have hss := size_str (bodyF (g, bs))
    have hln : (strOfNums (putI g)).size + bs.length ≤ 9223372036854775807 := by rw [size_str]; have := putI_len hg; omega
    have HLT := Lib.hid (Array.getElem?_eq_some_iff.1 n0).1
    clear hg hx hl hb hbody hbl hA
    go_enter Tryd.func14, Tryd.ntmps14
    go_upto_region 1 with fail
    generalize w.alloc (.cells #[.int .i64 g, .string (strOfNums bs)] 31) = W0 at *
    go_upto_region 3 with fail
    refine wp_region_held (S := fun X => X.heap[w.heap.size]? = some (.cells #[.int .i64 g, .string (strOfNums bs)] 31 (0, 0))) hmx ?_
    change wpAnyH _ _ _ _ _ 7 _ _ W0.drew
    have hSS : W0.drew.heap[w.heap.size]? = some (.cells #[.int .i64 g, .string (strOfNums bs)] 31 (0, 0)) := HN.out
    refine wpAnyH_take (i := 0) (v := .pointer (some ⟨w.heap.size, 0, none⟩)) rfl (by decide +kernel) (by decide +kernel) (by decide +kernel) (fun _ _ _ h => h) (.inl ⟨by first | rfl | (go_simp; done), fun X hX => by have hx0 := cell_of_block (o := 0) hX rfl; have hx1 := cell_of_block (o := 1) hX rfl; clear hX c0 c1; first | (go_simp; done) | (go_simp; rfl)⟩) hSS ?_
    refine wpAnyH_take (i := 1) (v := .int .i64 g) rfl (by decide +kernel) (by decide +kernel) (by decide +kernel) (fun _ _ _ h => h) (.inl ⟨by first | rfl | (go_simp; done), fun X hX => by have hx0 := cell_of_block (o := 0) hX rfl; have hx1 := cell_of_block (o := 1) hX rfl; clear hX c0 c1; first | (go_simp; done) | (go_simp; rfl)⟩) hSS ?_
    refine wpAnyH_take (i := 3) (v := .pointer (some ⟨w.heap.size, 1, none⟩)) rfl (by decide +kernel) (by decide +kernel) (by decide +kernel) (fun _ _ _ h => h) (.inl ⟨by first | rfl | (go_simp; done), fun X hX => by have hx0 := cell_of_block (o := 0) hX rfl; have hx1 := cell_of_block (o := 1) hX rfl; clear hX c0 c1; first | (go_simp; done) | (go_simp; rfl)⟩) hSS ?_
    refine wpAnyH_take (i := 4) (v := .string (strOfNums bs)) rfl (by decide +kernel) (by decide +kernel) (by decide +kernel) (fun _ _ _ h => h) (.inl ⟨by first | rfl | (go_simp; done), fun X hX => by have hx0 := cell_of_block (o := 0) hX rfl; have hx1 := cell_of_block (o := 1) hX rfl; clear hX c0 c1; first | (go_simp; done) | (go_simp; rfl)⟩) hSS ?_
    refine anyH_call (i := 2) (by decide +kernel) rfl (by first | rfl | (go_simp; done)) (by go_simp) (KP.out _) ?_
    rintro e w2 ⟨rfl, hb2⟩
    have hS2 : w2.heap[w.heap.size]? = some (.cells #[.int .i64 g, .string (strOfNums bs)] 31 (0, 0)) := (hb2.block _ HLT.out).trans hSS
    refine ⟨_, rfl, hS2, ?_⟩
    rw [List.nil_append]
    have hE := HE.out
    refine wpAnyH_take (i := 5) (v := .string (strOfNums (putI g) ++ strOfNums bs)) rfl (by decide +kernel) (by decide +kernel) (by decide +kernel) (fun _ _ _ h => h) (.inl ⟨by first | rfl | (go_simp; done), fun X hX => by clear hX hS2 hSS hE; go_simp⟩) hS2 ?_
    rw [hE]
    refine wpAnyH_take (i := 6) (v := .string (strOfNums (bodyF (g, bs)))) rfl (by decide +kernel) (by decide +kernel) (by decide +kernel) (fun _ _ _ h => h) (.inl ⟨by first | rfl | (go_simp; done), fun X hX => by clear hX; first | (go_simp; done) | (go_simp; rfl)⟩) hS2 ?_
    refine wpAnyH_done (by decide +kernel) ?_ _
    have HB2 := Lib.hid (HA.out.trans ((Below.drew (Below.refl _ _)).trans hb2 |>.mono HA.out.size))
    obtain ⟨B, hB⟩ : ∃ B, B = strOfNums (bodyF (g, bs)) := ⟨_, rfl⟩
    obtain ⟨m, hm⟩ : ∃ m, m = (bodyF (g, bs)).length := ⟨_, rfl⟩
    obtain ⟨sm, hsm⟩ : ∃ sm, sm = sumF (bodyF (g, bs)) := ⟨_, rfl⟩
    rw [← hB] at KS HF hss ⊢
    rw [← hm] at HBL HF hss
    rw [← hsm] at KS HF HSB
    have hwz : IntKind.u32.wrap ((m : Int)) = (m : Int) := by have := HBL.out; rw [IntKind.wrap_u32]; omega
    have hss2 : IntKind.u32.wrap ((B.size : Nat) : Int) = (m : Int) := by rw [hss]; exact hwz
    have hz1 : (strOfNums (four (m : Int))).size = 4 := by rw [size_str]; rfl
    have hz2 : (strOfNums (four sm)).size = 4 := by rw [size_str]; rfl
    have hz3 : (strOfNums (four (m : Int)) ++ strOfNums (four sm)).size = 8 := by rw [ByteArray.size_append, hz1, hz2]
    have hz4 : 8 + m ≤ 9223372036854775807 := by have := HBL.out; omega
    clear hln hS2 hSS hb2 hE HE n0 c0 c1 KP hB hm hsm HN
    go_wp2_with fail
    refine (low_any (n := (m : Int)) (by have := HBL.out; omega) _).mono ?_
    rintro e w3 ⟨rfl, hb3⟩
    have HB3 := Lib.hid (HB2.out.trans (hb3.mono HB2.out.size))
    clear hb3
    go_wp2_with fail
    refine (KS.out _).mono ?_
    rintro e w' ⟨rfl, rfl⟩
    go_wp2_with fail
    refine (low_any HSB.out _).mono ?_
    rintro e w4 ⟨rfl, hb4⟩
    have HB4 := Lib.hid (HB3.out.trans (hb4.mono HB3.out.size))
    clear hb4
    go_wp2_with fail
    go_ret2
    refine ⟨?_, HB4.out⟩
    rw [← HF.out]
    rfl
  · rw [if_neg hb, if_neg hb]
    have hd : decide ((bs.length : Int) > 65536) = true := decide_eq_true (by omega)
    have hd2 : decide (65536 < bs.length) = true := decide_eq_true (by omega)
    have HA := Lib.hid hA
    clear hg hx hl hb hA n0
    generalize strOfNums bs = S at *
    go_enter Tryd.func14, Tryd.ntmps14
    go_wp2_with fail
    go_ret2
    exact ⟨rfl, HA.out⟩
end
section
open Go.ChangeShapes Go.WideShapes Go.ChangeAt Go.RowKit Go.Lib
attribute [local go_sem ↓] Go.wp_at_zero Go.wp_at_succ comesTo_value_eq comesTo_skip_eq comesTo_enter_eq

def flatR : List JRec → List Value
  | [] => []
  | r :: l => .int .i64 r.1 :: .string (strOfNums r.2) :: flatR l
theorem flatR_append : ∀ l m, flatR (l ++ m) = flatR l ++ flatR m
  | [], _ => rfl
  | x :: r, m => by simp [flatR, flatR_append r m]
theorem flatR_get : ∀ (l : List JRec) (k : Nat) (x : JRec), l[k]? = some x → (flatR l)[k * 2]? = some (.int .i64 x.1) ∧ (flatR l)[k * 2 + 1]? = some (.string (strOfNums x.2))
  | y :: r, 0, x, h => by
    simp at h
    subst h
    exact ⟨rfl, rfl⟩
  | y :: r, k + 1, x, h => by
    have := flatR_get r k x (by simpa using h)
    rw [show (k + 1) * 2 = k * 2 + 1 + 1 by omega]
    simpa [flatR] using this
theorem info_rrec : (Tryd.prog.info? 31).map (fun i => (i.zero, i.size, i.bytes)) = some (some (.agg #[.int .i64 0, .string .empty]), 2, 24) := by kernel_rfl
/-- the document's records in a row of the call's own -/
def OwnR (w : World) (B : Nat) (v : Value) (l : List JRec) : Prop := w.ownsRow B 31 2 v l.length (flatR l)
theorem OwnR.nil {w : World} {B : Nat} : OwnR w B (.slice none 0 0) [] := ⟨rfl, .inl ⟨rfl, rfl⟩⟩
theorem OwnR.form {w : World} {B : Nat} {v : Value} {l : List JRec} (h : OwnR w B v l) : (l = [] ∧ v = .slice none 0 0) ∨ ∃ g c, v = .slice (some ⟨g, 0, none⟩) l.length c ∧ B ≤ g ∧ g < w.heap.size ∧ ∀ k x, l[k]? = some x → w.cell? ⟨g, k * 2, none⟩ = some (.int .i64 x.1) ∧ w.cell? ⟨g, k * 2 + 1, none⟩ = some (.string (strOfNums x.2)) := by
  rcases h.2 with ⟨e, hl⟩ | ⟨g, cap, cur, e, hg, hc, rest⟩
  · exact .inl ⟨List.length_eq_zero_iff.1 hl, e⟩
  · refine .inr ⟨g, cap, e, hg, (Array.getElem?_eq_some_iff.1 hc).1, fun k x hk => ?_⟩
    have hcl := World.ownsRow.cells (g := g) h (by rw [e]; rfl)
    have e0 := hcl _ _ (flatR_get l k x hk).1
    have e1 := hcl _ _ (flatR_get l k x hk).2
    have hadd : ∀ j, (⟨g, 0, none⟩ : Addr).add j = ⟨g, j, none⟩ := fun j => by unfold Addr.add; split <;> simp_all
    rw [hadd] at e0 e1
    exact ⟨e0, e1⟩
theorem num4_in {xs : List Int} (hx : ∀ x ∈ xs, 0 ≤ x ∧ x ≤ 255) (h4 : 4 ≤ xs.length) : 0 ≤ num4 xs ∧ num4 xs < 4294967296 := by
  have b0 := getD_in hx 0 (by omega)
  have b1 := getD_in hx 1 (by omega)
  have b2 := getD_in hx 2 (by omega)
  have b3 := getD_in hx 3 (by omega)
  unfold num4
  omega
theorem rslice (S : ByteArray) (i j : Nat) (x y : Int) (hx : x = (i : Int)) (hy : y = (j : Int)) (h1 : i ≤ j) (h2 : j ≤ S.size) (W : World) :
    Sem.run Tryd.prog (Instr.slice 9 (.string S) (some (.int .i64 x)) (some (.int .i64 y)) none) W = .ok (.string (S.extract i j)) W := by
  subst hx hy
  have := run_slice_string (P := Tryd.prog) W 9 S .i64 .i64 (i : Int) (j : Int) Tryd.underlying9 (by omega) (by omega) (by omega)
  simpa using this
def RParseEnd (w : World) (xs : List Int) (e : Ending) (w' : World) : Prop := ∃ v, e = .returned (.tuple #[v, .int .i64 ((parseF xs).2 : Int)]) ∧ OwnR w' w.heap.size v (parseF xs).1 ∧ Below w.heap.size w w'
set_option maxRecDepth 100000 in
set_option maxHeartbeats 4000000 in
theorem rparse_any {xs : List Int} (hx : ∀ x ∈ xs, 0 ≤ x ∧ x ≤ 255) (hl : xs.length ≤ 1099511627775) (w : World) :
    Calls Tryd.prog 17 #[.string (strOfNums xs)] w fun e w' => RParseEnd w xs e w' := by
  obtain ⟨i0, hi, hz0, hz1, hz2⟩ := info_parts info_rrec
  have HX := Lib.hid hx
  have HXT := Lib.hid (fun (a b : Nat) => str_extract xs a b)
  have hsz := size_str xs
  obtain ⟨S, hS⟩ : ∃ S, S = strOfNums xs := ⟨_, rfl⟩
  obtain ⟨N, hN⟩ : ∃ N, N = xs.length := ⟨_, rfl⟩
  rw [← hS] at HXT hsz ⊢
  rw [← hN] at hsz hl
  have HN := Lib.hid hN
  have HL := Lib.hid hl
  clear hx hS hN hl
  go_enter Tryd.func17, Tryd.ntmps17
  go_wp2_with fail
  go_loopw [4, 5] (fun o a wr => ∃ (k : Nat) (pre : List JRec) (v : Value), k ≤ N ∧ a = .int .i64 k ∧ v = o ∧ OwnR wr w.heap.size v pre ∧ Below w.heap.size w wr ∧ parseF xs = (pre ++ (parseF (xs.drop k)).1, k + (parseF (xs.drop k)).2) ∧ pre.length ≤ k) (fun _ a _ => N - (intOf a).toNat)
  case atStart => exact ⟨0, [], _, Nat.zero_le _, rfl, rfl, OwnR.nil, Below.refl _ _, by simp, Nat.le_refl _⟩
  case round =>
    obtain ⟨k, pre, v, hk, rfl, rfl, hown, hbel, hpar, hpl⟩ := hrel
    obtain ⟨zs, hzs⟩ : ∃ zs, zs = xs.drop k := ⟨_, rfl⟩
    rw [← hzs] at hpar
    have hzl : zs.length = N - k := by rw [hzs, List.length_drop, ← HN.out]
    have hzx : ∀ x ∈ zs, 0 ≤ x ∧ x ≤ 255 := fun x h => HX.out x (List.mem_of_mem_drop (hzs ▸ h))
    have HOW := Lib.hid hown
    have HBE := Lib.hid hbel
    have HPA := Lib.hid hpar
    have HPL := Lib.hid hpl
    have HZS := Lib.hid hzs
    have HZL := Lib.hid hzl
    have HZX := Lib.hid hzx
    have hNb := HL.out
    have hw0 : IntKind.i64.wrap ((N : Int) - (k : Int)) = (N : Int) - (k : Int) := by rw [IntKind.wrap_i64]; omega
    have hNone : firstF zs = none → parseF xs = (pre, k) := fun h => by rw [hpar, parse_none h]; simp
    have HNO := Lib.hid hNone
    clear hown hbel hpar hpl hzs hzl hzx hNone
    by_cases h8 : 8 ≤ N - k
    case neg =>
      have hd : decide ((N : Int) - (k : Int) ≥ 8) = false := decide_eq_false (by omega)
      have hd2 : decide (8 ≤ (N : Int) - (k : Int)) = false := decide_eq_false (by omega)
      have hnn : firstF zs = none := by unfold firstF; rw [if_pos (by have := HZL.out; omega)]
      have HP := Lib.hid (HNO.out hnn)
      obtain ⟨va, vn, vc, rfl⟩ : ∃ a n c, v = .slice a n c := by
        rcases HOW.out.form with ⟨_, rfl⟩ | ⟨g, c, rfl, _⟩
        · exact ⟨_, _, _, rfl⟩
        · exact ⟨_, _, _, rfl⟩
      clear hnn h8
      go_wp2_with fail
      go_ret2
      unfold RParseEnd
      rw [HP.out]
      exact ⟨_, rfl, HOW.out, HBE.out⟩
    case pos =>
    have hd : decide ((N : Int) - (k : Int) ≥ 8) = true := decide_eq_true (by omega)
    have hd2 : decide (8 ≤ (N : Int) - (k : Int)) = true := decide_eq_true (by omega)
    have hw4 : IntKind.i64.wrap ((k : Int) + 4) = (k : Int) + 4 := by rw [IntKind.wrap_i64]; omega
    have hw8 : IntKind.i64.wrap ((k : Int) + 8) = (k : Int) + 8 := by rw [IntKind.wrap_i64]; omega
    have hx4 : S.extract k (k + 4) = strOfNums (zs.take 4) := by rw [HXT.out, HZS.out, show k + 4 - k = 4 by omega]
    have hlt4 : 4 ≤ (zs.take 4).length := by rw [List.length_take]; have := HZL.out; omega
    have K4 := Lib.hid (number_any (xs := zs.take 4) (fun x h => HZX.out x (List.mem_of_mem_take h)) hlt4 wr)
    have hnb := num4_in HZX.out (by have := HZL.out; omega)
    rw [num4_take (Nat.le_refl 4)] at K4
    obtain ⟨nn, hnn⟩ : ∃ nn : Nat, (nn : Int) = num4 zs := ⟨(num4 zs).toNat, by omega⟩
    rw [← hnn] at K4 hnb
    have hwn : IntKind.i64.wrap (nn : Int) = (nn : Int) := by rw [IntKind.wrap_i64]; omega
    have hk4 : k + 4 ≤ N := by omega
    have hsl1 := fun W => rslice S k (k + 4) (k : Int) ((k : Int) + 4) rfl (by omega) (by omega) (by omega) W
    rw [hx4] at hsl1
    have HNN := Lib.hid hnn
    have H8 := Lib.hid h8
    clear hnn hlt4 h8
    go_wp2_with fail
    refine K4.out.mono ?_
    rintro e w1 ⟨rfl, hb1⟩
    have HB1 := Lib.hid (HBE.out.trans (hb1.mono HBE.out.size))
    have HOW1 := Lib.hid (show OwnR w1 w.heap.size v pre from Ap.own_below HOW.out hb1)
    have hret : ∀ wr', OwnR wr' w.heap.size v pre → Below w.heap.size w wr' → firstF zs = none → RParseEnd w xs (.returned (.tuple #[v, .int .i64 (k : Int)])) wr' := fun wr' ho hb hn => by
      unfold RParseEnd
      rw [HNO.out hn]
      exact ⟨_, rfl, ho, hb⟩
    have HRET := Lib.hid hret
    have hvs : ∃ a n c, v = .slice a n c := by
      rcases HOW.out.form with ⟨_, rfl⟩ | ⟨g, c, rfl, _⟩
      · exact ⟨_, _, _, rfl⟩
      · exact ⟨_, _, _, rfl⟩
    have HVS := Lib.hid hvs
    clear hb1 hret hvs K4 hx4 hk4 hsl1
    have hw9 : IntKind.i64.wrap ((N : Int) - (k : Int) - 8) = (N : Int) - (k : Int) - 8 := by rw [IntKind.wrap_i64]; omega
    by_cases hn1 : 65546 < nn
    · have hd3 : decide ((nn : Int) > 65546) = true := decide_eq_true (by omega)
      have hd4 : decide (65546 < nn) = true := decide_eq_true hn1
      have hfn : firstF zs = none := by unfold firstF; rw [if_neg (by have := HZL.out; have := H8.out; omega), if_pos (.inl (by rw [← HNN.out]; omega))]
      have HFN := Lib.hid (HRET.out w1 HOW1.out HB1.out hfn)
      obtain ⟨va, vn, vc, rfl⟩ := HVS.out
      clear hn1 hfn
      go_wp2_with fail
      go_ret2
      exact HFN.out
    by_cases hn2 : (N : Int) - (k : Int) - 8 < (nn : Int)
    · have hd3 : decide ((nn : Int) > 65546) = false := decide_eq_false (by omega)
      have hd4 : decide (65546 < nn) = false := decide_eq_false hn1
      have hd5 : decide ((nn : Int) > (N : Int) - (k : Int) - 8) = true := decide_eq_true (by omega)
      have hd6 : decide ((N : Int) - (k : Int) - 8 < (nn : Int)) = true := decide_eq_true hn2
      have hfn : firstF zs = none := by unfold firstF; rw [if_neg (by have := HZL.out; have := H8.out; omega), if_pos (.inr (by rw [← HNN.out, HZL.out]; omega))]
      have HFN := Lib.hid (HRET.out w1 HOW1.out HB1.out hfn)
      obtain ⟨va, vn, vc, rfl⟩ := HVS.out
      clear hn1 hn2 hfn
      go_wp2_with fail
      go_ret2
      exact HFN.out
    have hd3 : decide ((nn : Int) > 65546) = false := decide_eq_false (by omega)
    have hd4 : decide (65546 < nn) = false := decide_eq_false hn1
    have hd5 : decide ((nn : Int) > (N : Int) - (k : Int) - 8) = false := decide_eq_false (by omega)
    have hd6 : decide ((N : Int) - (k : Int) - 8 < (nn : Int)) = false := decide_eq_false hn2
    have hle : k + 8 + nn ≤ N := by omega
    have hw8n : IntKind.i64.wrap ((k : Int) + 8 + (nn : Int)) = (k : Int) + 8 + (nn : Int) := by rw [IntKind.wrap_i64]; omega
    obtain ⟨body, hbd⟩ : ∃ body, body = (zs.drop 8).take nn := ⟨_, rfl⟩
    have hxb : S.extract (k + 8) (k + 8 + nn) = strOfNums body := by rw [HXT.out, hbd, HZS.out, List.drop_drop, show k + 8 + nn - (k + 8) = nn by omega]
    have hbx : ∀ x ∈ body, 0 ≤ x ∧ x ≤ 255 := fun x h => HZX.out x (List.mem_of_mem_drop (List.mem_of_mem_take (hbd ▸ h)))
    have hbl : body.length = nn := by rw [hbd, List.length_take, List.length_drop, HZL.out]; omega
    have KI := Lib.hid (rint_any ⟨body, 0⟩ hbx (by show body.length ≤ _; omega) w1)
    have eI : intF ⟨body, 0⟩ = (⟨(scan 0 0 body).1, (scan 0 0 body).2.1⟩, (scan 0 0 body).2.2) := if_pos rfl
    rw [eI] at KI
    obtain ⟨rest, hrest⟩ : ∃ rest, rest = (scan 0 0 body).1 := ⟨_, rfl⟩
    obtain ⟨bad, hbad⟩ : ∃ bad, bad = (scan 0 0 body).2.1 := ⟨_, rfl⟩
    obtain ⟨gen, hgen⟩ : ∃ gen, gen = (scan 0 0 body).2.2 := ⟨_, rfl⟩
    rw [← hrest, ← hbad, ← hgen] at KI
    unfold RC at KI
    simp only at KI
    have hrl : rest.length ≤ body.length := by rw [hrest]; exact (scan_suffix body 0 0).length_le
    have hrsz : (strOfNums rest).size = rest.length := size_str rest
    have HFI := Lib.hid (show firstF zs = if sumF body ≠ num4 (zs.drop 4) then none else if bad ≠ 0 ∨ rest.length > 65536 then none else some ((gen, rest), 8 + nn) from by
      unfold firstF
      rw [if_neg (by have := HZL.out; have := H8.out; omega), if_neg (by rw [← HNN.out, HZL.out]; omega), ← HNN.out, Int.toNat_natCast, ← hbd, ← hrest, ← hbad, ← hgen])
    have hx8 : S.extract (k + 4) (k + 8) = strOfNums ((zs.drop 4).take 4) := by rw [HXT.out, HZS.out, List.drop_drop, show k + 8 - (k + 4) = 4 by omega]
    have hlt4 : 4 ≤ ((zs.drop 4).take 4).length := by rw [List.length_take, List.length_drop]; have := HZL.out; have := H8.out; omega
    have hm4 : ∀ x ∈ (zs.drop 4).take 4, 0 ≤ x ∧ x ≤ 255 := fun x h => HZX.out x (List.mem_of_mem_drop (List.mem_of_mem_take h))
    have K8 := Lib.hid (fun W => number_any hm4 hlt4 W)
    have KS := Lib.hid (fun W => rsum_xs hbx (by rw [hbl]; omega) W)
    have hs4b := num4_in (xs := zs.drop 4) (fun x h => HZX.out x (List.mem_of_mem_drop h)) (by rw [List.length_drop]; have := HZL.out; have := H8.out; omega)
    rw [num4_take (Nat.le_refl 4)] at K8
    obtain ⟨sm, hsm⟩ : ∃ sm, sm = sumF body := ⟨_, rfl⟩
    obtain ⟨s4, hs4⟩ : ∃ s4, s4 = num4 (zs.drop 4) := ⟨_, rfl⟩
    rw [← hsm, ← hs4] at HFI
    rw [← hsm] at KS
    rw [← hs4] at K8
    obtain ⟨SB, hSB⟩ : ∃ SB, SB = strOfNums body := ⟨_, rfl⟩
    obtain ⟨SR, hSR⟩ : ∃ SR, SR = strOfNums rest := ⟨_, rfl⟩
    rw [← hSB] at hxb KI KS
    rw [← hSR] at hrsz KI
    have HSR := Lib.hid hSR
    have hsl2 := fun W => rslice S (k + 8) (k + 8 + nn) ((k : Int) + 8) ((k : Int) + 8 + (nn : Int)) (by omega) (by omega) (by omega) (by omega) W
    have hsl3 := fun W => rslice S (k + 4) (k + 8) ((k : Int) + 4) ((k : Int) + 8) (by omega) (by omega) (by omega) (by omega) W
    rw [hxb] at hsl2
    rw [hx8] at hsl3
    have hkb := Lib.hid (And.intro hle (And.intro hrl hbl))
    clear hxb hx8 hbd hbx eI hrest hbad hgen hlt4 hm4 hs4b hsm hs4 hSB hSR hn1 hn2 hrl hbl
    go_wp2_with fail
    refine KI.out.mono ?_
    rintro e w2 ⟨rfl, hb2⟩
    have hbel2 := HB1.out.trans (hb2.mono HB1.out.size)
    have hA3 := below_alloc (Below.refl _ w2) (.cells #[.string SR, .int .i64 bad] 101)
    have n3 := World.alloc_heap_new w2 (.cells #[.string SR, .int .i64 bad] 101)
    have HB3 := Lib.hid (hbel2.trans (hA3.mono hbel2.size))
    have HOW3 := Lib.hid (show OwnR (w2.alloc (.cells #[.string SR, .int .i64 bad] 101)) w.heap.size v pre from Ap.own_below (Ap.own_below HOW1.out hb2) hA3)
    have HT := Lib.hid n3
    clear hb2 hA3 n3 hbel2
    go_upto_region 9 with fail
    generalize w2.alloc (.cells #[.string SR, .int .i64 bad] 101) = W3 at *
    go_wp2_with fail
    refine (K8.out W3).mono ?_
    rintro e w4 ⟨rfl, hb4⟩
    have HB4 := Lib.hid (HB3.out.trans (hb4.mono HB3.out.size))
    have HOW4 := Lib.hid (show OwnR w4 w.heap.size v pre from Ap.own_below HOW3.out hb4)
    have n4 := (hb4.block _ (Array.getElem?_eq_some_iff.1 HT.out).1).trans HT.out
    have e0 := cell_of_block (o := 0) n4 rfl
    have e1 := cell_of_block (o := 1) n4 rfl
    clear hb4 n4 K8
    go_wp2_with fail
    refine (KS.out w4).mono ?_
    rintro e w' ⟨rfl, rfl⟩
    by_cases hq : s4 = sm
    case neg =>
      have hq1 : (s4 == sm) = false := by simpa using hq
      have hq2 : (s4 != sm) = true := by simp [hq]
      have hfn : firstF zs = none := by rw [HFI.out, if_pos (fun e => hq e.symm)]
      have HFN := Lib.hid (HRET.out w4 HOW4.out HB4.out hfn)
      obtain ⟨va, vn, vc, rfl⟩ := HVS.out
      clear hq hfn
      go_wp2_with fail
      go_ret2
      exact HFN.out
    case pos =>
    have HQ := Lib.hid hq
    have hq1 : (s4 == sm) = true := by simpa using hq
    have hq2 : (s4 != sm) = false := by simp [hq]
    clear hq
    by_cases hbz : bad = 0
    case neg =>
      have hq3 : (bad == 0) = false := by simpa using hbz
      have hq4 : (bad != 0) = true := by simp [hbz]
      have hfn : firstF zs = none := by rw [HFI.out, if_neg (by simp [HQ.out]), if_pos (.inl hbz)]
      have HFN := Lib.hid (HRET.out w4 HOW4.out HB4.out hfn)
      obtain ⟨va, vn, vc, rfl⟩ := HVS.out
      clear hbz hfn
      go_wp2_with fail
      go_ret2
      exact HFN.out
    case pos =>
    subst hbz
    by_cases hrb : 65536 < rest.length
    case pos =>
      have hq3 : decide ((rest.length : Int) > 65536) = true := decide_eq_true (by omega)
      have hq4 : decide (65536 < rest.length) = true := decide_eq_true hrb
      have hfn : firstF zs = none := by rw [HFI.out, if_neg (by simp [HQ.out]), if_pos (.inr hrb)]
      have HFN := Lib.hid (HRET.out w4 HOW4.out HB4.out hfn)
      obtain ⟨va, vn, vc, rfl⟩ := HVS.out
      clear hrb hfn
      go_wp2_with fail
      go_ret2
      exact HFN.out
    case neg =>
    have hq3 : decide ((rest.length : Int) > 65536) = false := decide_eq_false (by omega)
    have hq4 : decide (65536 < rest.length) = false := decide_eq_false hrb
    have hfn : firstF zs = some ((gen, rest), 8 + nn) := by rw [HFI.out, if_neg (by simp [HQ.out]), if_neg (by simp; omega)]
    have HFN := Lib.hid hfn
    have HRB := Lib.hid hrb
    obtain ⟨va, vc, rfl⟩ : ∃ a c, v = .slice a pre.length c := by
      rcases HOW.out.form with ⟨h, rfl⟩ | ⟨g, c, rfl, _⟩
      · rw [h]; exact ⟨none, 0, rfl⟩
      · exact ⟨_, _, rfl⟩
    obtain ⟨pl, hpl⟩ : ∃ pl, pl = pre.length := ⟨_, rfl⟩
    have HPE := Lib.hid hpl
    have hbA := below_alloc (Below.refl _ w4) (.cells #[.int .i64 gen, .string SR] 31)
    have HBA := Lib.hid hbA
    have HEN := Lib.hid (show World.ownsRow (w4.alloc (.cells #[.int .i64 gen, .string SR] 31)) w.heap.size 31 2 (.slice va pl vc) pl (flatR pre) from by rw [hpl]; exact Ap.own_below HOW4.out hbA)
    have hplk := HPL.out
    have hmx1 : pl + 1 ≤ maxLen := by rw [hpl]; unfold maxLen; omega
    have hmx2 : (pl + 1) * 24 ≤ 140737488355328 := by rw [hpl]; omega
    have hbg : w.heap.size ≤ (w4.alloc (.cells #[.int .i64 gen, .string SR] 31)).heap.size := Nat.le_trans HB4.out.size hbA.size
    rw [← hpl]
    clear hbA hpl hfn hrb hplk
    go_upto_region 12 with (at_builtin; go_loud (refine wpList_append_own_at _ rfl _ _ 36 rfl w.heap.size 31 i0 _ 2 24 Tryd.underlying36 hi hz0 hz1 hz2 rfl (by decide) (.slice va pl vc) pl (flatR pre) rfl HEN.out ⟨w4.heap.size, 0, none⟩ 1 1 [.int .i64 gen, .string SR] rfl rfl (fun j u hj => cells_two w4 _ _ _ j u hj) (by intro u hu; simp at hu; rcases hu with rfl | rfl <;> rfl) hmx1 hmx2 hbg ?_; intro v' w6 hown' hgrow _ hat; obtain ⟨g', cap', rfl⟩ := ownsRow_succ hown'; have HO' := Lib.hid hown'; have HGW := Lib.hid hgrow; clear hown' hgrow hat))
    have hwa : IntKind.i64.wrap ((k : Int) + 8 + (nn : Int)) = (k : Int) + 8 + (nn : Int) := hw8n
    go_wp2_with fail
    go_roundw
    case rel =>
      have hkk := hkb.out
      refine ⟨k + 8 + nn, pre ++ [(gen, rest)], _, by omega, by go_num, rfl, ?_, ?_, ?_, ?_⟩
      · unfold OwnR
        rw [List.length_append, flatR_append, ← HPE.out]
        have h := HO'.out
        rw [HSR.out] at h
        exact h
      · exact Below.grown (HB4.out.trans (HBA.out.mono HB4.out.size)) HGW.out hbg (fun j hj => Ap.own_blk HEN.out j hj)
      · rw [HPA.out, parse_some HFN.out, HZS.out, List.drop_drop, show k + (8 + nn) = k + 8 + nn by omega]
        simp [Nat.add_assoc]
      · have := HPL.out; simp; omega
    case measure => have := hkb.out; simp [intOf]; omega
/-- a record is as it is -/
theorem eqinR (g : Int) (s : ByteArray) (w : World) : (Op.equalIn 10000 31 (.agg #[.int .i64 g, .string s]) (.agg #[.int .i64 g, .string s])).run Tryd.prog w = .ok true w := by
  have hS : Tryd.prog.underlying 31 = some (.struct (Tryd.prog.fieldsOf 31)) := by kernel_rfl
  have hp : Tryd.prog.stoodInHeld 31 = false := by kernel_rfl
  have hm : (Tryd.prog.fieldsOf 31).toList.map (fun f => (f.name != "_", f.offset, f.type)) = [(true, 0, 2), (true, 1, 9)] := by kernel_rfl
  refine (run_equalIn_struct w 9999 _ _ _ hS hp).trans ?_
  rw [run_eqFields_all w (fun _ => true)]
  · simp
  · intro f hf
    have h1 : (f.name != "_", f.offset, f.type) ∈ (Tryd.prog.fieldsOf 31).toList.map (fun f => (f.name != "_", f.offset, f.type)) := List.mem_map.2 ⟨f, hf, rfl⟩
    rw [hm] at h1
    simp only [List.mem_cons, List.not_mem_nil, or_false, Prod.mk.injEq] at h1
    rcases h1 with ⟨h1, h2, h3⟩ | ⟨h1, h2, h3⟩
    · refine ⟨by simpa using h1, .int .i64 g, .int .i64 g, ?_, ?_, ?_⟩
      · rw [h2, h3]; simp [part, isAgg, run_underlying Tryd.underlying2]
      · rw [h2, h3]; simp [part, isAgg, run_underlying Tryd.underlying2]
      · rw [h3]; refine (run_equalIn_int w 9998 _ _ .i64 g g Tryd.underlying2).trans ?_; simp
    · refine ⟨by simpa using h1, .string s, .string s, ?_, ?_, ?_⟩
      · rw [h2, h3]; simp [part, isAgg, run_underlying Tryd.underlying9]
      · rw [h2, h3]; simp [part, isAgg, run_underlying Tryd.underlying9]
      · rw [h3]; refine (run_equalIn_string w 9998 _ s s Tryd.underlying9).trans ?_; simp
theorem exec_neqR {o : Oper} {a : Act} {x y : Operand} (ho : o.op = .binOp .neq 31 x y 31) {g : Int} {s : ByteArray} (hx : a.eval x = .agg #[.int .i64 g, .string s]) (hy : a.eval y = .agg #[.int .i64 g, .string s]) (W : World) :
    (execOp a.eval o).run Tryd.prog W = .ok (.value (.bool false)) W := by
  have hm : Tryd.prog.eqGuardType Tryd.prog.depth 31 = false := by kernel_rfl
  unfold execOp
  simp only [ho, hx, hy, Sem.run_bind, run_eqGuard_agg W .neq _ _ _ _ _ hm, Result.andThen_ok, run_neq_struct, eqinR g s W]
  rfl
end
end Go.Proofs.YtomhfnaekjmjnaaDoor
namespace Go.Proofs.YtomhfnaekjmjnaaDoor
set_option linter.unusedVariables false
open Go.ChangeShapes Go.WideShapes Go.ChangeAt Go.RowKit
attribute [local go_sem ↓] Go.wp_at_zero Go.wp_at_succ comesTo_value_eq comesTo_skip_eq comesTo_enter_eq

def ofF (zs : List Int) : Option JRec := match onlyF zs with
  | some r => if 1 ≤ r.1 then some r else none
  | none => none
def ofG (zs : List Int) : JRec := (ofF zs).getD (0, [])
theorem strOf_nil : strOfNums [] = ⟨#[]⟩ := by decide +kernel
theorem ofF_long {zs : List Int} (h : ¬ ((parseF zs).1.length = 1 ∧ (parseF zs).2 = zs.length)) : ofF zs = none := by unfold ofF onlyF; rw [if_neg h]
theorem ofF_one {zs : List Int} {r : JRec} (h1 : (parseF zs).1 = [r]) (h2 : (parseF zs).2 = zs.length) : ofF zs = if 1 ≤ r.1 then some r else none := by
  unfold ofF onlyF
  rw [if_pos ⟨by rw [h1]; rfl, h2⟩, h1]
  rfl
def SOfEnd (w : World) (zs : List Int) (e : Ending) (w' : World) : Prop := e = .returned (.tuple #[.agg #[.int .i64 (ofG zs).1, .string (strOfNums (ofG zs).2)], .bool (ofF zs).isSome]) ∧ Below w.heap.size w w'
theorem sof_none {w w' : World} {zs : List Int} (h : ofF zs = none) (hb : Below w.heap.size w w') : SOfEnd w zs (.returned (.tuple #[.agg #[.int .i64 0, .string ⟨#[]⟩], .bool false])) w' := by
  refine ⟨?_, hb⟩
  unfold ofG
  rw [h]
  simp only [Option.getD_none, strOf_nil, Option.isSome_none]
theorem sof_some {w w' : World} {zs : List Int} {r : JRec} (h : ofF zs = some r) (hb : Below w.heap.size w w') : SOfEnd w zs (.returned (.tuple #[.agg #[.int .i64 r.1, .string (strOfNums r.2)], .bool true])) w' := by
  refine ⟨?_, hb⟩
  unfold ofG
  rw [h]
  simp only [Option.getD_some, Option.isSome_some]
theorem of_any {zs : List Int} (hx : ∀ x ∈ zs, 0 ≤ x ∧ x ≤ 255) (hl : zs.length ≤ 1099511627775) (w : World) :
    Calls Tryd.prog 59 #[.string (strOfNums zs)] w fun e w' => SOfEnd w zs e w' := by
  have hA := below_alloc (Below.refl _ w) (.cells #[.int .i64 0, .string ⟨#[]⟩] 31)
  have n0 := World.alloc_heap_new w (.cells #[.int .i64 0, .string ⟨#[]⟩] 31)
  have KP := Lib.hid (rparse_any hx hl (w.alloc (.cells #[.int .i64 0, .string ⟨#[]⟩] 31)))
  have hsz := size_str zs
  have HA := Lib.hid hA
  have N0 := Lib.hid n0
  obtain ⟨SZ, hSZ⟩ : ∃ SZ, SZ = strOfNums zs := ⟨_, rfl⟩
  rw [← hSZ] at KP hsz ⊢
  have HSA := Lib.hid (show (w.alloc (.cells #[.int .i64 0, .string ⟨#[]⟩] 31)).heap.size = w.heap.size + 1 by simp)
  clear hA n0 hx hl hSZ
  go_enter Tryd.func59, Tryd.ntmps59
  go_wp2_with fail
  refine KP.out.mono ?_
  rintro e w3 ⟨v, rfl, ho, hb⟩
  have n3 := (hb.block _ (by rw [HSA.out]; omega)).trans N0.out
  have hbW := HA.out.trans (hb.mono HA.out.size)
  have r0 := cell_of_block (o := 0) n3 rfl
  have r1 := cell_of_block (o := 1) n3 rfl
  have f0 := free_of_block 0 n3
  have f1 := free_of_block 1 n3
  obtain ⟨ll, hll⟩ : ∃ ll, ll = (parseF zs).1.length := ⟨_, rfl⟩
  obtain ⟨nn, hnn⟩ : ∃ nn, nn = (parseF zs).2 := ⟨_, rfl⟩
  obtain ⟨zl, hzl⟩ : ∃ zl, zl = zs.length := ⟨_, rfl⟩
  have HO := Lib.hid ho
  obtain ⟨va, vc, rfl⟩ : ∃ a c, v = .slice a ll c := by
    rcases ho.form with ⟨h, rfl⟩ | ⟨g', c, rfl, _⟩
    · rw [hll, h]; exact ⟨none, 0, rfl⟩
    · rw [hll]; exact ⟨_, _, rfl⟩
  rw [← hnn]
  rw [← hzl] at hsz
  have HBW := Lib.hid hbW
  have N3 := Lib.hid n3
  have HLL := Lib.hid (And.intro hll (And.intro hnn hzl))
  have HS3 := Lib.hid (Nat.le_trans (Nat.le_of_eq HSA.out.symm) hb.size)
  clear ho hbW n3 hll hnn hzl hb KP
  by_cases hc : ll = 1 ∧ nn = zl
  case neg =>
    have HOF := Lib.hid (show ofF zs = none from ofF_long (by rw [← HLL.out.1, ← HLL.out.2.1, ← HLL.out.2.2]; exact hc))
    by_cases h1 : ll = 1
    · have hb1 : ((ll : Int) == 1) = true := by rw [h1]; rfl
      have hb2 : ((ll : Int) != 1) = false := by rw [h1]; rfl
      have hne : ¬ nn = zl := fun h => hc ⟨h1, h⟩
      have hb3 : ((nn : Int) == (zl : Int)) = false := by rw [beq_eq_false_iff_ne]; omega
      have hb4 : ((nn : Int) != (zl : Int)) = true := by rw [bne, hb3]; rfl
      clear hc
      have hw := ((wrote_refl N3.out).set 0 (.int .i64 0)).set 1 (.string ⟨#[]⟩)
      have e0 := cell_of_block (o := 0) hw.there rfl
      have e1 := cell_of_block (o := 1) hw.there rfl
      have HW := Lib.hid hw
      clear hw
      go_wp2_with fail
      generalize (w3.setCell ⟨w.heap.size, 0, none⟩ (.int .i64 0)).setCell ⟨w.heap.size, 1, none⟩ (.string ⟨#[]⟩) = W2 at *
      clear r0 r1 f0 f1
      exact bodyPost_ret (v := .tuple #[.agg #[.int .i64 0, .string ⟨#[]⟩], .bool false]) (by simp [results, Tryd.results59, go_sem]; try go_simp) rfl (sof_none HOF.out (HW.out.below HBW.out (Nat.le_refl _)))
    · have hb1 : ((ll : Int) == 1) = false := by rw [beq_eq_false_iff_ne]; omega
      have hb2 : ((ll : Int) != 1) = true := by rw [bne, hb1]; rfl
      clear hc
      have hw := ((wrote_refl N3.out).set 0 (.int .i64 0)).set 1 (.string ⟨#[]⟩)
      have e0 := cell_of_block (o := 0) hw.there rfl
      have e1 := cell_of_block (o := 1) hw.there rfl
      have HW := Lib.hid hw
      clear hw
      go_wp2_with fail
      generalize (w3.setCell ⟨w.heap.size, 0, none⟩ (.int .i64 0)).setCell ⟨w.heap.size, 1, none⟩ (.string ⟨#[]⟩) = W2 at *
      clear r0 r1 f0 f1
      exact bodyPost_ret (v := .tuple #[.agg #[.int .i64 0, .string ⟨#[]⟩], .bool false]) (by simp [results, Tryd.results59, go_sem]; try go_simp) rfl (sof_none HOF.out (HW.out.below HBW.out (Nat.le_refl _)))
  case pos =>
    obtain ⟨rfl, rfl⟩ := hc
    obtain ⟨⟨g, bs⟩, hr⟩ : ∃ r, (parseF zs).1 = [r] := List.length_eq_one_iff.1 HLL.out.1.symm
    have hof := ofF_one hr (HLL.out.2.1.symm.trans HLL.out.2.2)
    obtain ⟨b5, rfl, z5, q0, q1⟩ : ∃ b5, va = some ⟨b5, 0, none⟩ ∧ b5 < w3.heap.size ∧ w3.cell? ⟨b5, 0, none⟩ = some (.int .i64 g) ∧ w3.cell? ⟨b5, 1, none⟩ = some (.string (strOfNums bs)) := by
      rcases HO.out.form with ⟨h, _⟩ | ⟨g', c, h1, _, h3, h4⟩
      · rw [h] at hr; cases hr
      · injection h1 with h1 _ _
        have h5 := h4 0 (g, bs) (by rw [hr]; rfl)
        exact ⟨g', h1, h3, h5.1, h5.2⟩
    obtain ⟨SB, hSB⟩ : ∃ SB, SB = strOfNums bs := ⟨_, rfl⟩
    have HSB := Lib.hid hSB
    rw [← hSB] at q1
    have HR := Lib.hid hr
    simp only at hof
    clear hr hSB
    by_cases hg : 1 ≤ g
    · rw [if_pos hg] at hof
      have HOF := Lib.hid hof
      have hd : decide (g < 1) = false := decide_eq_false (by omega)
      clear hof hg
      have hw := ((wrote_refl N3.out).set 0 (.int .i64 g)).set 1 (.string SB)
      have e0 := cell_of_block (o := 0) hw.there rfl
      have e1 := cell_of_block (o := 1) hw.there rfl
      have HW := Lib.hid hw
      clear hw
      go_wp2_with fail
      generalize (w3.setCell ⟨w.heap.size, 0, none⟩ (.int .i64 g)).setCell ⟨w.heap.size, 1, none⟩ (.string SB) = W2 at *
      clear r0 r1 f0 f1
      exact bodyPost_ret (v := .tuple #[.agg #[.int .i64 g, .string SB], .bool true]) (by simp [results, Tryd.results59, go_sem]; try go_simp) rfl (by rw [HSB.out]; exact sof_some HOF.out (HW.out.below HBW.out (Nat.le_refl _)))
    · rw [if_neg hg] at hof
      have HOF := Lib.hid hof
      have hd : decide (g < 1) = true := decide_eq_true (by omega)
      clear hof hg
      have hw := ((wrote_refl N3.out).set 0 (.int .i64 0)).set 1 (.string ⟨#[]⟩)
      have e0 := cell_of_block (o := 0) hw.there rfl
      have e1 := cell_of_block (o := 1) hw.there rfl
      have HW := Lib.hid hw
      clear hw
      go_wp2_with fail
      generalize (w3.setCell ⟨w.heap.size, 0, none⟩ (.int .i64 0)).setCell ⟨w.heap.size, 1, none⟩ (.string ⟨#[]⟩) = W2 at *
      clear r0 r1 f0 f1
      exact bodyPost_ret (v := .tuple #[.agg #[.int .i64 0, .string ⟨#[]⟩], .bool false]) (by simp [results, Tryd.results59, go_sem]; try go_simp) rfl (sof_none HOF.out (HW.out.below HBW.out (Nat.le_refl _)))
def lastG (a b : List Int) : JRec × Int :=
  if (ofF a).isSome = true ∧ ((ofF b).isSome = false ∨ (ofG b).1 ≤ (ofG a).1) then (ofG a, 0) else if (ofF b).isSome = true then (ofG b, 1) else ((0, []), -1)
def SLastEnd (w : World) (a b : List Int) (e : Ending) (w' : World) : Prop := e = .returned (.tuple #[.agg #[.int .i64 (lastG a b).1.1, .string (strOfNums (lastG a b).1.2)], .int .i64 (lastG a b).2]) ∧ Below w.heap.size w w'
set_option maxRecDepth 100000 in
theorem rlast_any {xs ys : List Int} (hx : ∀ x ∈ xs, 0 ≤ x ∧ x ≤ 255) (hl : xs.length ≤ 1099511627775) (hy : ∀ y ∈ ys, 0 ≤ y ∧ y ≤ 255) (hl2 : ys.length ≤ 1099511627775) (w : World) :
    Calls Tryd.prog 34 #[.string (strOfNums xs), .string (strOfNums ys)] w fun e w' => SLastEnd w xs ys e w' := by
  have hA := below_alloc (Below.refl _ w) (.cells #[.int .i64 0, .string ⟨#[]⟩] 31)
  have n0 := World.alloc_heap_new w (.cells #[.int .i64 0, .string ⟨#[]⟩] 31)
  have HSA := Lib.hid (show (w.alloc (.cells #[.int .i64 0, .string ⟨#[]⟩] 31)).heap.size = w.heap.size + 1 by simp)
  have KX := Lib.hid (of_any hx hl (w.alloc (.cells #[.int .i64 0, .string ⟨#[]⟩] 31)))
  have KY := Lib.hid (fun W => of_any hy hl2 W)
  have HA := Lib.hid hA
  have N0 := Lib.hid n0
  obtain ⟨SX, hSX⟩ : ∃ SX, SX = strOfNums xs := ⟨_, rfl⟩
  obtain ⟨SY, hSY⟩ : ∃ SY, SY = strOfNums ys := ⟨_, rfl⟩
  rw [← hSX] at KX ⊢
  rw [← hSY] at KY ⊢
  clear hA n0 hx hl hy hl2 hSX hSY
  go_enter Tryd.func34, Tryd.ntmps34
  go_wp2_with fail
  refine KX.out.mono ?_
  rintro e w2 ⟨rfl, hb2⟩
  obtain ⟨xg, hxg⟩ : ∃ g, g = (ofG xs).1 := ⟨_, rfl⟩
  obtain ⟨xs', hxs⟩ : ∃ g, g = strOfNums (ofG xs).2 := ⟨_, rfl⟩
  obtain ⟨xi, hxi⟩ : ∃ b, b = (ofF xs).isSome := ⟨_, rfl⟩
  rw [← hxg, ← hxs, ← hxi]
  have HX := Lib.hid (And.intro hxg (And.intro hxs hxi))
  have n2 := (hb2.block _ (by rw [HSA.out]; omega)).trans N0.out
  have hbW2 := HA.out.trans (hb2.mono HA.out.size)
  have hbx := below_alloc (Below.refl _ w2) (.cells #[.int .i64 xg, .string xs'] 31)
  have nx := World.alloc_heap_new w2 (.cells #[.int .i64 xg, .string xs'] 31)
  have HSX := Lib.hid (show (w2.alloc (.cells #[.int .i64 xg, .string xs'] 31)).heap.size = w2.heap.size + 1 by simp)
  have HS2 := Lib.hid (Nat.le_trans (Nat.le_of_eq HSA.out.symm) hb2.size)
  have NX := Lib.hid nx
  have N2 := Lib.hid ((hbx.block _ (by have := HS2.out; omega)).trans n2)
  have HB2 := Lib.hid (hbW2.trans (hbx.mono hbW2.size))
  clear hxg hxs hxi hb2 n2 hbW2 hbx nx KX
  go_wp2_with fail
  refine (KY.out _).mono ?_
  rintro e w4 ⟨rfl, hb4⟩
  obtain ⟨yg, hyg⟩ : ∃ g, g = (ofG ys).1 := ⟨_, rfl⟩
  obtain ⟨ys', hys⟩ : ∃ g, g = strOfNums (ofG ys).2 := ⟨_, rfl⟩
  obtain ⟨yi, hyi⟩ : ∃ b, b = (ofF ys).isSome := ⟨_, rfl⟩
  rw [← hyg, ← hys, ← hyi]
  have HY := Lib.hid (And.intro hyg (And.intro hys hyi))
  have hby := below_alloc (Below.refl _ w4) (.cells #[.int .i64 yg, .string ys'] 31)
  have ny := World.alloc_heap_new w4 (.cells #[.int .i64 yg, .string ys'] 31)
  have nx4 := (hby.block _ (by have := hb4.size; have := HSX.out; omega)).trans ((hb4.block _ (by have := HSX.out; omega)).trans NX.out)
  have n4 := (hby.block _ (by have := hb4.size; have := HSX.out; have := HS2.out; omega)).trans ((hb4.block _ (by have := HSX.out; have := HS2.out; omega)).trans N2.out)
  have HB4 := Lib.hid ((HB2.out.trans (hb4.mono HB2.out.size)).trans (hby.mono (Nat.le_trans HB2.out.size hb4.size)))
  have x0 := cell_of_block (o := 0) nx4 rfl
  have x1 := cell_of_block (o := 1) nx4 rfl
  have y0 := cell_of_block (o := 0) ny rfl
  have y1 := cell_of_block (o := 1) ny rfl
  have r0 := cell_of_block (o := 0) n4 rfl
  have r1 := cell_of_block (o := 1) n4 rfl
  have f0 := free_of_block 0 n4
  have f1 := free_of_block 1 n4
  have N4 := Lib.hid n4
  clear hyg hys hyi hb4 hby ny nx4 n4 KY
  go_upto_region 3 with fail
  generalize w4.alloc (.cells #[.int .i64 yg, .string ys'] 31) = W4 at *
  have hX := HX.out
  have hY := HY.out
  cases xi with
  | true =>
    cases yi with
    | true =>
      by_cases hge : yg ≤ xg
      · have hl : lastG xs ys = (ofG xs, 0) := by unfold lastG; rw [if_pos ⟨hX.2.2.symm, .inr (by rw [← hX.1, ← hY.1]; exact hge)⟩]
        have HL := Lib.hid (And.intro hl hX)
        have hd1 : decide (xg ≥ yg) = true := decide_eq_true hge
        have hd2 : decide (yg ≤ xg) = true := decide_eq_true hge
        clear hX hY hl hge
        have hw := ((wrote_refl N4.out).set 0 (.int .i64 xg)).set 1 (.string xs')
        have HW := Lib.hid hw
        have e0 := cell_of_block (o := 0) hw.there rfl
        have e1 := cell_of_block (o := 1) hw.there rfl
        clear hw
        go_wp2_with fail
        generalize (W4.setCell ⟨w.heap.size, 0, none⟩ (.int .i64 xg)).setCell ⟨w.heap.size, 1, none⟩ (.string xs') = W2 at *
        clear r0 r1 f0 f1 x0 x1 y0 y1
        exact bodyPost_ret (v := .tuple #[.agg #[.int .i64 xg, .string xs'], .int .i64 0]) (by simp [results, Tryd.results34, go_sem]; try go_simp) rfl ⟨by rw [HL.out.1, HL.out.2.1, HL.out.2.2.1], HW.out.below HB4.out (Nat.le_refl _)⟩
      · have hl : lastG xs ys = (ofG ys, 1) := by
          unfold lastG
          rw [if_neg (fun h => by rcases h.2 with h | h; rw [← hY.2.2] at h; cases h; rw [← hX.1, ← hY.1] at h; exact hge h), if_pos hY.2.2.symm]
        have HL := Lib.hid (And.intro hl hY)
        have hd1 : decide (xg ≥ yg) = false := decide_eq_false hge
        have hd2 : decide (yg ≤ xg) = false := decide_eq_false hge
        clear hX hY hl hge
        have hw := ((wrote_refl N4.out).set 0 (.int .i64 yg)).set 1 (.string ys')
        have HW := Lib.hid hw
        have e0 := cell_of_block (o := 0) hw.there rfl
        have e1 := cell_of_block (o := 1) hw.there rfl
        clear hw
        go_wp2_with fail
        generalize (W4.setCell ⟨w.heap.size, 0, none⟩ (.int .i64 yg)).setCell ⟨w.heap.size, 1, none⟩ (.string ys') = W2 at *
        clear r0 r1 f0 f1 x0 x1 y0 y1
        exact bodyPost_ret (v := .tuple #[.agg #[.int .i64 yg, .string ys'], .int .i64 1]) (by simp [results, Tryd.results34, go_sem]; try go_simp) rfl ⟨by rw [HL.out.1, HL.out.2.1, HL.out.2.2.1], HW.out.below HB4.out (Nat.le_refl _)⟩
    | false =>
      have hl : lastG xs ys = (ofG xs, 0) := by unfold lastG; rw [if_pos ⟨hX.2.2.symm, .inl hY.2.2.symm⟩]
      have HL := Lib.hid (And.intro hl hX)
      clear hX hY hl
      have hw := ((wrote_refl N4.out).set 0 (.int .i64 xg)).set 1 (.string xs')
      have HW := Lib.hid hw
      have e0 := cell_of_block (o := 0) hw.there rfl
      have e1 := cell_of_block (o := 1) hw.there rfl
      clear hw
      go_wp2_with fail
      generalize (W4.setCell ⟨w.heap.size, 0, none⟩ (.int .i64 xg)).setCell ⟨w.heap.size, 1, none⟩ (.string xs') = W2 at *
      clear r0 r1 f0 f1 x0 x1 y0 y1
      exact bodyPost_ret (v := .tuple #[.agg #[.int .i64 xg, .string xs'], .int .i64 0]) (by simp [results, Tryd.results34, go_sem]; try go_simp) rfl ⟨by rw [HL.out.1, HL.out.2.1, HL.out.2.2.1], HW.out.below HB4.out (Nat.le_refl _)⟩
  | false =>
    cases yi with
    | true =>
      have hl : lastG xs ys = (ofG ys, 1) := by
        unfold lastG
        rw [if_neg (fun h => by have h := h.1; rw [← hX.2.2] at h; cases h), if_pos hY.2.2.symm]
      have HL := Lib.hid (And.intro hl hY)
      clear hX hY hl
      have hw := ((wrote_refl N4.out).set 0 (.int .i64 yg)).set 1 (.string ys')
      have HW := Lib.hid hw
      have e0 := cell_of_block (o := 0) hw.there rfl
      have e1 := cell_of_block (o := 1) hw.there rfl
      clear hw
      go_wp2_with fail
      generalize (W4.setCell ⟨w.heap.size, 0, none⟩ (.int .i64 yg)).setCell ⟨w.heap.size, 1, none⟩ (.string ys') = W2 at *
      clear r0 r1 f0 f1 x0 x1 y0 y1
      exact bodyPost_ret (v := .tuple #[.agg #[.int .i64 yg, .string ys'], .int .i64 1]) (by simp [results, Tryd.results34, go_sem]; try go_simp) rfl ⟨by rw [HL.out.1, HL.out.2.1, HL.out.2.2.1], HW.out.below HB4.out (Nat.le_refl _)⟩
    | false =>
      have hl : lastG xs ys = ((0, []), -1) := by
        unfold lastG
        rw [if_neg (fun h => by have h := h.1; rw [← hX.2.2] at h; cases h), if_neg (by rw [← hY.2.2]; simp)]
      have HL := Lib.hid hl
      clear hX hY hl
      have hw := ((wrote_refl N4.out).set 0 (.int .i64 0)).set 1 (.string ⟨#[]⟩)
      have HW := Lib.hid hw
      have e0 := cell_of_block (o := 0) hw.there rfl
      have e1 := cell_of_block (o := 1) hw.there rfl
      clear hw
      go_wp2_with fail
      generalize (W4.setCell ⟨w.heap.size, 0, none⟩ (.int .i64 0)).setCell ⟨w.heap.size, 1, none⟩ (.string ⟨#[]⟩) = W2 at *
      clear r0 r1 f0 f1 x0 x1 y0 y1
      exact bodyPost_ret (v := .tuple #[.agg #[.int .i64 0, .string ⟨#[]⟩], .int .i64 (-1)]) (by simp [results, Tryd.results34, go_sem]; try go_simp) rfl ⟨by rw [HL.out, strOf_nil], HW.out.below HB4.out (Nat.le_refl _)⟩
end Go.Proofs.YtomhfnaekjmjnaaDoor
