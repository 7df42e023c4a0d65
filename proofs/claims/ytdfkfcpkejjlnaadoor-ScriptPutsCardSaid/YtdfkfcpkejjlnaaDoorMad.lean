/- Laws that belong together: A cursor's numbers. No condition.; Numbers laid behind bytes; a cursor made. No condition but the lengths' bound.; A cursor's small numbers, texts, lists of numbers, and its end. No condition but that errors.errorType reads as the program's text lays it.; A cursor's lists of numbers; a cursor that is nil. Its condition: errors.errorType reads as the program's text lays it.; Texts and lists of numbers laid behind bytes. No condition but the lengths' bound.; Layer 2's small play: it answers true. Its condition: errors.errorType reads as the program's text lays it.; What is laid is read as it was; cut by a byte it is not. Plainly. No condition.; Commands as twelve numbers, plainly: which count, which may be, how they are laid and read (layer 22). No condition.; The document's answers of layer 2: a number laid, as text. No condition but the numbers' bounds.; The document's answers of layer 2: what is laid, as texts. No condition but the numbers' bounds.; The document's answers of layer 2: a cursor's readings. No condition but the numbers' bounds.; The document's answers of layer 2: small numbers, texts, the end. No condition but the numbers' bounds. -/
import Derived.Test.YtdfkfcpkejjlnaaDoorMCur
import Derived.Deep.SlicePairs
import Derived.Test.YtdfkfcpkejjlnaaDoorMac
import Derived.Lib.AppendStr
namespace Go.Proofs.YtdfkfcpkejjlnaaDoor
set_option linter.unusedVariables false
open Go.ChangeShapes Go.WideShapes Go.ChangeAt Go.RowKit
attribute [local go_sem ↓] Go.wp_at_zero Go.wp_at_succ comesTo_value_eq comesTo_skip_eq comesTo_enter_eq

/-- a number that is read -/
def intF (st : CS) : CS × Int := if st.bad = 0 then (⟨(scan 0 0 st.xs).1, (scan 0 0 st.xs).2.1⟩, (scan 0 0 st.xs).2.2) else (st, 0)
theorem slice_from {b o n c k : Nat} (hk : k ≤ n) (hc : n ≤ c) (W : World) : Sem.run Tryd.prog (Instr.slice 40 (.slice (some ⟨b, o, none⟩) n c) (some (.int .i64 (k : Int))) none none) W = .ok (.slice (some ⟨b, if c = k then o else o + k, none⟩) (n - k) (c - k)) W := by
  by_cases h : c = k
  · subst h
    obtain rfl : n = c := by omega
    go_simp
  · rw [if_neg h]
    go_simp
/-- the bytes behind the first ones -/
theorem TxtAt.behind {w : World} {b o n c : Nat} {xs : List Int} (h : TxtAt w (.slice (some ⟨b, o, none⟩) n c) xs) {k : Nat} (hk : k ≤ n) (hc : n ≤ c) : TxtAt w (.slice (some ⟨b, if c = k then o else o + k, none⟩) (n - k) (c - k)) (xs.drop k) := by
  obtain ⟨hn, h | ⟨rfl, _⟩ | ⟨b', o', e, h0, hr⟩⟩ := h.form
  · cases h.1
  · exact .inr ⟨by simp, some ⟨b, if c = k then o else o + k, none⟩, c - k, by rw [show n - k = 0 by simp at hn; omega], fun h => by cases h⟩
  · cases e
    by_cases h : n = k
    · exact .inr ⟨List.drop_eq_nil_of_le (by omega), some ⟨b, if c = k then o else o + k, none⟩, c - k, by rw [show n - k = 0 by omega], fun h => by cases h⟩
    · rw [if_neg (by omega)]
      refine .inl ⟨b, o + k, _, by rw [show n - k = (xs.drop k).length by simp; omega], by simp; omega, ⟨fun j hj => ?_, fun j hj => ?_, fun j hj => ?_, ?_⟩⟩
      · have := hr.cell (k + j) (by simp at hj; omega)
        rw [show o + k + j = o + (k + j) by omega, this]
        simp [List.getD, List.getElem?_drop]
      · have := hr.lo (k + j) (by simp at hj; omega)
        simpa [List.getD, List.getElem?_drop] using this
      · have := hr.hi (k + j) (by simp at hj; omega)
        simpa [List.getD, List.getElem?_drop] using this
      · have := hr.len; simp; omega
theorem and_128 {m : Nat} (hm : m ≤ 255) : (bits BinOp.and IntKind.u8 (m : Int) 128 != 0) = decide (128 ≤ m) := by
  have h := u8_and_nat m 128 (by omega) (by decide)
  have hb : m &&& 128 = m / 128 % 2 * 128 := nat_bit 7 m
  rw [show ((128 : Nat) : Int) = 128 from rfl, hb] at h
  rw [h]
  by_cases h1 : 128 ≤ m
  · rw [decide_eq_true h1]; simp; omega
  · rw [decide_eq_false h1]; simp; omega
theorem or_lt {u m k : Nat} (hu : u < 2 ^ (7 * k)) (hk : k ≤ 9) (hm : m ≤ 255) (hA : ¬ (k = 9 ∧ 1 < m)) : u + m % 128 * 2 ^ (7 * k) < 18446744073709551616 := by
  rcases (by omega : k = 9 ∨ k ≤ 8) with rfl | h8
  · have : m % 128 * 2 ^ (7 * 9) ≤ 1 * 2 ^ (7 * 9) := Nat.mul_le_mul_right _ (by omega)
    simp at this hu
    omega
  · have h1 : m % 128 * 2 ^ (7 * k) ≤ 127 * 2 ^ (7 * k) := Nat.mul_le_mul_right _ (by omega)
    have h2 : 2 ^ (7 * k) ≤ 2 ^ 56 := Nat.pow_le_pow_right (by decide) (by omega)
    simp at h2
    omega
theorem or_step {u m k : Nat} (hu : u < 2 ^ (7 * k)) (hk : k ≤ 9) (hm : m ≤ 255) (hA : ¬ (k = 9 ∧ 1 < m)) :
    bits BinOp.or IntKind.u64 (u : Int) (IntKind.u64.wrap (IntKind.u64.wrap (bits BinOp.andNot IntKind.u8 (m : Int) 128) * 2 ^ (7 * k))) = ((u + m % 128 * 2 ^ (7 * k) : Nat) : Int) := by
  have hlt := or_lt hu hk hm hA
  have h1 : bits BinOp.andNot IntKind.u8 (m : Int) 128 = ((m % 128 : Nat) : Int) := by
    have := u8_andNot_nat m 128 (by omega) (by decide)
    rw [show 255 - 128 = 127 from rfl, nat_mask7] at this
    exact this
  have e : ((m % 128 : Nat) : Int) * 2 ^ (7 * k) = ((m % 128 * 2 ^ (7 * k) : Nat) : Int) := by simp [Int.natCast_mul, Int.natCast_pow]
  rw [h1, IntKind.wrap_u64 ((m % 128 : Nat) : Int), show ((m % 128 : Nat) : Int) % 18446744073709551616 = ((m % 128 : Nat) : Int) by omega, e, IntKind.wrap_u64, show ((m % 128 * 2 ^ (7 * k) : Nat) : Int) % 18446744073709551616 = ((m % 128 * 2 ^ (7 * k) : Nat) : Int) by omega,
    u64_or_nat _ _ (by omega) (by omega), Nat.or_comm, nat_join (7 * k) _ _ (Nat.mul_mod_left _ _) hu, Nat.add_comm]
set_option maxRecDepth 100000 in
theorem int_cur {w : World} {C : Nat} {F : Nat → Prop} {st : CS} (h : Cur w C F st) :
    Calls Tryd.prog 34 #[.pointer (some ⟨C, 0, none⟩)] w fun r w' => r = .returned (.int .i64 (intF st).2) ∧ Cur w' C F (intF st).1 ∧ Fr (fun j => j = C) w w' := by
  obtain ⟨ad, n, c, hb, ht, hc, hp⟩ := h.at_
  unfold intF
  by_cases h0 : st.bad = 0
  · rw [if_pos h0]
    rw [h0, show badV 0 = .nilIface from rfl] at hb
    have KF0 : ∀ e : Int, e ≠ 0 → Calls Tryd.prog 51 #[.pointer (some ⟨C, 0, none⟩), .int .i64 e] w fun r w' => r = .returned (.int .i64 0) ∧ Cur w' C F ⟨[], e⟩ ∧ Fr (fun j => j = C) w w' := fun e he => by
      have := fail_cur h e he
      rwa [show failF st e = ⟨[], e⟩ from if_pos h0] at this
    have KF := Lib.hid KF0
    clear KF0
    have c0 := cell_of_block (o := 0) hb rfl
    have c1 := cell_of_block (o := 1) hb rfl
    have f0 := free_of_block 0 hb
    have H := Lib.hid h
    have HB := Lib.hid hb
    have HT := Lib.hid ht
    have HP := Lib.hid hp
    have HC := Lib.hid hc
    have hn := ht.form.1
    have HN := Lib.hid hn
    have hfit := h.fits
    rw [← hn] at hfit
    have HI := Lib.hid hfit
    obtain ⟨xs, bd⟩ := st
    simp only at *
    clear ht hp h h0 hb hc hn hfit
    go_enter Tryd.func34, Tryd.ntmps34
    go_wp2_with fail
    go_loop [3, 20] (fun v i => ∃ k u : Nat, k ≤ n ∧ k ≤ 9 ∧ u < 2 ^ (7 * k) ∧ i = .int .i64 k ∧ v = .int .u64 (u : Int) ∧ scan k u (xs.drop k) = scan 0 0 xs) (fun _ i => n - (intOf i).toNat)
    case atStart => exact ⟨0, 0, Nat.zero_le _, Nat.zero_le _, by decide, rfl, rfl, rfl⟩
    case round =>
      obtain ⟨k, u, hk, hk9, hu, rfl, rfl, hsc⟩ := hrel
      have HS := Lib.hid hsc
      have HU := Lib.hid hu
      clear hsc hu
      by_cases hlt : k < n
      · have hd1 : decide ((k : Int) < (n : Int)) = true := decide_eq_true (by omega)
        obtain ⟨b, o, rfl, hr⟩ : ∃ b o, ad = some ⟨b, o, none⟩ ∧ BytesRow w b o xs := by
          have hn := HN.out
          rcases HT.out.form.2 with ⟨_, rfl⟩ | ⟨rfl, _⟩ | ⟨b, o, h1, _, h2⟩
          · simp at hn; omega
          · simp at hn; omega
          · exact ⟨b, o, h1, h2⟩
        have hcell := hr.cell k (by have := HN.out; omega)
        have hlo := hr.lo k (by have := HN.out; omega)
        have hhi := hr.hi k (by have := HN.out; omega)
        have hdr : xs.drop k = xs.getD k 0 :: xs.drop (k + 1) := by
          have hl : k < xs.length := by have := HN.out; omega
          rw [List.drop_eq_getElem_cons hl]; simp [List.getD, List.getElem?_eq_getElem hl]
        have HS2 := Lib.hid (hdr ▸ HS.out)
        clear hr hdr HS
        generalize xs.getD k 0 = x at *
        obtain ⟨m, rfl⟩ : ∃ m : Nat, x = (m : Int) := ⟨x.toNat, by omega⟩
        have hm : m ≤ 255 := by omega
        have h7w : IntKind.i64.wrap (7 * (k : Int)) = 7 * (k : Int) := IntWalk.i64_in _ (by omega)
        have h7a : 0 ≤ 7 * (k : Int) := by omega
        have h7b : 7 * (k : Int) ≤ 64 := by omega
        have HM := Lib.hid hm
        clear hlo hhi
        by_cases hA : k = 9 ∧ 1 < m
        · have hq : decide ((m : Int) > 1) = true := decide_eq_true (by omega)
          have hq9 : ((k : Int) == 9) = true := by rw [beq_iff_eq]; omega
          have he : scan 0 0 xs = ([], 11, 0) := by
            rw [← HS2.out]; unfold scan; rw [if_pos ⟨hA.1, by omega⟩]
          have HSC := Lib.hid he
          clear he hA hm
          go_wp2_with fail
          refine (KF.out 11 (by decide)).mono ?_
          rintro e w1 ⟨rfl, hc1, hf1⟩
          go_wp2
          go_ret
          rw [HSC.out]
          exact ⟨rfl, hc1, hf1⟩
        · obtain ⟨u2, hu2⟩ : ∃ u2, u2 = u + m % 128 * 2 ^ (7 * k) := ⟨_, rfl⟩
          have hor := or_step HU.out hk9 hm hA
          rw [← hu2] at hor
          have HOR := Lib.hid hor
          have h64 := or_lt HU.out hk9 hm hA
          rw [← hu2] at h64
          have hcase : ((k : Int) == 9) = true ∧ decide ((m : Int) > 1) = false ∨ ((k : Int) == 9) = false := by
            by_cases h9 : k = 9
            · exact .inl ⟨by rw [beq_iff_eq]; omega, decide_eq_false (by omega)⟩
            · exact .inr (by rw [beq_eq_false_iff_ne]; omega)
          have hna : ¬ (k = 9 ∧ 1 < (m : Int)) := by omega
          by_cases h128 : 128 ≤ m
          · have hnz : (bits BinOp.and IntKind.u8 (m : Int) 128 != 0) = true := by rw [and_128 hm]; exact decide_eq_true h128
            have hs : scan (k + 1) u2 (xs.drop (k + 1)) = scan 0 0 xs := by
              rw [← HS2.out]
              conv => rhs; unfold scan
              rw [if_neg hna, if_pos (by omega), show ((m : Int) - 128).toNat = m % 128 by omega, ← hu2]
            have hk8 : k ≤ 8 := by omega
            have hu3 : u2 < 2 ^ (7 * (k + 1)) := by
              have := HU.out
              rw [hu2, show 7 * (k + 1) = 7 + 7 * k by omega, Nat.pow_add]
              have : m % 128 * 2 ^ (7 * k) ≤ 127 * 2 ^ (7 * k) := Nat.mul_le_mul_right _ (by omega)
              omega
            have HS3 := Lib.hid hs
            have HU3 := Lib.hid hu3
            clear hs hu3 HS2 HU hu2 hna hA h128 h64 hm
            rcases hcase with ⟨q1, q2⟩ | q1
            · rw [beq_iff_eq] at q1; omega
            · go_wp2
              go_round
              case rel => exact ⟨k + 1, u2, by omega, by omega, HU3.out, by go_num, rfl, HS3.out⟩
              case measure => simp [intOf]; omega
          · have hnz : (bits BinOp.and IntKind.u8 (m : Int) 128 != 0) = false := by rw [and_128 hm]; exact decide_eq_false h128
            by_cases hz : 0 < k ∧ m = 0
            · have hkz : decide ((k : Int) > 0) = true := decide_eq_true (by omega)
              have hmz : ((m : Int) == 0) = true := by rw [beq_iff_eq]; omega
              have he : scan 0 0 xs = ([], 11, 0) := by
                rw [← HS2.out]; unfold scan; rw [if_neg hna, if_neg (by omega), if_pos (by omega)]
              have HSC := Lib.hid he
              have hk0 : 0 < k := hz.1
              clear he HS2 HU hu2 hna hA h128 h64 hz hm
              rcases hcase with ⟨q1, q2⟩ | q1 <;> (
              go_wp2_with fail
              refine (KF.out 11 (by decide)).mono ?_
              rintro e w1 ⟨rfl, hc1, hf1⟩
              go_wp2
              go_ret
              rw [HSC.out]
              exact ⟨rfl, hc1, hf1⟩)
            · have he : scan 0 0 xs = (xs.drop (k + 1), 0, unfoldF u2) := by
                rw [← HS2.out]; unfold scan; rw [if_neg hna, if_neg (by omega), if_neg (by omega), show ((m : Int)).toNat = m % 128 by omega, ← hu2]
              have HSC := Lib.hid he
              clear he
              have hz2 : (decide ((k : Int) > 0) = false ∧ ¬ 0 < k) ∨ decide ((k : Int) > 0) = true ∧ ((m : Int) == 0) = false ∧ 0 < k := by
                rcases Nat.eq_zero_or_pos k with h | h
                · exact .inl ⟨decide_eq_false (by omega), by omega⟩
                · exact .inr ⟨decide_eq_true (by omega), by rw [beq_eq_false_iff_ne]; omega, h⟩
              have KU := Lib.hid (fun W => unfold_any h64 W)
              have hdl : (xs.drop (k + 1)).length ≤ xs.length := by simp
              by_cases hck : c = k + 1
              · have hcn := HC.out
                obtain rfl : n = c := by omega
                subst hck
                have HE := Lib.hid (H.out.wrote (st' := ⟨xs.drop (k + 1), 0⟩) (w' := w.setCell ⟨C, 0, none⟩ (.slice (some ⟨b, o, none⟩) 0 0)) ((wrote_refl HB.out).set 0 (.slice (some ⟨b, o, none⟩) 0 0)) (fun h => absurd rfl h) hdl (by
                    have := HT.out.behind (k := k + 1) (Nat.le_refl _) (Nat.le_refl _)
                    rw [if_pos rfl, Nat.sub_self] at this
                    exact this) (Nat.le_refl _) (fun p e => by cases e; exact HP.out ⟨b, o, none⟩ rfl))
                clear hdl HS2 HU hu2 hna hA h128 h64 hz hm hcn
                rcases hcase with ⟨q1, q2⟩ | q1 <;> rcases hz2 with ⟨z1, z3⟩ | ⟨z1, z2, z3⟩ <;> (
                go_wp2_with fail
                refine (KU.out _).mono ?_
                rintro e w1 ⟨rfl, rfl⟩
                go_wp2
                go_ret
                rw [HSC.out]
                exact ⟨rfl, HE.out.1, HE.out.2⟩)
              · have HE := Lib.hid (H.out.wrote (st' := ⟨xs.drop (k + 1), 0⟩) (w' := w.setCell ⟨C, 0, none⟩ (.slice (some ⟨b, o + (k + 1), none⟩) (n - (k + 1)) (c - (k + 1)))) ((wrote_refl HB.out).set 0 (.slice (some ⟨b, o + (k + 1), none⟩) (n - (k + 1)) (c - (k + 1)))) (fun h => absurd rfl h) hdl (by
                    have := HT.out.behind (k := k + 1) (by omega) HC.out
                    rw [if_neg hck] at this
                    exact this) (by have := HC.out; omega) (fun p e => by cases e; exact HP.out ⟨b, o, none⟩ rfl))
                have hkc := Nat.le_trans (show k + 1 ≤ n by omega) HC.out
                clear hdl HS2 HU hu2 hna hA h128 h64 hz hm
                rcases hcase with ⟨q1, q2⟩ | q1 <;> rcases hz2 with ⟨z1, z3⟩ | ⟨z1, z2, z3⟩ <;> (
                go_wp2_with fail
                refine (KU.out _).mono ?_
                rintro e w1 ⟨rfl, rfl⟩
                go_wp2
                go_ret
                rw [HSC.out]
                exact ⟨rfl, HE.out.1, HE.out.2⟩)
      · obtain rfl : k = n := by omega
        have hd1 : decide ((k : Int) < (k : Int)) = false := decide_eq_false (by omega)
        have he : scan 0 0 xs = ([], 10, 0) := by
          rw [← HS.out, List.drop_eq_nil_of_le (by have := HN.out; omega)]
          cases k <;> rfl
        have HSC := Lib.hid he
        clear he hlt
        go_wp2_with fail
        refine (KF.out 10 (by decide)).mono ?_
        rintro e w1 ⟨rfl, hc1, hf1⟩
        go_wp2
        go_ret
        rw [HSC.out]
        exact ⟨rfl, hc1, hf1⟩
  · rw [if_neg h0]
    rw [show badV st.bad = .iface 44 (.int .i64 st.bad) from if_neg h0] at hb
    have c1 := cell_of_block (o := 1) hb rfl
    have H := Lib.hid h
    clear ht hc hp h h0 hb
    go_enter Tryd.func34, Tryd.ntmps34
    go_wp2
    go_ret
    exact ⟨rfl, H.out, Fr.refl _ _⟩
end Go.Proofs.YtdfkfcpkejjlnaaDoor
namespace Go.Proofs.YtdfkfcpkejjlnaaDoor
set_option linter.unusedVariables false
open Go.ChangeShapes Go.WideShapes Go.ChangeAt Go.RowKit
attribute [local go_sem ↓] Go.wp_at_zero Go.wp_at_succ comesTo_value_eq comesTo_skip_eq comesTo_enter_eq

/-- a cursor is made -/
theorem read_cur {w : World} {v : Value} {xs : List Int} (h : TxtAt w v xs) (hl : xs.length ≤ 1099511627775) :
    Calls Tryd.prog 29 #[v] w fun e w' => ∃ C, e = .returned (.pointer (some ⟨C, 0, none⟩)) ∧ Cur w' C (fun j => w.heap.size ≤ j) ⟨xs, 0⟩ ∧ Below w.heap.size w w' := by
  have K := Lib.hid (clone_bytes h (by omega))
  clear h
  go_enter Tryd.func29, Tryd.ntmps29
  go_wp2_with fail
  refine K.out.mono ?_
  rintro e w1 ⟨u, rfl, ho, hb, _⟩
  have HO := Lib.hid ho
  have HB := Lib.hid hb
  clear ho hb K
  rcases HO.out.form with ⟨rfl, rfl⟩ | ⟨g, c, rfl, hn, hc⟩
  · go_wp2
    go_ret
    have hA := below_alloc (Below.refl _ w1) (.cells #[.slice none 0 0, .nilIface] 97)
    exact ⟨w1.heap.size, rfl, ⟨HB.out.size, fun h => absurd rfl h, hl, none, 0, 0, World.alloc_heap_new w1 _, .inr ⟨rfl, none, 0, rfl, fun _ => rfl⟩, Nat.le_refl _, fun p hp => by cases hp⟩, HB.out.trans (hA.mono HB.out.size)⟩
  · have HC := Lib.hid hn
    have HL := Lib.hid hl
    clear hn hc hl
    go_wp2
    go_ret
    have hA := below_alloc (Below.refl _ w1) (.cells #[.slice (some ⟨g, 0, none⟩) xs.length c, .nilIface] 97)
    refine ⟨w1.heap.size, rfl, ⟨HB.out.size, fun h => absurd rfl h, HL.out, some ⟨g, 0, none⟩, xs.length, c, World.alloc_heap_new w1 _, HO.out.at.below hA, HC.out, fun p hp => ?_⟩, HB.out.trans (hA.mono HB.out.size)⟩
    cases hp
    have h1 := ownBlock_lt HO.out (g := g) rfl
    have h2 := HO.out.blockGe (g := g) rfl
    exact ⟨by show g ≠ w1.heap.size; omega, h2, Nat.lt_of_lt_of_le h1 hA.size⟩
theorem or_128 : ∀ x : Nat, x < 256 → x ||| 128 = x % 128 + 128 := by decide +kernel
theorem or_more (u : Nat) : bits BinOp.or IntKind.u8 ((u : Int) % 256) 128 = ((u % 128 + 128 : Nat) : Int) := by
  have h := u8_or_nat (u % 256) 128 (by omega) (by decide)
  rw [or_128 _ (by omega), show u % 256 % 128 = u % 128 by omega] at h
  rw [show (u : Int) % 256 = ((u % 256 : Nat) : Int) by omega]
  exact h
theorem byte_txt {w : World} {b : Nat} {x : Int} {T : TypeId} (hb : w.heap[b]? = some (.cells #[.int .u8 x] T (0, 0))) (h : 0 ≤ x ∧ x ≤ 255) : TxtAt w (.slice (some ⟨b, 0, none⟩) 1 1) [x] := by
  refine .inl ⟨b, 0, 1, rfl, by simp, ⟨fun k hk => ?_, fun k hk => ?_, fun k hk => ?_, by simp⟩⟩ <;> (obtain rfl : k = 0 := by simpa using hk)
  · exact cell_of_block hb rfl
  · exact h.1
  · exact h.2
set_option maxRecDepth 100000 in
theorem lay64_any {w : World} {B : Nat} {v : Value} {xs : List Int} (h : OwnTxt w B v xs) (hB : B ≤ w.heap.size) (hl : xs.length ≤ 1099511627776) {n : Int} (hn : -9223372036854775808 ≤ n ∧ n ≤ 9223372036854775807) :
    Calls Tryd.prog 47 #[v, .int .i64 n] w fun e w' => ∃ u, e = .returned u ∧ OwnTxt w' B u (xs ++ putI n) ∧ Below B w w' := by
  have K := Lib.hid (fold_any hn w)
  have h64 := fold_lt hn
  have hlen := putI_len hn
  have HO := Lib.hid h
  clear h
  unfold putI at *
  generalize foldF n = u0 at *
  go_enter Tryd.func47, Tryd.ntmps47
  go_wp2_with fail
  refine K.out.mono ?_
  rintro e w' ⟨rfl, rfl⟩
  have HL := Lib.hid hlen
  clear hlen
  go_wp2_with fail
  go_loopw [0, 5] (fun b r wr => ∃ (v' : Value) (acc : List Int) (u : Nat), b = v' ∧ r = .int .u64 (u : Int) ∧ u < 18446744073709551616 ∧ acc ++ putU u = putU u0 ∧ OwnTxt wr B v' (xs ++ acc) ∧ Below B w wr) (fun _ r _ => (intOf r).toNat)
  case atStart => exact ⟨v, [], u0, rfl, rfl, h64, rfl, by rw [List.append_nil]; exact HO.out, Below.refl _ _⟩
  case round =>
    clear HO
    obtain ⟨v', acc, u, rfl, rfl, hu, hacc, ho, hb⟩ := hrel
    have HA := Lib.hid hacc
    have HB := Lib.hid hb
    have hal : acc.length + (putU u).length ≤ 10 := by
      have := HL.out
      rw [← hacc, List.length_append] at this
      exact this
    clear hacc hb
    by_cases h128 : u < 128
    · have hq : decide ((u : Int) ≥ 128) = false := decide_eq_false (by omega)
      have hw : IntKind.u8.wrap (u : Int) = (u : Int) := by rw [IntKind.wrap_u8']; omega
      have hA1 := below_alloc (Below.refl _ wr) (.cells #[.int .u8 (u : Int)] 5)
      have HO1 := Lib.hid (ho.below hA1)
      have HT1 := Lib.hid (byte_txt (World.alloc_heap_new wr (.cells #[.int .u8 (u : Int)] 5)) (by omega))
      have HA1 := Lib.hid hA1
      rw [putU_lt h128] at HA
      have h9 : (xs ++ acc).length + 1 ≤ 140737488355328 := by
        have := putU_len u
        simp; omega
      have hBA : B ≤ (wr.alloc (.cells #[.int .u8 (u : Int)] 5)).heap.size := Nat.le_trans hB (Nat.le_trans HB.out.size HA1.out.size)
      have HF := Lib.hid (HB.out.trans (HA1.out.mono (Nat.le_trans hB HB.out.size)))
      clear ho hA1 hal h128
      go_wp2_with (at_builtin; go_loud (refine wpList_append_txt (by rfl) _ _ (by rfl) B u0 (xs ++ acc) (by rfl) HO1.out _ [(u : Int)] (by rfl) HT1.out (by simpa using h9) hBA ?_; intro ad n' c' w1 o1 b1 g1; have O1 := Lib.hid o1; have B1 := Lib.hid b1; clear o1 b1 g1))
      go_ret
      refine ⟨_, rfl, ?_, HF.out.trans B1.out⟩
      rw [← HA.out, ← List.append_assoc]
      exact O1.out
    · have hq : decide ((u : Int) ≥ 128) = true := decide_eq_true (by omega)
      have hor := or_more u
      have hA1 := below_alloc (Below.refl _ wr) (.cells #[.int .u8 ((u % 128 + 128 : Nat) : Int)] 5)
      have HO1 := Lib.hid (ho.below hA1)
      have HT1 := Lib.hid (byte_txt (World.alloc_heap_new wr (.cells #[.int .u8 ((u % 128 + 128 : Nat) : Int)] 5)) (by omega))
      have HA1 := Lib.hid hA1
      rw [putU_ge h128] at HA
      have h9 : (xs ++ acc).length + 1 ≤ 140737488355328 := by simp; omega
      have hBA : B ≤ (wr.alloc (.cells #[.int .u8 ((u % 128 + 128 : Nat) : Int)] 5)).heap.size := Nat.le_trans hB (Nat.le_trans HB.out.size HA1.out.size)
      have HF := Lib.hid (HB.out.trans (HA1.out.mono (Nat.le_trans hB HB.out.size)))
      have HM := Lib.hid (show u / 128 < u ∧ u / 128 < 18446744073709551616 by omega)
      generalize u % 128 + 128 = y at *
      clear ho hA1 hal h128
      go_wp2_with (at_builtin; go_loud (refine wpList_append_txt (by rfl) _ _ (by rfl) B u0 (xs ++ acc) (by rfl) HO1.out _ [(y : Int)] (by rfl) HT1.out (by simpa using h9) hBA ?_; intro ad n' c' w1 o1 b1 g1; have O1 := Lib.hid o1; have B1 := Lib.hid b1; clear o1 b1 g1))
      go_roundw
      case rel => exact ⟨_, acc ++ [(y : Int)], u / 128, rfl, by rw [Int.natCast_ediv]; rfl, HM.out.2, by rw [List.append_assoc]; exact HA.out, by rw [← List.append_assoc]; exact O1.out, HF.out.trans B1.out⟩
      case measure => have := HM.out.1; simp [intOf]; omega
/-- a number behind bytes -/
theorem putint_any {w : World} {v : Value} {xs : List Int} (h : TxtAt w v xs) (hl : xs.length ≤ 1099511627776) {n : Int} (hn : -9223372036854775808 ≤ n ∧ n ≤ 9223372036854775807) :
    Calls Tryd.prog 22 #[v, .int .i64 n] w fun e w' => ∃ u, e = .returned u ∧ OwnTxt w' w.heap.size u (xs ++ putI n) ∧ Below w.heap.size w w' := by
  have K := Lib.hid (clone_bytes h (by omega))
  clear h
  go_enter Tryd.func22, Tryd.ntmps22
  go_wp2_with fail
  refine K.out.mono ?_
  rintro e w1 ⟨u, rfl, ho, hb, _⟩
  have KL := Lib.hid (lay64_any ho hb.size hl hn)
  have HB := Lib.hid hb
  clear ho hb K
  go_wp2_with fail
  refine KL.out.mono ?_
  rintro e w2 ⟨u2, rfl, ho2, hb2⟩
  have HO2 := Lib.hid ho2
  have HB2 := Lib.hid (HB.out.trans hb2)
  clear ho2 hb2
  go_wp2
  go_ret
  exact ⟨_, rfl, HO2.out, HB2.out⟩
end Go.Proofs.YtdfkfcpkejjlnaaDoor
namespace Go.Proofs.YtdfkfcpkejjlnaaDoor
set_option linter.unusedVariables false
open Go.ChangeShapes Go.WideShapes Go.ChangeAt Go.RowKit
attribute [local go_sem ↓] Go.wp_at_zero Go.wp_at_succ comesTo_value_eq comesTo_skip_eq comesTo_enter_eq

theorem Cur.apart {w : World} {C : Nat} {F : Nat → Prop} {st : CS} (h : Cur w C F st) (hE : ErrAt w) : C ≠ 0 := by
  rintro rfl
  obtain ⟨_, _, _, ad, n, c, hb, _⟩ := h
  have h1 := cell_of_block (o := 0) hb rfl
  unfold ErrAt at hE
  rw [h1] at hE
  cases hE
theorem ErrAt.fr {w w' : World} {G : Nat → Prop} (h : ErrAt w) (hf : Fr G w w') (hg : ¬ G 0) : ErrAt w' := by
  unfold ErrAt at h ⊢
  have hlt := World.block_lt_of_cell? w _ h
  have := hf.block _ hlt hg
  simp only [World.cell?, this] at h ⊢
  exact h
theorem ErrAt.below {w w' : World} (h : ErrAt w) (hb : Below w.heap.size w w') : ErrAt w' := h.fr (G := fun _ => False) (Fr.of_below hb) (fun h => h)
theorem intF_bad (st : CS) : (intF st).1.bad = 0 ∨ (intF st).2 = 0 ∧ (st.bad = 0 → (intF st).1.xs = []) := by
  unfold intF
  split
  · rcases scan_bad 0 0 st.xs with h | h
    · exact .inl h
    · exact .inr ⟨h.2, fun _ => h.1⟩
  · rename_i h
    exact .inr ⟨rfl, fun h' => absurd h' h⟩
def CS.bytes (st : CS) : Prop := ∀ x ∈ st.xs, 0 ≤ x ∧ x ≤ 255
theorem Cur.bytes {w : World} {C : Nat} {F : Nat → Prop} {st : CS} (h : Cur w C F st) : st.bytes := by
  obtain ⟨_, _, _, ad, n, c, _, ht, _⟩ := h
  intro x hx
  rcases ht.form.2 with ⟨_, e⟩ | ⟨e, _⟩ | ⟨b, o, _, _, hr⟩
  · rw [e] at hx; cases hx
  · rw [e] at hx; cases hx
  · obtain ⟨k, hk, rfl⟩ := List.mem_iff_getElem.1 hx
    have h1 := hr.lo k hk
    have h2 := hr.hi k hk
    simp [List.getD, List.getElem?_eq_getElem hk] at h1 h2
    exact ⟨h1, h2⟩
theorem intF_in {st : CS} (h : st.bytes) : -9223372036854775808 ≤ (intF st).2 ∧ (intF st).2 ≤ 9223372036854775807 := by
  unfold intF
  split
  · exact scan_in st.xs 0 0 h (Nat.zero_le 9) Nat.one_pos
  · show -9223372036854775808 ≤ (0 : Int) ∧ (0 : Int) ≤ 9223372036854775807
    omega
/-- a small number that is read -/
def smallF (st : CS) (most : Int) : CS × Int := if (intF st).2 < 0 ∨ most < (intF st).2 then (failF (intF st).1 2, 0) else intF st
set_option maxRecDepth 100000 in
theorem small_cur {w : World} {C : Nat} {F : Nat → Prop} {st : CS} (h : Cur w C F st) (most : Int) :
    Calls Tryd.prog 31 #[.pointer (some ⟨C, 0, none⟩), .int .i64 most] w fun r w' => r = .returned (.int .i64 (smallF st most).2) ∧ Cur w' C F (smallF st most).1 ∧ Fr (fun j => j = C) w w' := by
  have K := Lib.hid (int_cur h)
  have hin := intF_in h.bytes
  unfold smallF
  clear h
  generalize intF st = p at *
  obtain ⟨st1, v⟩ := p
  simp only at *
  have hw : IntKind.i64.wrap v = v := IntWalk.i64_in v hin
  rcases (by omega : v < 0 ∨ ¬ v < 0 ∧ most < v ∨ ¬ v < 0 ∧ ¬ most < v) with h1 | ⟨h1, h2⟩ | ⟨h1, h2⟩
  · rw [if_pos (Or.inl h1)]
    have hd1 : decide (v < 0) = true := decide_eq_true h1
    clear hin
    go_enter Tryd.func31, Tryd.ntmps31
    go_wp2_with fail
    refine K.out.mono ?_
    rintro e w1 ⟨rfl, hc, hf⟩
    have KF := Lib.hid (fail_cur hc 2 (by decide))
    have HF := Lib.hid hf
    clear hc hf K
    go_wp2_with fail
    refine KF.out.mono ?_
    rintro e w2 ⟨rfl, hc2, hf2⟩
    have HC := Lib.hid hc2
    have HF2 := Lib.hid (HF.out.trans hf2 (fun j hj => .inl hj))
    clear hc2 hf2
    go_wp2
    go_ret
    exact ⟨rfl, HC.out, HF2.out⟩
  · rw [if_pos (Or.inr h2)]
    have hd1 : decide (v < 0) = false := decide_eq_false h1
    have hd2 : decide (v > most) = true := decide_eq_true h2
    clear hin
    go_enter Tryd.func31, Tryd.ntmps31
    go_wp2_with fail
    refine K.out.mono ?_
    rintro e w1 ⟨rfl, hc, hf⟩
    have KF := Lib.hid (fail_cur hc 2 (by decide))
    have HF := Lib.hid hf
    clear hc hf K
    go_wp2_with fail
    refine KF.out.mono ?_
    rintro e w2 ⟨rfl, hc2, hf2⟩
    have HC := Lib.hid hc2
    have HF2 := Lib.hid (HF.out.trans hf2 (fun j hj => .inl hj))
    clear hc2 hf2
    go_wp2
    go_ret
    exact ⟨rfl, HC.out, HF2.out⟩
  · rw [if_neg (by omega)]
    have hd1 : decide (v < 0) = false := decide_eq_false h1
    have hd2 : decide (v > most) = false := decide_eq_false h2
    clear hin
    go_enter Tryd.func31, Tryd.ntmps31
    go_wp2_with fail
    refine K.out.mono ?_
    rintro e w1 ⟨rfl, hc, hf⟩
    have HC := Lib.hid hc
    have HF2 := Lib.hid hf
    clear hc hf K
    go_wp2
    go_ret
    exact ⟨rfl, HC.out, HF2.out⟩
/-- what is wrong in the end -/
def endF (st : CS) : Int := if st.bad = 0 ∧ 0 < st.xs.length then 11 else st.bad
set_option maxRecDepth 100000 in
theorem end_cur {w : World} {C : Nat} {F : Nat → Prop} {st : CS} (h : Cur w C F st) (hE : ErrAt w) :
    Calls Tryd.prog 52 #[.pointer (some ⟨C, 0, none⟩)] w fun r w' => r = .returned (.int .i64 (endF st)) ∧ Below w.heap.size w w' := by
  have K := Lib.hid (bad_cur h hE)
  have H := Lib.hid h
  have HE := Lib.hid hE
  clear h hE
  unfold endF
  by_cases h0 : st.bad = 0
  · rw [h0] at K ⊢
    have hl : ∃ n : Nat, st.xs.length = n := ⟨_, rfl⟩
    obtain ⟨n, hn⟩ := hl
    have KR0 := fun (w1 : World) (hb : Below w.heap.size w w1) => rest_cur (H.out.below hb)
    rw [hn] at KR0 ⊢
    have KR := Lib.hid KR0
    clear KR0 hn
    by_cases hx : 0 < n
    · rw [if_pos ⟨rfl, hx⟩]
      have hd : decide ((n : Int) > 0) = true := decide_eq_true (by omega)
      go_enter Tryd.func52, Tryd.ntmps52
      go_wp2_with fail
      refine K.out.mono ?_
      rintro e w1 ⟨rfl, hb⟩
      have HB := Lib.hid hb
      have KR1 := Lib.hid (KR.out w1 hb)
      clear hb
      go_wp2_with fail
      refine KR1.out.mono ?_
      rintro e w2 ⟨rfl, rfl⟩
      go_wp2_with fail
      go_ret
      exact ⟨rfl, HB.out⟩
    · rw [if_neg (by omega)]
      have hd : decide ((n : Int) > 0) = false := decide_eq_false (by omega)
      obtain rfl : n = 0 := by omega
      go_enter Tryd.func52, Tryd.ntmps52
      go_wp2_with fail
      refine K.out.mono ?_
      rintro e w1 ⟨rfl, hb⟩
      have HB := Lib.hid hb
      have KR1 := Lib.hid (KR.out w1 hb)
      have KB0 := bad_cur (H.out.below hb) (HE.out.below hb)
      rw [h0] at KB0
      have KB := Lib.hid KB0
      clear hb KB0
      go_wp2_with fail
      refine KR1.out.mono ?_
      rintro e w2 ⟨rfl, rfl⟩
      go_wp2_with fail
      refine KB.out.mono ?_
      rintro e w3 ⟨rfl, hb3⟩
      have HB3 := Lib.hid (below_next HB.out hb3)
      clear hb3
      go_wp2_with fail
      go_ret
      exact ⟨rfl, HB3.out⟩
  · rw [if_neg (by omega)]
    go_enter Tryd.func52, Tryd.ntmps52
    go_wp2_with fail
    refine K.out.mono ?_
    rintro e w1 ⟨rfl, hb⟩
    have KB := Lib.hid (bad_cur (H.out.below hb) (HE.out.below hb))
    have HB := Lib.hid hb
    clear hb
    go_wp2_with fail
    refine KB.out.mono ?_
    rintro e w3 ⟨rfl, hb3⟩
    have HB3 := Lib.hid (below_next HB.out hb3)
    clear hb3
    go_wp2_with fail
    go_ret
    exact ⟨rfl, HB3.out⟩
/-- a text that is read -/
def textF (st : CS) : CS × List Int :=
  if ((smallF st 65536).1.xs.length : Int) < (smallF st 65536).2 then (failF (smallF st 65536).1 10, [])
  else (⟨(smallF st 65536).1.xs.drop (smallF st 65536).2.toNat, (smallF st 65536).1.bad⟩, (smallF st 65536).1.xs.take (smallF st 65536).2.toNat)
theorem smallF_in {st : CS} {most : Int} (hm : 0 ≤ most) : 0 ≤ (smallF st most).2 ∧ (smallF st most).2 ≤ most := by
  unfold smallF
  split
  · exact ⟨Int.le_refl _, hm⟩
  · omega
theorem smallF_bad {st : CS} {most : Int} (h : (smallF st most).1.bad ≠ 0) : (smallF st most).2 = 0 := by
  unfold smallF at *
  split
  · rfl
  · rename_i hn
    rw [if_neg hn] at h
    rcases intF_bad st with h1 | h1
    · exact absurd h1 h
    · exact h1.1
set_option maxRecDepth 100000 in
theorem text_cur {w : World} {C : Nat} {F : Nat → Prop} {st : CS} (h : Cur w C F st) :
    Calls Tryd.prog 33 #[.pointer (some ⟨C, 0, none⟩)] w fun r w' => r = .returned (.string (strOfNums (textF st).2)) ∧ Cur w' C F (textF st).1 ∧ Fr (fun j => j = C) w w' := by
  have K := Lib.hid (small_cur h 65536)
  have hin := smallF_in (st := st) (most := 65536) (by decide)
  have hbd := smallF_bad (st := st) (most := 65536)
  unfold textF
  clear h
  generalize smallF st 65536 = p at *
  obtain ⟨st1, v⟩ := p
  simp only at *
  obtain ⟨n, rfl⟩ : ∃ n : Nat, v = (n : Int) := ⟨v.toNat, by omega⟩
  have HN := Lib.hid hin
  have HB0 := Lib.hid hbd
  clear hin hbd
  by_cases hx : (st1.xs.length : Int) < (n : Int)
  · rw [if_pos hx]
    have hd1 : decide ((n : Int) > (st1.xs.length : Int)) = true := decide_eq_true hx
    have hlt2 : st1.xs.length < n := by omega
    clear hx
    go_enter Tryd.func33, Tryd.ntmps33
    go_wp2_with fail
    refine K.out.mono ?_
    rintro e w1 ⟨rfl, hc, hf⟩
    have KR := Lib.hid (rest_cur hc)
    have KF := Lib.hid (fail_cur hc 10 (by decide))
    have HF := Lib.hid hf
    clear hc hf K
    generalize st1.xs.length = m at *
    go_wp2_with fail
    refine KR.out.mono ?_
    rintro e w2 ⟨rfl, rfl⟩
    go_wp2_with fail
    refine KF.out.mono ?_
    rintro e w2 ⟨rfl, hc2, hf2⟩
    have HC := Lib.hid hc2
    have HF2 := Lib.hid (HF.out.trans hf2 (fun j hj => .inl hj))
    clear hc2 hf2
    go_wp2
    go_ret
    exact ⟨rfl, HC.out, HF2.out⟩
  · rw [if_neg hx]
    have hd1 : decide ((n : Int) > (st1.xs.length : Int)) = false := decide_eq_false (by omega)
    have hle : n ≤ st1.xs.length := by omega
    rw [show ((n : Int)).toNat = n from rfl]
    clear hx
    by_cases h0 : n = 0
    · subst h0
      rw [List.drop_zero, List.take_zero]
      go_enter Tryd.func33, Tryd.ntmps33
      go_wp2_with fail
      refine K.out.mono ?_
      rintro e w1 ⟨rfl, hc, hf⟩
      have KR := Lib.hid (rest_cur hc)
      have HC := Lib.hid hc
      have HF := Lib.hid hf
      clear hc hf K
      generalize hm : st1.xs.length = m at *
      have HM := Lib.hid hm
      clear hm
      go_wp2_with fail
      refine KR.out.mono ?_
      rintro e w2 ⟨rfl, rfl⟩
      go_wp2
      go_ret
      exact ⟨rfl, HC.out, HF.out⟩
    · have hb0 : st1.bad = 0 := by
        rcases Int.decEq st1.bad 0 with h | h
        · have := HB0.out h; omega
        · exact h
      have hq : ((n : Int) == 0) = false := by rw [beq_eq_false_iff_ne]; omega
      go_enter Tryd.func33, Tryd.ntmps33
      go_wp2_with fail
      refine K.out.mono ?_
      rintro e w1 ⟨rfl, hc, hf⟩
      have KR := Lib.hid (rest_cur hc)
      have H := Lib.hid hc
      have HF := Lib.hid hf
      obtain ⟨ad, nn, c, hb, ht, hcc, hp⟩ := hc.at_
      obtain ⟨rfl, hform⟩ := ht.form
      obtain ⟨b, o, rfl, _, _⟩ : ∃ b o, ad = some ⟨b, o, none⟩ ∧ 0 < st1.xs.length ∧ BytesRow w1 b o st1.xs := by
        rcases hform with ⟨_, h1⟩ | ⟨h1, _⟩ | h1
        · rw [h1] at hle; simp at hle; omega
        · rw [h1] at hle; simp at hle; omega
        · exact h1
      rw [hb0, show badV 0 = .nilIface from rfl] at hb
      have c0 := cell_of_block (o := 0) hb rfl
      have f0 := free_of_block 0 hb
      have HB := Lib.hid hb
      have HT := Lib.hid ht
      have HP := Lib.hid hp
      have hst := fun W => slice_to_any (ad := some ⟨b, o, none⟩) (n := st1.xs.length) (c := c) (s := n) ⟨b, o, rfl⟩ (by omega) (by omega) W
      have htk : TxtAt w1 (.slice (some ⟨b, o, none⟩) n c) (st1.xs.take n) := by
        rcases ht with ⟨b', o', c', e1, e2, e3⟩ | ⟨e, _⟩
        · cases e1
          refine .inl ⟨b, o, c, by rw [show (st1.xs.take n).length = n by simp; omega], by simp; omega, ⟨fun j hj => ?_, fun j hj => ?_, fun j hj => ?_, ?_⟩⟩
          · rw [List.length_take] at hj
            have := e3.cell j (by omega)
            rw [this]; simp [List.getD, List.getElem?_take_of_lt (show j < n by omega)]
          · rw [List.length_take] at hj
            have := e3.lo j (by omega)
            simpa [List.getD, List.getElem?_take_of_lt (show j < n by omega)] using this
          · rw [List.length_take] at hj
            have := e3.hi j (by omega)
            simpa [List.getD, List.getElem?_take_of_lt (show j < n by omega)] using this
          · have := e3.len; rw [List.length_take]; omega
        · rw [e] at hle; simp at hle; omega
      have hcv := txt_conv htk w1 (Below.refl _ _)
      have hdl : (st1.xs.drop n).length ≤ st1.xs.length := by simp
      have hsx : (strOfNums (st1.xs.take n)).size = n := by rw [size_str]; simp; omega
      generalize hS : strOfNums (st1.xs.take n) = S at *
      have HSX := Lib.hid hS
      by_cases hck : c = n
      · obtain rfl : st1.xs.length = n := by omega
        have HE := Lib.hid (H.out.wrote (st' := ⟨st1.xs.drop st1.xs.length, st1.bad⟩) (w' := w1.setCell ⟨C, 0, none⟩ (.slice (some ⟨b, o, none⟩) 0 0)) (by rw [hb0]; exact (wrote_refl HB.out).set 0 (.slice (some ⟨b, o, none⟩) 0 0)) (fun h => absurd hb0 h) hdl (by
            rw [List.drop_length]; exact .inr ⟨rfl, _, _, rfl, fun h => by cases h⟩) (Nat.le_refl _) (fun p e => by cases e; exact HP.out ⟨b, o, none⟩ rfl))
        subst hck
        clear hc hf K hb ht hcc hp hform htk hdl HT HB hS
        go_wp2_with fail
        refine KR.out.mono ?_
        rintro e w2 ⟨rfl, rfl⟩
        go_wp2
        go_ret
        rw [HSX.out]
        exact ⟨rfl, HE.out.1, HF.out.trans HE.out.2 (fun j hj => .inl hj)⟩
      · have hbh := HT.out.behind (k := n) (by omega) hcc
        rw [if_neg hck] at hbh
        have HE := Lib.hid (H.out.wrote (st' := ⟨st1.xs.drop n, st1.bad⟩) (w' := w1.setCell ⟨C, 0, none⟩ (.slice (some ⟨b, o + n, none⟩) (st1.xs.length - n) (c - n))) (by rw [hb0]; exact (wrote_refl HB.out).set 0 (.slice (some ⟨b, o + n, none⟩) (st1.xs.length - n) (c - n))) (fun h => absurd hb0 h) hdl hbh (by omega) (fun p e => by cases e; exact HP.out ⟨b, o, none⟩ rfl))
        have hkc : n ≤ c := by omega
        clear hc hf K hb ht hform htk hdl HT HB hp hS hbh
        go_wp2_with fail
        refine KR.out.mono ?_
        rintro e w2 ⟨rfl, rfl⟩
        go_wp2
        go_ret
        rw [HSX.out]
        exact ⟨rfl, HE.out.1, HF.out.trans HE.out.2 (fun j hj => .inl hj)⟩
end Go.Proofs.YtdfkfcpkejjlnaaDoor
namespace Go.Proofs.YtdfkfcpkejjlnaaDoor
set_option linter.unusedVariables false
open Go.ChangeShapes Go.WideShapes Go.ChangeAt Go.RowKit
attribute [local go_sem ↓] Go.wp_at_zero Go.wp_at_succ comesTo_value_eq comesTo_skip_eq comesTo_enter_eq

theorem OwnL.fr {w w' : World} {B : Nat} {v : Value} {l : List Int} {G : Nat → Prop} (h : OwnL w B v l) (hf : Fr G w w') (hG : ∀ j, B ≤ j → ¬ G j) : OwnL w' B v l := by
  refine ⟨h.1, ?_⟩
  rcases h.2 with hn | ⟨g, cap, cur, hv, hB, hg, rest⟩
  · exact .inl hn
  · refine .inr ⟨g, cap, cur, hv, hB, ?_, rest⟩
    rw [hf.block g (Array.getElem?_eq_some_iff.1 hg).1 (hG g hB)]; exact hg
theorem scan_less (xs : List Int) : ∀ (i u : Nat), (scan i u xs).2.1 = 0 → (scan i u xs).1.length < xs.length := by
  induction xs with
  | nil => intro i u h; simp [scan] at h
  | cons x xs ih =>
    intro i u h
    unfold scan at h ⊢
    split
    · rename_i h1; rw [if_pos h1] at h; simp at h
    · rename_i h1
      rw [if_neg h1] at h
      split
      · rename_i h2
        rw [if_pos h2] at h
        have := ih _ _ h
        simp; omega
      · rename_i h2
        rw [if_neg h2] at h
        split
        · rename_i h3; rw [if_pos h3] at h; simp at h
        · simp
theorem intF_less {st : CS} (h : st.bad = 0) (h' : (intF st).1.bad = 0) : (intF st).1.xs.length < st.xs.length := by
  unfold intF at *
  rw [if_pos h] at *
  exact scan_less _ _ _ h'
/-- so many numbers that are read, as long as nothing is wrong -/
def readN : Nat → CS → CS × List Int
  | 0, st => (st, [])
  | k + 1, st => if st.bad = 0 then ((readN k (intF st).1).1, (intF st).2 :: (readN k (intF st).1).2) else (st, [])
def intsF (st : CS) (most : Int) : CS × List Int :=
  if (readN (smallF st most).2.toNat (smallF st most).1).1.bad = 0 then readN (smallF st most).2.toNat (smallF st most).1 else ((readN (smallF st most).2.toNat (smallF st most).1).1, [])
theorem readN_succ (k : Nat) (st : CS) : readN (k + 1) st = if st.bad = 0 then ((readN k (intF st).1).1, (intF st).2 :: (readN k (intF st).1).2) else (st, []) := rfl
theorem readN_bad {st : CS} (h : st.bad ≠ 0) (k : Nat) : readN k st = (st, []) := by
  cases k with
  | zero => rfl
  | succ k => unfold readN; rw [if_neg h]
/-! ### a cursor that is nil -/
theorem rest_nil (w : World) : Calls Tryd.prog 30 #[.pointer none] w fun r w' => r = .returned (.int .i64 0) ∧ w = w' := by
  go_enter Tryd.func30, Tryd.ntmps30
  go_wp2
  go_ret
  exact ⟨rfl, rfl⟩
theorem bad_nil (w : World) : Calls Tryd.prog 35 #[.pointer none] w fun r w' => r = .returned (.int .i64 0) ∧ Below w.heap.size w w' := by
  have hA := below_alloc (Below.refl _ w) (.cells #[.int .i64 0] 44)
  go_enter Tryd.func35, Tryd.ntmps35
  go_wp2
  go_ret
  exact ⟨rfl, hA⟩
theorem int_nil (w : World) : Calls Tryd.prog 34 #[.pointer none] w fun r w' => r = .returned (.int .i64 0) ∧ w = w' := by
  go_enter Tryd.func34, Tryd.ntmps34
  go_wp2
  go_ret
  exact ⟨rfl, rfl⟩
theorem fail_nil (e : Int) (w : World) : Calls Tryd.prog 51 #[.pointer none, .int .i64 e] w fun r w' => r = .returned (.int .i64 0) ∧ w = w' := by
  go_enter Tryd.func51, Tryd.ntmps51
  go_wp2
  go_ret
  exact ⟨rfl, rfl⟩
theorem small_nil (most : Int) (w : World) : Calls Tryd.prog 31 #[.pointer none, .int .i64 most] w fun r w' => r = .returned (.int .i64 0) ∧ w = w' := by
  have KI := Lib.hid (int_nil w)
  have KF := Lib.hid (fail_nil 2 w)
  by_cases h : most < 0
  · have hd : decide ((0 : Int) > most) = true := decide_eq_true h
    go_enter Tryd.func31, Tryd.ntmps31
    go_wp2_with fail
    refine KI.out.mono ?_
    rintro e w' ⟨rfl, rfl⟩
    go_wp2_with fail
    refine KF.out.mono ?_
    rintro e w' ⟨rfl, rfl⟩
    go_wp2
    go_ret
    exact ⟨rfl, rfl⟩
  · have hd : decide ((0 : Int) > most) = false := decide_eq_false h
    go_enter Tryd.func31, Tryd.ntmps31
    go_wp2_with fail
    refine KI.out.mono ?_
    rintro e w' ⟨rfl, rfl⟩
    go_wp2
    go_ret
    exact ⟨rfl, rfl⟩
theorem text_nil (w : World) : Calls Tryd.prog 33 #[.pointer none] w fun r w' => r = .returned (.string .empty) ∧ w = w' := by
  have KS := Lib.hid (small_nil 65536 w)
  have KR := Lib.hid (rest_nil w)
  go_enter Tryd.func33, Tryd.ntmps33
  go_wp2_with fail
  refine KS.out.mono ?_
  rintro e w' ⟨rfl, rfl⟩
  go_wp2_with fail
  refine KR.out.mono ?_
  rintro e w' ⟨rfl, rfl⟩
  go_wp2
  go_ret
  exact ⟨rfl, rfl⟩
end Go.Proofs.YtdfkfcpkejjlnaaDoor
namespace Go.Proofs.YtdfkfcpkejjlnaaDoor
set_option linter.unusedVariables false
open Go.ChangeShapes Go.WideShapes Go.ChangeAt Go.RowKit Go.Lib
attribute [local go_sem ↓] Go.wp_at_zero Go.wp_at_succ comesTo_value_eq comesTo_skip_eq comesTo_enter_eq

set_option maxRecDepth 100000 in
theorem layInt_any {w : World} {B : Nat} {v : Value} {xs : List Int} (h : OwnTxt w B v xs) (hB : B ≤ w.heap.size) (hl : xs.length ≤ 1099511627776) {n : Int} (hn : -9223372036854775808 ≤ n ∧ n ≤ 9223372036854775807) :
    Calls Tryd.prog 49 #[v, .int .i64 n] w fun e w' => ∃ u, e = .returned u ∧ OwnTxt w' B u (xs ++ putI n) ∧ Below B w w' := by
  have K := Lib.hid (fold_any hn w)
  have h64 := fold_lt hn
  have hlen := putI_len hn
  have HO := Lib.hid h
  clear h
  unfold putI at *
  generalize foldF n = u0 at *
  go_enter Tryd.func49, Tryd.ntmps49
  go_wp2_with fail
  refine K.out.mono ?_
  rintro e w' ⟨rfl, rfl⟩
  have HL := Lib.hid hlen
  clear hlen
  go_wp2_with fail
  go_loopw [0, 5] (fun b r wr => ∃ (v' : Value) (acc : List Int) (u : Nat), b = v' ∧ r = .int .u64 (u : Int) ∧ u < 18446744073709551616 ∧ acc ++ putU u = putU u0 ∧ OwnTxt wr B v' (xs ++ acc) ∧ Below B w wr) (fun _ r _ => (intOf r).toNat)
  case atStart => exact ⟨v, [], u0, rfl, rfl, h64, rfl, by rw [List.append_nil]; exact HO.out, Below.refl _ _⟩
  case round =>
    clear HO
    obtain ⟨v', acc, u, rfl, rfl, hu, hacc, ho, hb⟩ := hrel
    have HA := Lib.hid hacc
    have HB := Lib.hid hb
    have hal : acc.length + (putU u).length ≤ 10 := by
      have := HL.out
      rw [← hacc, List.length_append] at this
      exact this
    clear hacc hb
    by_cases h128 : u < 128
    · have hq : decide ((u : Int) ≥ 128) = false := decide_eq_false (by omega)
      have hw : IntKind.u8.wrap (u : Int) = (u : Int) := by rw [IntKind.wrap_u8']; omega
      have hA1 := below_alloc (Below.refl _ wr) (.cells #[.int .u8 (u : Int)] 5)
      have HO1 := Lib.hid (ho.below hA1)
      have HT1 := Lib.hid (byte_txt (World.alloc_heap_new wr (.cells #[.int .u8 (u : Int)] 5)) (by omega))
      have HA1 := Lib.hid hA1
      rw [putU_lt h128] at HA
      have h9 : (xs ++ acc).length + 1 ≤ 140737488355328 := by
        have := putU_len u
        simp; omega
      have hBA : B ≤ (wr.alloc (.cells #[.int .u8 (u : Int)] 5)).heap.size := Nat.le_trans hB (Nat.le_trans HB.out.size HA1.out.size)
      have HF := Lib.hid (HB.out.trans (HA1.out.mono (Nat.le_trans hB HB.out.size)))
      clear ho hA1 hal h128
      go_wp2_with (at_builtin; go_loud (refine wpList_append_txt (by rfl) _ _ (by rfl) B u0 (xs ++ acc) (by rfl) HO1.out _ [(u : Int)] (by rfl) HT1.out (by simpa using h9) hBA ?_; intro ad n' c' w1 o1 b1 g1; have O1 := Lib.hid o1; have B1 := Lib.hid b1; clear o1 b1 g1))
      go_ret
      refine ⟨_, rfl, ?_, HF.out.trans B1.out⟩
      rw [← HA.out, ← List.append_assoc]
      exact O1.out
    · have hq : decide ((u : Int) ≥ 128) = true := decide_eq_true (by omega)
      have hor := or_more u
      have hA1 := below_alloc (Below.refl _ wr) (.cells #[.int .u8 ((u % 128 + 128 : Nat) : Int)] 5)
      have HO1 := Lib.hid (ho.below hA1)
      have HT1 := Lib.hid (byte_txt (World.alloc_heap_new wr (.cells #[.int .u8 ((u % 128 + 128 : Nat) : Int)] 5)) (by omega))
      have HA1 := Lib.hid hA1
      rw [putU_ge h128] at HA
      have h9 : (xs ++ acc).length + 1 ≤ 140737488355328 := by simp; omega
      have hBA : B ≤ (wr.alloc (.cells #[.int .u8 ((u % 128 + 128 : Nat) : Int)] 5)).heap.size := Nat.le_trans hB (Nat.le_trans HB.out.size HA1.out.size)
      have HF := Lib.hid (HB.out.trans (HA1.out.mono (Nat.le_trans hB HB.out.size)))
      have HM := Lib.hid (show u / 128 < u ∧ u / 128 < 18446744073709551616 by omega)
      generalize u % 128 + 128 = y at *
      clear ho hA1 hal h128
      go_wp2_with (at_builtin; go_loud (refine wpList_append_txt (by rfl) _ _ (by rfl) B u0 (xs ++ acc) (by rfl) HO1.out _ [(y : Int)] (by rfl) HT1.out (by simpa using h9) hBA ?_; intro ad n' c' w1 o1 b1 g1; have O1 := Lib.hid o1; have B1 := Lib.hid b1; clear o1 b1 g1))
      go_roundw
      case rel => exact ⟨_, acc ++ [(y : Int)], u / 128, rfl, by rw [Int.natCast_ediv]; rfl, HM.out.2, by rw [List.append_assoc]; exact HA.out, by rw [← List.append_assoc]; exact O1.out, HF.out.trans B1.out⟩
      case measure => have := HM.out.1; simp [intOf]; omega

theorem strCells_bytes (s : ByteArray) : strCells s = cellsOf8 (bytesOf s) := by
  unfold strCells cellsOf8 bytesOf
  simp
theorem bytesOf_in (s : ByteArray) : ∀ x ∈ bytesOf s, 0 ≤ x ∧ x ≤ 255 := by
  intro x hx
  obtain ⟨y, _, rfl⟩ := List.mem_map.1 hx
  have := y.toNat_lt
  omega
theorem getD_in {xs : List Int} (h : ∀ x ∈ xs, 0 ≤ x ∧ x ≤ 255) (k : Nat) (hk : k < xs.length) : 0 ≤ xs.getD k 0 ∧ xs.getD k 0 ≤ 255 := by
  have := h _ (List.getElem_mem hk)
  simpa [List.getD, List.getElem?_eq_getElem hk] using this
theorem OwnTxt.mem {w : World} {B : Nat} {v : Value} {xs : List Int} (h : OwnTxt w B v xs) : ∀ x ∈ xs, 0 ≤ x ∧ x ≤ 255 := by
  intro x hx
  obtain ⟨k, hk, rfl⟩ := List.mem_iff_getElem.1 hx
  have h1 := h.lo k hk
  have h2 := h.hi k hk
  simp [List.getD, List.getElem?_eq_getElem hk] at h1 h2
  exact ⟨h1, h2⟩
/-- a text behind bytes -/
theorem puttext_any {w : World} {v : Value} {xs : List Int} (h : TxtAt w v xs) (hl : xs.length ≤ 1099511627776) (s : ByteArray) (hs : s.size ≤ 1099511627776) :
    Calls Tryd.prog 24 #[v, .string s] w fun e w' => ∃ u, e = .returned u ∧ OwnTxt w' w.heap.size u (xs ++ putTx (bytesOf s)) ∧ Below w.heap.size w w' := by
  have K := Lib.hid (clone_bytes h (by omega))
  clear h
  obtain ⟨i0, hi, hz0, hz1, hz2⟩ := info_parts info_u8
  have HI := Lib.hid hi
  clear hi
  go_enter Tryd.func24, Tryd.ntmps24
  go_wp2_with fail
  refine K.out.mono ?_
  rintro e w1 ⟨u, rfl, ho, hb, _⟩
  have KL := Lib.hid (layInt_any (n := (s.size : Int)) ho hb.size hl (by omega))
  have HB := Lib.hid hb
  clear ho hb K
  go_wp2_with fail
  refine KL.out.mono ?_
  rintro e w2 ⟨u2, rfl, ho2, hb2⟩
  have HO2 := Lib.hid ho2
  have HB2 := Lib.hid (HB.out.trans hb2)
  have hlen := putI_len (v := (s.size : Int)) (by omega)
  have h63 : (xs ++ putI s.size).length + s.size ≤ 140737488355328 := by simp; omega
  have h64 : (xs ++ putI s.size).length + s.size ≤ maxLen := by unfold maxLen; omega
  have hsz := hb2.size
  have hsz2 := HB.out.size
  have hby : ∀ x ∈ (xs ++ putI s.size) ++ bytesOf s, 0 ≤ x ∧ x ≤ 255 := fun x hx => by
    rcases List.mem_append.1 hx with hx | hx
    · exact ho2.mem x hx
    · exact bytesOf_in s x hx
  have HBY := Lib.hid hby
  clear ho2 hb2 hlen hby
  go_wp2_with (at_builtin; go_loud (refine Lib.wpList_append_own_string _ (by rfl) _ _ 40 9 (by rfl) w.heap.size 5 i0 Tryd.underlying40 Tryd.underlying9 HI.out hz0 hz1 hz2 u2 _ _ (by rfl) HO2.out.own s (by rfl) h64 h63 (by omega) ?_; intro v5 w5 o5 b5 _; have O5 := Lib.hid o5; have B5 := Lib.hid b5; clear o5 b5))
  go_ret
  have e : xs ++ putTx (bytesOf s) = xs ++ putI s.size ++ bytesOf s := by unfold putTx; rw [bytesOf_length, List.append_assoc]
  rw [e]
  refine ⟨_, rfl, ⟨?_, fun k hk => (getD_in HBY.out k hk).1, fun k hk => (getD_in HBY.out k hk).2⟩, HB2.out.trans (Below.grown (Below.refl _ _) B5.out (by have := hsz; have := hsz2; omega) fun k hk => HO2.out.blockGe hk)⟩
  have o := O5.out
  rw [strCells_bytes, ← cellsOf8_append] at o
  have el : (xs ++ putI s.size ++ bytesOf s).length = (xs ++ putI s.size).length + s.size := by simp [bytesOf_length, Nat.add_assoc]
  rw [el]
  exact o
theorem flat_len : ∀ (m : List Int), (∀ x ∈ m, -9223372036854775808 ≤ x ∧ x ≤ 9223372036854775807) → (m.flatMap putI).length ≤ 10 * m.length
  | [], _ => by simp
  | x :: m, hm => by
    have h1 := flat_len m fun y hy => hm y (List.mem_cons_of_mem _ hy)
    have h2 := putI_len (hm x List.mem_cons_self)
    simp only [List.flatMap_cons, List.length_append, List.length_cons]
    omega
end Go.Proofs.YtdfkfcpkejjlnaaDoor
namespace Go.Proofs.YtdfkfcpkejjlnaaDoor
set_option linter.unusedVariables false
open Go.ChangeShapes Go.WideShapes Go.ChangeAt Go.RowKit Go.Lib
attribute [local go_sem ↓] Go.wp_at_zero Go.wp_at_succ comesTo_value_eq comesTo_skip_eq comesTo_enter_eq

theorem put_m1 : putI (-1) = [1] := by unfold putI; rw [show foldF (-1) = 1 from by decide, putU_lt (by decide)]; rfl
theorem put_64 : putI 64 = [128, 1] := by unfold putI; rw [show foldF 64 = 128 from by decide, putU_ge (by decide), putU_lt (by decide)]; rfl
theorem one_i1 : intF ⟨[1, 128, 1], 0⟩ = (⟨[128, 1], 0⟩, -1) := by rfl
theorem one_i2 : intF ⟨[128, 1], 0⟩ = (⟨[], 0⟩, 64) := by rfl
end Go.Proofs.YtdfkfcpkejjlnaaDoor
namespace Go.Proofs.YtdfkfcpkejjlnaaDoor
set_option linter.unusedVariables false
open Go Go.RowKit

theorem intF_put {v : Int} (h : -9223372036854775808 ≤ v ∧ v ≤ 9223372036854775807) (ys : List Int) : intF ⟨putI v ++ ys, 0⟩ = (⟨ys, 0⟩, v) := by
  unfold intF
  rw [if_pos rfl]
  simp only [scan_putI h]
theorem smallF_put {n most : Int} (h0 : 0 ≤ n) (h1 : n ≤ most) (h2 : n ≤ 9223372036854775807) (ys : List Int) : smallF ⟨putI n ++ ys, 0⟩ most = (⟨ys, 0⟩, n) := by
  unfold smallF
  rw [intF_put (by omega)]
  rw [if_neg (by simp only; omega)]
theorem textF_put {bs : List Int} (h : bs.length ≤ 65536) (ys : List Int) : textF ⟨putTx bs ++ ys, 0⟩ = (⟨ys, 0⟩, bs) := by
  unfold textF putTx
  rw [List.append_assoc, smallF_put (by omega) (by omega) (by omega)]
  simp only
  rw [if_neg (by simp; omega)]
  simp
theorem readN_put : ∀ (l : List Int) (j : Nat) (ys : List Int), (∀ x ∈ l, -9223372036854775808 ≤ x ∧ x ≤ 9223372036854775807) → readN (l.length + j) ⟨l.flatMap putI ++ ys, 0⟩ = ((readN j ⟨ys, 0⟩).1, l ++ (readN j ⟨ys, 0⟩).2)
  | [], j, ys, _ => by simp
  | x :: l, j, ys, h => by
    rw [show (x :: l).length + j = (l.length + j) + 1 by simp; omega, readN_succ, if_pos rfl, List.flatMap_cons, List.append_assoc, intF_put (h x List.mem_cons_self)]
    simp only
    rw [readN_put l j ys fun y hy => h y (List.mem_cons_of_mem _ hy)]
    simp
theorem intsF_put {l : List Int} (hl : ∀ x ∈ l, -9223372036854775808 ≤ x ∧ x ≤ 9223372036854775807) {most : Int} (h : (l.length : Int) ≤ most) (h2 : (l.length : Int) ≤ 9223372036854775807) (ys : List Int) : intsF ⟨putL l ++ ys, 0⟩ most = (⟨ys, 0⟩, l) := by
  have h1 := smallF_put (n := (l.length : Int)) (most := most) (by omega) h h2 (l.flatMap putI ++ ys)
  have h3 := readN_put l 0 ys hl
  unfold intsF putL
  rw [List.append_assoc, h1]
  simp only [Int.toNat_natCast]
  rw [Nat.add_zero] at h3
  rw [h3]
  simp [readN]
theorem intF_cut {v : Int} (h : -9223372036854775808 ≤ v ∧ v ≤ 9223372036854775807) {k : Nat} (hk : k < (putI v).length) : intF ⟨(putI v).take k, 0⟩ = (⟨[], 10⟩, 0) := by
  unfold intF
  rw [if_pos rfl]
  have := scan_cut (foldF v) 0 0 k (by decide) (by simpa using fold_lt h) hk
  simp only [show (putI v).take k = (putU (foldF v)).take k from rfl, this]
theorem smallF_cut {v : Int} (h : -9223372036854775808 ≤ v ∧ v ≤ 9223372036854775807) {k : Nat} (hk : k < (putI v).length) (most : Int) : smallF ⟨(putI v).take k, 0⟩ most = (⟨[], 10⟩, 0) := by
  unfold smallF
  rw [intF_cut h hk]
  split <;> rfl
theorem putI_pos (v : Int) : 1 ≤ (putI v).length := putU_len _
theorem intsF_cut {l : List Int} (hl : ∀ x ∈ l, -9223372036854775808 ≤ x ∧ x ≤ 9223372036854775807) {most : Int} (h : (l.length : Int) ≤ most) (h2 : (l.length : Int) ≤ 9223372036854775807) : intsF ⟨(putL l).take ((putL l).length - 1), 0⟩ most = (⟨[], 10⟩, []) := by
  rcases List.eq_nil_or_concat l with rfl | ⟨i, x, rfl⟩
  · have e : putL [] = putI 0 := by unfold putL; simp
    rw [e]
    unfold intsF
    rw [smallF_cut (by decide) (by have := putI_pos 0; omega)]
    rfl
  · rw [List.concat_eq_append] at *
    have hx : -9223372036854775808 ≤ x ∧ x ≤ 9223372036854775807 := hl x (by simp)
    have hi : ∀ y ∈ i, -9223372036854775808 ≤ y ∧ y ≤ 9223372036854775807 := fun y hy => hl y (by simp [hy])
    have hp := putI_pos x
    have e : (putL (i ++ [x])).take ((putL (i ++ [x])).length - 1) = putI ((i ++ [x]).length : Int) ++ (i.flatMap putI ++ (putI x).take ((putI x).length - 1)) := by
      unfold putL
      rw [List.flatMap_append, show [x].flatMap putI = putI x by simp, ← List.append_assoc, ← List.append_assoc]
      generalize putI ((i ++ [x]).length : Int) ++ i.flatMap putI = A
      rw [List.take_append, List.length_append, List.take_of_length_le (by omega), show A.length + (putI x).length - 1 - A.length = (putI x).length - 1 by omega]
    have h1 := smallF_put (n := ((i ++ [x]).length : Int)) (most := most) (by omega) h h2 (i.flatMap putI ++ (putI x).take ((putI x).length - 1))
    have h3 := readN_put i 1 ((putI x).take ((putI x).length - 1)) hi
    have hc : readN 1 ⟨(putI x).take ((putI x).length - 1), 0⟩ = (⟨[], 10⟩, [0]) := by
      rw [readN_succ, if_pos rfl, intF_cut hx (by omega)]
      rfl
    rw [hc] at h3
    unfold intsF
    rw [e, h1]
    simp only [Int.toNat_natCast]
    rw [show (i ++ [x]).length = i.length + 1 by simp, h3]
    simp
theorem str_bytes (s : ByteArray) : strOfNums (bytesOf s) = s := by
  refine bytesOf_inj ?_
  have := bytesOf_in s
  exact bytesOf_str _ (fun k hk => (getD_in this k hk).1) (fun k hk => (getD_in this k hk).2)
theorem putI_mem (v : Int) : ∀ x ∈ putI v, 0 ≤ x ∧ x ≤ 255 := putU_bytes _
theorem strOf_inj {xs ys : List Int} (hx : ∀ x ∈ xs, 0 ≤ x ∧ x ≤ 255) (hy : ∀ x ∈ ys, 0 ≤ x ∧ x ≤ 255) (h : strOfNums xs = strOfNums ys) : xs = ys := by
  have h1 := bytesOf_str xs (fun k hk => (getD_in hx k hk).1) (fun k hk => (getD_in hx k hk).2)
  have h2 := bytesOf_str ys (fun k hk => (getD_in hy k hk).1) (fun k hk => (getD_in hy k hk).2)
  rw [← h1, h, h2]
end Go.Proofs.YtdfkfcpkejjlnaaDoor
namespace Go.Proofs.YtdfkfcpkejjlnaaDoor
set_option linter.unusedVariables false
open Go.ChangeShapes Go.WideShapes Go.ChangeAt Go.RowKit

/-- a command's numbers: what is held is 0 or 1 -/
structure Cmd12 (xs : List Int) : Prop where
  len : xs.length = 12
  last : xs.getD 11 0 = 0 ∨ xs.getD 11 0 = 1
  inb : ∀ x ∈ xs, -9223372036854775808 ≤ x ∧ x ≤ 9223372036854775807
def numC (xs : List Int) : List Value := xs.map (.int .i64)
def cmdC (xs : List Int) : List Value := (xs.take 11).map (.int .i64) ++ [.bool (xs.getD 11 0 == 1)]
theorem cmdC_len {xs : List Int} (h : xs.length = 12) : (cmdC xs).length = 12 := by simp [cmdC, h]
theorem numC_len (xs : List Int) : (numC xs).length = xs.length := by simp [numC]
theorem numC_at {xs : List Int} {i : Nat} (h : i < xs.length) : (numC xs)[i]? = some (.int .i64 (xs.getD i 0)) := by simp [numC, List.getD, h]
theorem cmdC_kind {xs : List Int} (h : xs.length = 12) : (cmdC xs)[0]? = some (.int .i64 (xs.getD 0 0)) := by
  rcases xs with _ | ⟨x, xs⟩
  · simp at h
  · rfl
theorem twelve {xs : List Int} (h : xs.length = 12) : ∃ x0 x1 x2 x3 x4 x5 x6 x7 x8 x9 x10 x11, xs = [x0, x1, x2, x3, x4, x5, x6, x7, x8, x9, x10, x11] := by
  rcases xs with _ | ⟨x0, _ | ⟨x1, _ | ⟨x2, _ | ⟨x3, _ | ⟨x4, _ | ⟨x5, _ | ⟨x6, _ | ⟨x7, _ | ⟨x8, _ | ⟨x9, _ | ⟨x10, _ | ⟨x11, _ | ⟨x12, xs⟩⟩⟩⟩⟩⟩⟩⟩⟩⟩⟩⟩⟩ <;> simp at h
  exact ⟨x0, x1, x2, x3, x4, x5, x6, x7, x8, x9, x10, x11, rfl⟩
theorem laid_c {xs : List Int} (h : Cmd12 xs) (w : World) : Calls Tryd.prog 40 #[.agg (cmdC xs).toArray] w fun e w' => e = .returned (.agg (numC xs).toArray) ∧ Below w.heap.size w w' := by
  obtain ⟨x0, x1, x2, x3, x4, x5, x6, x7, x8, x9, x10, x11, rfl⟩ := twelve h.len
  have hl := h.last
  refine (laid_any x0 x1 x2 x3 x4 x5 x6 x7 x8 x9 x10 (x11 == 1) w).mono fun e w' hh => ?_
  rw [show heldN (x11 == 1) = x11 by
    rcases (show x11 = 0 ∨ x11 = 1 from hl) with rfl | rfl <;> rfl] at hh
  exact hh
theorem of_c {xs : List Int} (h : xs.length = 12) (w : World) : Calls Tryd.prog 46 #[.agg (numC xs).toArray] w fun e w' => e = .returned (.agg (cmdC xs).toArray) ∧ Below w.heap.size w w' := by
  obtain ⟨x0, x1, x2, x3, x4, x5, x6, x7, x8, x9, x10, x11, rfl⟩ := twelve h
  exact cmdof12_any x0 x1 x2 x3 x4 x5 x6 x7 x8 x9 x10 x11 (x11 == 1) rfl w

/-- which fields count -/
def cntN (k : Nat) : List Nat := [[], [2, 3, 4, 5, 6, 9, 11], [1], [1], [1], [1, 9], [3, 9, 10, 4], [3, 1], [3, 4], [3], [9], [3, 7, 8], [1]].getD k []
theorem cnt_cases (k : Nat) : (k = 0 ∨ 12 < k) ∧ cntN k = [] ∨ k = 1 ∨ k = 2 ∨ k = 3 ∨ k = 4 ∨ k = 5 ∨ k = 6 ∨ k = 7 ∨ k = 8 ∨ k = 9 ∨ k = 10 ∨ k = 11 ∨ k = 12 := by
  rcases Nat.lt_or_ge 12 k with h | h
  · exact .inl ⟨.inr h, by unfold cntN; rw [List.getD_eq_getElem?_getD, List.getElem?_eq_none (by simp; omega)]; rfl⟩
  · rcases (by omega : k = 0 ∨ 1 ≤ k) with rfl | h1
    · exact .inl ⟨.inl rfl, rfl⟩
    · right; omega
theorem cntF_eq (k : Nat) : cntF k = (cntN k).map fun (f : Nat) => (f : Int) := by
  rcases Nat.lt_or_ge 12 k with h | h
  · unfold cntF cntN
    rw [List.getD_eq_getElem?_getD, List.getElem?_eq_none (by simp; omega), List.getD_eq_getElem?_getD, List.getElem?_eq_none (by simp; omega)]
    rfl
  · have := of_decide_eq_true (show decide (∀ k : Nat, k < 13 → cntF k = (cntN k).map fun (f : Nat) => (f : Int)) = true by decide +kernel)
    exact this k (by omega)
theorem cntN_in (k : Nat) : ∀ f ∈ cntN k, 1 ≤ f ∧ f ≤ 11 := by
  rcases Nat.lt_or_ge 12 k with h | h
  · unfold cntN
    rw [List.getD_eq_getElem?_getD, List.getElem?_eq_none (by simp; omega)]
    intro f hf; cases hf
  · have := of_decide_eq_true (show decide (∀ k : Nat, k < 13 → ∀ f ∈ cntN k, 1 ≤ f ∧ f ≤ 11) = true by decide +kernel)
    exact this k (by omega)
theorem cntN_len (k : Nat) : (cntN k).length ≤ 7 := by
  rcases Nat.lt_or_ge 12 k with h | h
  · unfold cntN
    rw [List.getD_eq_getElem?_getD, List.getElem?_eq_none (by simp; omega)]
    decide
  · have := of_decide_eq_true (show decide (∀ k : Nat, k < 13 → (cntN k).length ≤ 7) = true by decide +kernel)
    exact this k (by omega)

/-- the numbers of some fields alone, beside the kind -/
def partL (xs : List Int) (fs : List Nat) : List Int := (List.range 12).map fun i => if i = 0 then xs.getD 0 0 else if i ∈ fs then xs.getD i 0 else 0
theorem partL_len (xs : List Int) (fs : List Nat) : (partL xs fs).length = 12 := by simp [partL]
theorem partL_get {xs : List Int} {fs : List Nat} {i : Nat} (h : i < 12) : (partL xs fs).getD i 0 = if i = 0 then xs.getD 0 0 else if i ∈ fs then xs.getD i 0 else 0 := by
  unfold partL
  rw [List.getD_eq_getElem?_getD, List.getElem?_map, List.getElem?_range h]
  rfl
theorem partL_nil (xs : List Int) : partL xs [] = [xs.getD 0 0, 0, 0, 0, 0, 0, 0, 0, 0, 0, 0, 0] := by
  unfold partL
  simp [List.range_succ]
theorem partL_set {xs : List Int} {fs : List Nat} {f : Nat} (h1 : 1 ≤ f) (h2 : f ≤ 11) : (partL xs fs).set f (xs.getD f 0) = partL xs (fs ++ [f]) := by
  apply List.ext_getElem?
  intro i
  rw [List.getElem?_set]
  unfold partL
  simp only [List.length_map, List.length_range, List.getElem?_map]
  by_cases hi : i < 12
  · rw [List.getElem?_range hi]
    by_cases he : f = i
    · subst he
      rw [if_pos rfl, if_pos hi]
      simp only [Option.map_some]
      rw [if_neg (by omega), if_pos (by simp)]
    · rw [if_neg he]
      simp only [Option.map_some, List.mem_append, List.mem_singleton]
      have : (i ∈ fs ∨ i = f) ↔ i ∈ fs := ⟨fun h => h.resolve_right fun e => he e.symm, .inl⟩
      simp only [this]
  · rw [List.getElem?_eq_none (by simp; omega)]
    by_cases he : f = i
    · omega
    · rw [if_neg he]; rfl
def kindB (xs : List Int) : Bool := decide (1 ≤ xs.getD 0 0) && decide (xs.getD 0 0 ≤ 12)
def kN (xs : List Int) : Nat := (xs.getD 0 0).toNat
/-- a command without what does not count -/
def cleanL (xs : List Int) : List Int := if kindB xs = true then partL xs (cntN (kN xs)) else List.replicate 12 0
theorem cleanL_len (xs : List Int) : (cleanL xs).length = 12 := by unfold cleanL; split; exact partL_len _ _; simp
theorem getD_inb {xs : List Int} (h : ∀ x ∈ xs, -9223372036854775808 ≤ x ∧ x ≤ 9223372036854775807) (i : Nat) : -9223372036854775808 ≤ xs.getD i 0 ∧ xs.getD i 0 ≤ 9223372036854775807 := by
  rw [List.getD_eq_getElem?_getD]
  by_cases hi : i < xs.length
  · rw [List.getElem?_eq_getElem hi]; exact h _ (List.getElem_mem hi)
  · rw [List.getElem?_eq_none (by omega)]; decide
theorem partL_cmd {xs : List Int} (h : Cmd12 xs) (fs : List Nat) : Cmd12 (partL xs fs) := by
  refine ⟨partL_len _ _, ?_, ?_⟩
  · rw [partL_get (by decide), if_neg (by decide)]
    split
    · exact h.last
    · exact .inl rfl
  · intro x hx
    unfold partL at hx
    obtain ⟨i, _, rfl⟩ := List.mem_map.1 hx
    have h0 := getD_inb h.inb 0
    have hi := getD_inb h.inb i
    split
    · exact h0
    · split
      · exact hi
      · decide
theorem zeros_cmd : Cmd12 (List.replicate 12 0) := ⟨rfl, .inl rfl, by decide⟩
theorem cleanL_cmd {xs : List Int} (h : Cmd12 xs) : Cmd12 (cleanL xs) := by
  unfold cleanL
  split
  · exact partL_cmd h _
  · exact zeros_cmd
theorem kindB_clean (xs : List Int) : (cleanL xs).getD 0 0 = if kindB xs = true then xs.getD 0 0 else 0 := by
  unfold cleanL
  split
  · rw [partL_get (by decide), if_pos rfl]
  · rfl
theorem kind_clean (xs : List Int) : kindB (cleanL xs) = kindB xs := by
  have h := kindB_clean xs
  cases hk : kindB xs with
  | true =>
    rw [hk, if_pos rfl] at h
    unfold kindB at hk ⊢
    rw [h]; exact hk
  | false =>
    rw [hk, if_neg (by decide)] at h
    unfold kindB
    rw [h]; rfl
theorem clean_get {xs : List Int} (hk : kindB xs = true) {i : Nat} (hi : i < 12) : (cleanL xs).getD i 0 = if i = 0 then xs.getD 0 0 else if i ∈ cntN (kN xs) then xs.getD i 0 else 0 := by
  unfold cleanL
  rw [if_pos hk, partL_get hi]
theorem list_ext12 {a b : List Int} (ha : a.length = 12) (hb : b.length = 12) (h : ∀ i, i < 12 → a.getD i 0 = b.getD i 0) : a = b := by
  apply List.ext_getElem?
  intro i
  by_cases hi : i < 12
  · have := h i hi
    rw [List.getD_eq_getElem?_getD, List.getD_eq_getElem?_getD, List.getElem?_eq_getElem (by omega), List.getElem?_eq_getElem (by omega)] at this
    rw [List.getElem?_eq_getElem (by omega), List.getElem?_eq_getElem (by omega)]
    exact congrArg some this
  · rw [List.getElem?_eq_none (by omega), List.getElem?_eq_none (by omega)]
theorem clean_clean (xs : List Int) : cleanL (cleanL xs) = cleanL xs := by
  cases hk : kindB xs with
  | false =>
    have h1 : cleanL xs = List.replicate 12 0 := by unfold cleanL; rw [hk, if_neg (by decide)]
    rw [h1]
    rfl
  | true =>
    have hk2 : kindB (cleanL xs) = true := by rw [kind_clean, hk]
    have hkn : kN (cleanL xs) = kN xs := by unfold kN; rw [kindB_clean, hk, if_pos rfl]
    refine list_ext12 (cleanL_len _) (cleanL_len _) fun i hi => ?_
    rw [clean_get hk2 hi, hkn, clean_get hk hi, clean_get hk (by decide)]
    by_cases h0 : i = 0
    · subst h0; rfl
    · rw [if_neg h0, if_neg h0]
      split <;> rfl
/-- whether one may be -/
def rightL (xs : List Int) : Bool := kindB xs && (cntN (kN xs)).all fun f => decide ((bndF (xs.getD 0 0) f).1 ≤ xs.getD f 0) && decide (xs.getD f 0 ≤ (bndF (xs.getD 0 0) f).2)
theorem right_clean (xs : List Int) : rightL (cleanL xs) = rightL xs := by
  unfold rightL
  rw [kind_clean]
  cases hk : kindB xs with
  | false => rfl
  | true =>
    have h0 : (cleanL xs).getD 0 0 = xs.getD 0 0 := by rw [kindB_clean, hk, if_pos rfl]
    have hkn : kN (cleanL xs) = kN xs := by unfold kN; rw [h0]
    rw [hkn, h0]
    congr 1
    rw [Bool.eq_iff_iff, List.all_eq_true, List.all_eq_true]
    refine forall_congr' fun f => forall_congr' fun hf => ?_
    have hb := cntN_in _ f hf
    rw [clean_get hk (by omega), if_neg (by omega), if_pos hf]
/-- the bytes -/
def putC (xs : List Int) : List Int := (cleanL xs).flatMap putI
/-- what is read: numbers, or none -/
def ysC (bs : List Int) : List Int := (readN 12 ⟨bs, 0⟩).2 ++ List.replicate (12 - (readN 12 ⟨bs, 0⟩).2.length) 0
def nzC (ys : List Int) : List Int := ys.take 11 ++ [if ys.getD 11 0 = 1 then 1 else 0]
def readB (bs : List Int) : Bool := (endF (readN 12 ⟨bs, 0⟩).1 == 0) && rightL (nzC (ysC bs)) && decide (cleanL (nzC (ysC bs)) = ysC bs)
theorem readN_len : ∀ (k : Nat) (st : CS), (readN k st).2.length ≤ k
  | 0, st => by simp [readN]
  | k + 1, st => by
    rw [readN_succ]
    split
    · have := readN_len k (intF st).1; simp; omega
    · simp
theorem ysC_len (bs : List Int) : (ysC bs).length = 12 := by
  have := readN_len 12 ⟨bs, 0⟩
  unfold ysC
  simp; omega
theorem nzC_len {ys : List Int} (h : ys.length = 12) : (nzC ys).length = 12 := by simp [nzC, h]
theorem nzC_cmd {ys : List Int} (h : ys.length = 12) (hi : ∀ x ∈ ys, -9223372036854775808 ≤ x ∧ x ≤ 9223372036854775807) : Cmd12 (nzC ys) := by
  obtain ⟨x0, x1, x2, x3, x4, x5, x6, x7, x8, x9, x10, x11, rfl⟩ := twelve h
  refine ⟨rfl, ?_, ?_⟩
  · show (if x11 = 1 then (1 : Int) else 0) = 0 ∨ (if x11 = 1 then (1 : Int) else 0) = 1
    split
    · exact .inr rfl
    · exact .inl rfl
  · intro x hx
    unfold nzC at hx
    rcases List.mem_append.1 hx with hx | hx
    · exact hi x (List.mem_of_mem_take hx)
    · rw [List.mem_singleton.1 hx]
      split <;> decide
theorem nzC_same {ys : List Int} (h : ys.length = 12) (hl : ys.getD 11 0 = 0 ∨ ys.getD 11 0 = 1) : nzC ys = ys := by
  obtain ⟨x0, x1, x2, x3, x4, x5, x6, x7, x8, x9, x10, x11, rfl⟩ := twelve h
  show [x0, x1, x2, x3, x4, x5, x6, x7, x8, x9, x10, if x11 = 1 then 1 else 0] = _
  rcases (show x11 = 0 ∨ x11 = 1 from hl) with rfl | rfl <;> rfl
theorem cmdC_nz {ys : List Int} (h : ys.length = 12) : cmdC (nzC ys) = cmdC ys := by
  obtain ⟨x0, x1, x2, x3, x4, x5, x6, x7, x8, x9, x10, x11, rfl⟩ := twelve h
  have hq : ((if x11 = 1 then (1 : Int) else 0) == 1) = (x11 == 1) := by
    by_cases h1 : x11 = 1
    · rw [if_pos h1, h1]
    · rw [if_neg h1, beq_eq_false_iff_ne.2 h1]; rfl
  show [Value.int .i64 x0, .int .i64 x1, .int .i64 x2, .int .i64 x3, .int .i64 x4, .int .i64 x5, .int .i64 x6, .int .i64 x7, .int .i64 x8, .int .i64 x9, .int .i64 x10, Value.bool ((if x11 = 1 then (1 : Int) else 0) == 1)] = _
  rw [hq]
  rfl
theorem scan_rest (xs : List Int) : ∀ (i u : Nat), (∀ x ∈ xs, 0 ≤ x ∧ x ≤ 255) → ∀ y ∈ (scan i u xs).1, 0 ≤ y ∧ y ≤ 255 := by
  induction xs with
  | nil => intro i u _ y hy; cases hy
  | cons x xs ih =>
    intro i u h y hy
    have ht : ∀ z ∈ xs, 0 ≤ z ∧ z ≤ 255 := fun z hz => h z (List.mem_cons_of_mem _ hz)
    unfold scan at hy
    split at hy
    · cases hy
    · split at hy
      · exact ih _ _ ht y hy
      · split at hy
        · cases hy
        · exact ht y hy
theorem readN_in : ∀ (k : Nat) (st : CS), st.bytes → (∀ x ∈ (readN k st).2, -9223372036854775808 ≤ x ∧ x ≤ 9223372036854775807)
  | 0, st, _ => by simp [readN]
  | k + 1, st, h => by
    rw [readN_succ]
    split
    · intro x hx
      rcases List.mem_cons.1 hx with rfl | hx
      · exact intF_in h
      · refine readN_in k _ ?_ x hx
        intro y hy
        unfold intF at hy
        by_cases hb : st.bad = 0
        · rw [if_pos hb] at hy
          exact scan_rest _ _ _ h y hy
        · rw [if_neg hb] at hy
          exact h y hy
    · intro x hx; cases hx
theorem ysC_in {bs : List Int} (h : ∀ x ∈ bs, 0 ≤ x ∧ x ≤ 255) : ∀ x ∈ ysC bs, -9223372036854775808 ≤ x ∧ x ≤ 9223372036854775807 := by
  intro x hx
  unfold ysC at hx
  rcases List.mem_append.1 hx with hx | hx
  · exact readN_in 12 ⟨bs, 0⟩ h x hx
  · rw [(List.mem_replicate.1 hx).2]; decide
end Go.Proofs.YtdfkfcpkejjlnaaDoor
namespace Go.Proofs.YtdfkfcpkejjlnaaDoor
set_option linter.unusedVariables false
open Go.ChangeShapes Go.WideShapes Go.ChangeAt Go.RowKit Go.Lib
attribute [local go_sem ↓] Go.wp_at_zero Go.wp_at_succ comesTo_value_eq comesTo_skip_eq comesTo_enter_eq

theorem str_append (xs ys : List Int) : strOfNums xs ++ strOfNums ys = strOfNums (xs ++ ys) := by
  apply ByteArray.ext
  simp [strOfNums, ByteArray.data_append]
theorem rfold_any {v : Int} (h : -9223372036854775808 ≤ v ∧ v ≤ 9223372036854775807) (w : World) : Calls Tryd.prog 50 #[.int .i64 v] w fun e w' => e = .returned (.int .u64 (foldF v : Int)) ∧ w = w' := by
  by_cases hv : v < 0
  · have hd : decide (v < 0) = true := decide_eq_true hv
    go_enter Tryd.func50, Tryd.ntmps50
    go_wp2
    go_ret
    refine ⟨?_, rfl⟩
    have e : (foldF v : Int) = 2 * -(v + 1) + 1 := by unfold foldF; rw [if_pos hv]; omega
    rw [e]
    rfl
  · have hd : decide (v < 0) = false := decide_eq_false hv
    go_enter Tryd.func50, Tryd.ntmps50
    go_wp2
    go_ret
    refine ⟨?_, rfl⟩
    have e : (foldF v : Int) = 2 * v := by unfold foldF; rw [if_neg (by omega)]; omega
    rw [e]
    rfl
set_option maxRecDepth 100000 in
theorem rputint_any (xs : List Int) (hxl : xs.length ≤ 1099511627776) {n : Int} (hn : -9223372036854775808 ≤ n ∧ n ≤ 9223372036854775807) (w : World) :
    Calls Tryd.prog 26 #[.string (strOfNums xs), .int .i64 n] w fun e w' => e = .returned (.string (strOfNums (xs ++ putI n))) ∧ Below w.heap.size w w' := by
  have K := Lib.hid (rfold_any hn w)
  have h64 := fold_lt hn
  have hlen := putI_len hn
  unfold putI at *
  generalize foldF n = u0 at *
  have HL := Lib.hid hlen
  clear hlen
  go_enter Tryd.func26, Tryd.ntmps26
  go_wp2_with fail
  refine K.out.mono ?_
  rintro e w' ⟨rfl, rfl⟩
  go_wp2_with fail
  go_loopw [0, 5] (fun b r wr => ∃ (acc : List Int) (u : Nat), b = .string (strOfNums (xs ++ acc)) ∧ r = .int .u64 (u : Int) ∧ u < 18446744073709551616 ∧ acc ++ putU u = putU u0 ∧ Below w.heap.size w wr) (fun _ r _ => (intOf r).toNat)
  case atStart => exact ⟨[], u0, by rw [List.append_nil], rfl, h64, rfl, Below.refl _ _⟩
  case round =>
    obtain ⟨acc, u, rfl, rfl, hu, hacc, hb⟩ := hrel
    have HA := Lib.hid hacc
    have HB := Lib.hid hb
    clear hacc hb
    by_cases h128 : u < 128
    · have hq : decide ((u : Int) ≥ 128) = false := decide_eq_false (by omega)
      have hw : IntKind.u8.wrap (u : Int) = (u : Int) := by rw [IntKind.wrap_u8']; omega
      have hA1 := below_alloc (Below.refl _ wr) (.cells #[.int .u8 (u : Int)] 5)
      have hcv := txt_conv (byte_txt (World.alloc_heap_new wr (.cells #[.int .u8 (u : Int)] 5)) (by omega)) _ (Below.refl _ _)
      have hap := str_append (xs ++ acc) [(u : Int)]
      have hsz : ¬ 9223372036854775807 < (strOfNums (xs ++ acc)).size + (strOfNums [(u : Int)]).size := by
        rw [size_str, size_str]
        have h1 := putU_len u
        have h2 : acc.length + (putU u).length ≤ 10 := by rw [← List.length_append, HA.out]; exact HL.out
        simp only [List.length_append, List.length_cons, List.length_nil]
        omega
      have HF := Lib.hid (below_next HB.out hA1)
      clear hA1
      go_wp2
      go_ret
      refine ⟨?_, HF.out⟩
      rw [← HA.out, putU_lt h128]
      rfl
    · have hq : decide ((u : Int) ≥ 128) = true := decide_eq_true (by omega)
      have HM := Lib.hid (show u / 128 < u ∧ u / 128 < 18446744073709551616 by omega)
      have hA1 := below_alloc (Below.refl _ wr) (.cells #[.int .u8 ((u : Int) % 128 + 128)] 5)
      have hcv := txt_conv (byte_txt (World.alloc_heap_new wr (.cells #[.int .u8 ((u : Int) % 128 + 128)] 5)) (by omega)) _ (Below.refl _ _)
      have hap := str_append (xs ++ acc) [(u : Int) % 128 + 128]
      have hsz : ¬ 9223372036854775807 < (strOfNums (xs ++ acc)).size + (strOfNums [(u : Int) % 128 + 128]).size := by
        rw [size_str, size_str]
        have h2 : acc.length + (putU u).length ≤ 10 := by rw [← List.length_append, HA.out]; exact HL.out
        simp only [List.length_append, List.length_cons, List.length_nil]
        omega
      have HF := Lib.hid (below_next HB.out hA1)
      have HA2 := Lib.hid (show (acc ++ [(u : Int) % 128 + 128]) ++ putU (u / 128) = putU u0 by
        rw [← HA.out, putU_ge h128, List.append_assoc, show ((u % 128 + 128 : Nat) : Int) = (u : Int) % 128 + 128 by omega]; rfl)
      clear hA1
      go_wp2
      go_roundw
      case rel => exact ⟨acc ++ [(u : Int) % 128 + 128], u / 128, rfl, by rw [Int.natCast_ediv]; rfl, HM.out.2, HA2.out, HF.out⟩
      case measure => have := HM.out.1; simp [intOf]; omega
end Go.Proofs.YtdfkfcpkejjlnaaDoor
namespace Go.Proofs.YtdfkfcpkejjlnaaDoor
set_option linter.unusedVariables false
open Go.ChangeShapes Go.WideShapes Go.ChangeAt Go.RowKit Go.Lib
attribute [local go_sem ↓] Go.wp_at_zero Go.wp_at_succ comesTo_value_eq comesTo_skip_eq comesTo_enter_eq

/-- a text, laid -/
theorem rputtext_any (xs ys : List Int) (hxl : xs.length ≤ 1099511627776) (hyl : ys.length ≤ 1099511627776) (w : World) :
    Calls Tryd.prog 27 #[.string (strOfNums xs), .string (strOfNums ys)] w fun e w' => e = .returned (.string (strOfNums (xs ++ putTx ys))) ∧ Below w.heap.size w w' := by
  have K := Lib.hid (rputint_any xs hxl (n := (ys.length : Int)) (by omega) w)
  have hz : (strOfNums ys).size = ys.length := size_str ys
  have hlen := putI_len (v := (ys.length : Int)) (by omega)
  have hap := str_append (xs ++ putI ys.length) ys
  have hsz : ¬ 9223372036854775807 < (strOfNums (xs ++ putI ys.length)).size + (strOfNums ys).size := by
    rw [size_str, size_str]
    simp only [List.length_append]
    omega
  clear hlen
  go_enter Tryd.func27, Tryd.ntmps27
  go_wp2_with fail
  refine K.out.mono ?_
  rintro e w1 ⟨rfl, hb⟩
  have HB := Lib.hid hb
  clear hb
  go_wp2
  go_ret
  refine ⟨?_, HB.out⟩
  unfold putTx
  rw [← List.append_assoc]
  rfl
end Go.Proofs.YtdfkfcpkejjlnaaDoor
namespace Go.Proofs.YtdfkfcpkejjlnaaDoor
set_option linter.unusedVariables false
open Go.ChangeShapes Go.WideShapes Go.ChangeAt Go.RowKit Go.Lib
attribute [local go_sem ↓] Go.wp_at_zero Go.wp_at_succ comesTo_value_eq comesTo_skip_eq comesTo_enter_eq

theorem res_cell_tmp {P : Program} {fn : Func} {p t : Tmp} {ty : TypeId} {tmps : Array Value} {w : World} {ad : Addr} {x y : Value} (h : fn.results = #[.cell p ty, .tmp t]) (hp : tmps.getD p undef = .pointer (some ad)) (ht : tmps.getD t undef = y)
    (hl : (loadVar ty ad).run P w = .ok x w) : (results fn tmps).run P w = .ok (.tuple #[x, y]) w := by
  have hp' : tmps[p]?.getD undef = .pointer (some ad) := by simpa using hp
  have ht' : tmps[t]?.getD undef = y := by simpa using ht
  simp [results, h, hp', ht', asAddr, hl]
theorem res_cell {P : Program} {fn : Func} {p : Tmp} {ty : TypeId} {tmps : Array Value} {w : World} {ad : Addr} {x : Value} (h : fn.results = #[.cell p ty]) (hp : tmps.getD p undef = .pointer (some ad))
    (hl : (loadVar ty ad).run P w = .ok x w) : (results fn tmps).run P w = .ok x w := by
  have hp' : tmps[p]?.getD undef = .pointer (some ad) := by simpa using hp
  simp [results, h, hp', asAddr, hl]
theorem str_extract (xs : List Int) (a b : Nat) : (strOfNums xs).extract a b = strOfNums ((xs.drop a).take (b - a)) := by
  apply ByteArray.ext
  simp [strOfNums, ByteArray.data_extract, List.map_drop, List.map_take, List.extract_eq_take_drop]
theorem str_get (xs : List Int) (k : Nat) (hk : k < (strOfNums xs).size) (h : ∀ x ∈ xs, 0 ≤ x ∧ x ≤ 255) : (((strOfNums xs)[k]'hk).toNat : Int) = xs.getD k 0 := by
  have hk' : k < xs.length := by rw [size_str] at hk; exact hk
  have hb := getD_in h k hk'
  have e : (strOfNums xs)[k]'hk = UInt8.ofNat (xs.getD k 0).toNat := by
    show (strOfNums xs).data[k] = _
    simp [strOfNums, List.getD, List.getElem?_eq_getElem hk']
  rw [e]
  generalize xs.getD k 0 = y at *
  rw [UInt8.toNat_ofNat']
  omega
theorem runfold_any {u : Nat} (hu : u < 18446744073709551616) (w : World) : Calls Tryd.prog 57 #[.int .u64 (u : Int)] w fun e w' => e = .returned (.int .i64 (unfoldF u)) ∧ w = w' := by
  by_cases h : u % 2 = 1
  · have hd : ((u : Int) % 2 == 1) = true := by rw [beq_iff_eq]; omega
    go_enter Tryd.func57, Tryd.ntmps57
    go_wp2
    go_ret
    refine ⟨?_, rfl⟩
    have e : unfoldF u = -((u : Int) / 2) - 1 := by unfold unfoldF; rw [if_pos h]; omega
    rw [e]
    rfl
  · have hd : ((u : Int) % 2 == 1) = false := by rw [beq_eq_false_iff_ne]; omega
    go_enter Tryd.func57, Tryd.ntmps57
    go_wp2
    go_ret
    refine ⟨?_, rfl⟩
    have e : unfoldF u = (u : Int) / 2 := by unfold unfoldF; rw [if_neg h]; omega
    rw [e]
    rfl
theorem radd_step {u m k : Nat} (hu : u < 2 ^ (7 * k)) (hk : k ≤ 9) (hm : m ≤ 255) (hA : ¬ (k = 9 ∧ 1 < m)) :
    IntKind.u64.wrap ((u : Int) + IntKind.u64.wrap ((m : Int) % 128 * 2 ^ (7 * k))) = ((u + m % 128 * 2 ^ (7 * k) : Nat) : Int) := by
  have hlt := or_lt hu hk hm hA
  have e : ((m : Int) % 128) * 2 ^ (7 * k) = ((m % 128 * 2 ^ (7 * k) : Nat) : Int) := by
    rw [show (m : Int) % 128 = ((m % 128 : Nat) : Int) by omega]
    simp [Int.natCast_mul, Int.natCast_pow]
  rw [e, IntKind.wrap_u64 ((m % 128 * 2 ^ (7 * k) : Nat) : Int), show ((m % 128 * 2 ^ (7 * k) : Nat) : Int) % 18446744073709551616 = ((m % 128 * 2 ^ (7 * k) : Nat) : Int) by omega, IntKind.wrap_u64]
  omega
theorem rc_load {W : World} {b : Nat} {x y : Value} (h : W.heap[b]? = some (.cells #[x, y] 71 (0, 0))) : (loadVar 71 ⟨b, 0, none⟩).run Tryd.prog W = .ok (.agg #[x, y]) W := by
  have c0 := cell_of_block (o := 0) h rfl
  have c1 := cell_of_block (o := 1) h rfl
  go_simp
/-- a cursor's value -/
def RC (st : CS) : Value := .agg #[.string (strOfNums st.xs), .int .i64 st.bad]
theorem rwrong_any (S : ByteArray) (b e : Int) (w : World) : Calls Tryd.prog 55 #[.agg #[.string S, .int .i64 b], .int .i64 e] w fun r w' => r = .returned (.agg #[.string ⟨#[]⟩, .int .i64 e]) ∧ Below w.heap.size w w' := by
  have hA := below_alloc (below_alloc (Below.refl _ w) (.cells #[.string S, .int .i64 b] 71)) (.cells #[.string .empty, .int .i64 0] 71)
  go_enter Tryd.func55, Tryd.ntmps55
  go_wp2
  exact bodyPost_ret (v := .agg #[.string ⟨#[]⟩, .int .i64 e]) (by simp [results, Tryd.results55, go_sem]) rfl ⟨rfl, (by repeat (first | exact Below.refl _ _ | assumption | refine below_drewN ?_ _ | refine Below.drew ?_ | refine below_alloc ?_ _ | refine Below.alloc ?_ (by first | omega | (simp; done) | (simp; omega)) _ | refine Below.setCell ?_ (Below.size (by assumption)) _ | refine Below.setCell ?_ (by first | omega | (simp; done) | (simp; omega)) _ | (refine Below.trans ?_ (Below.mono (by assumption) (by first | omega | (simp; done) | (simp; omega)))) | refine below_next ?_ (by assumption)))⟩
set_option maxRecDepth 100000 in
set_option maxHeartbeats 4000000 in
theorem rint_any (st : CS) (hx : ∀ x ∈ st.xs, 0 ≤ x ∧ x ≤ 255) (hl : st.xs.length ≤ 1099511627776) (w : World) :
    Calls Tryd.prog 39 #[RC st] w fun e w' => e = .returned (.tuple #[RC (intF st).1, .int .i64 (intF st).2]) ∧ Below w.heap.size w w' := by
  have hmx : Tryd.prog.follows .mixedOrders = true := by kernel_rfl
  obtain ⟨xs, bd⟩ := st
  simp only at hx hl
  have hA := below_alloc (below_alloc (Below.refl _ w) (.cells #[.string (strOfNums xs), .int .i64 bd] 71)) (.cells #[.string ⟨#[]⟩, .int .i64 0] 71)
  have hN2 := World.alloc_heap_new (w.alloc (.cells #[.string (strOfNums xs), .int .i64 bd] 71)) (.cells #[.string ⟨#[]⟩, .int .i64 0] 71)
  have hN1 : ((w.alloc (.cells #[.string (strOfNums xs), .int .i64 bd] 71)).alloc (.cells #[.string ⟨#[]⟩, .int .i64 0] 71)).heap[w.heap.size]? = some (.cells #[.string (strOfNums xs), .int .i64 bd] 71 (0, 0)) :=
    ((below_alloc (Below.refl _ _) _).block _ (by simp)).trans (World.alloc_heap_new w _)
  rw [show (w.alloc (.cells #[.string (strOfNums xs), .int .i64 bd] 71)).heap.size = w.heap.size + 1 by simp] at hN2
  unfold RC
  by_cases h0 : bd = 0
  · subst h0
    unfold intF
    rw [if_pos rfl]
    simp only
    have c0 := cell_of_block (o := 0) hN1 rfl
    have c1 := cell_of_block (o := 1) hN1 rfl
    have r0 := cell_of_block (o := 0) hN2 rfl
    have r1 := cell_of_block (o := 1) hN2 rfl
    have f0 := free_of_block 0 hN2
    have f1 := free_of_block 1 hN2
    have KW := Lib.hid (fun (e : Int) (W : World) => rwrong_any (strOfNums xs) 0 e W)
    have hsz := size_str xs
    have HG := Lib.hid (fun (k : Nat) (hk : k < (strOfNums xs).size) => str_get xs k hk hx)
    have HX := Lib.hid (fun (k : Nat) (hk : k < xs.length) => getD_in hx k hk)
    have HXT := Lib.hid (fun (k : Nat) => show (strOfNums xs).extract k xs.length = strOfNums (xs.drop k) by rw [str_extract, List.take_of_length_le (by simp)])
    have HA := Lib.hid hA
    have HN1 := Lib.hid hN1
    have HN2 := Lib.hid hN2
    generalize hS : strOfNums xs = S at *
    obtain ⟨n, hn⟩ : ∃ n, xs.length = n := ⟨_, rfl⟩
    rw [hn] at hsz HX HXT hl
    have HNn := Lib.hid hn
    clear hA hN1 hN2 hx hS hn
    go_enter Tryd.func39, Tryd.ntmps39
    go_wp2_with fail
    generalize (w.alloc (.cells #[.string S, .int .i64 0] 71)).alloc (.cells #[.string ⟨#[]⟩, .int .i64 0] 71) = W1 at *
    go_loop [4, 5, 6] (fun v i _ => ∃ k u : Nat, k ≤ n ∧ k ≤ 9 ∧ u < 2 ^ (7 * k) ∧ i = .int .i64 k ∧ v = .int .u64 (u : Int) ∧ scan k u (xs.drop k) = scan 0 0 xs) (fun _ i _ => 10 - (intOf i).toNat)
    case atStart => exact ⟨0, 0, Nat.zero_le _, Nat.zero_le _, by decide, rfl, rfl, rfl⟩
    case round =>
      obtain ⟨k, u, hk, hk9, hu, rfl, rfl, hsc⟩ := hrel
      have HS := Lib.hid hsc
      have HU := Lib.hid hu
      have h10 : decide ((k : Int) < 10) = true := decide_eq_true (by omega)
      clear hsc hu
      by_cases hlt : k < n
      · have hd1 : decide ((k : Int) ≥ (n : Int)) = false := decide_eq_false (by omega)
        have hkS : k < S.size := by rw [hsz]; exact hlt
        have hb := HG.out k hkS
        have hxb := HX.out k hlt
        have hdr : xs.drop k = xs.getD k 0 :: xs.drop (k + 1) := by
          have hl : k < xs.length := by have := HNn.out; omega
          rw [List.drop_eq_getElem_cons hl]; simp [List.getD, List.getElem?_eq_getElem hl]
        have HS2 := Lib.hid (hdr ▸ HS.out)
        clear hdr HS
        generalize xs.getD k 0 = x at *
        obtain ⟨m, rfl⟩ : ∃ m : Nat, x = (m : Int) := ⟨x.toNat, by omega⟩
        have hm : m ≤ 255 := by omega
        have hgm : (S[k]'hkS).toNat = m := by omega
        clear hb hxb
        by_cases hA : k = 9 ∧ 1 < m
        · have q1 : ((k : Int) == 9) = true := by rw [beq_iff_eq]; omega
          have q2 : decide ((m : Int) > 1) = true := decide_eq_true (by omega)
          have q3 : 1 < m := hA.2
          have HSC := Lib.hid (show scan 0 0 xs = ([], 11, 0) by rw [← HS2.out]; unfold scan; rw [if_pos ⟨hA.1, by omega⟩])
          clear hA
          go_wp2_with fail
          refine (KW.out 11 W1).mono ?_
          rintro e w2 ⟨rfl, hb⟩
          have HB := Lib.hid (below_next HA.out hb)
          have g2 := (hb.block _ (Array.getElem?_eq_some_iff.1 HN2.out).1).trans HN2.out
          have s0 := cell_of_block (o := 0) g2 rfl
          have s1 := cell_of_block (o := 1) g2 rfl
          have t0 := free_of_block 0 g2
          have t1 := free_of_block 1 g2
          have G2 := Lib.hid g2
          clear hb g2
          go_wp2
          refine bodyPost_ret (v := .tuple #[.agg #[.string ⟨#[]⟩, .int .i64 11], .int .i64 0]) (res_cell_tmp Tryd.results39 rfl rfl (rc_load (((wrote_refl G2.out).set 0 (.string ⟨#[]⟩)).set 1 (.int .i64 11)).there)) rfl ?_; rw [HSC.out]; exact ⟨rfl, (by repeat (first | exact Below.refl _ _ | assumption | refine below_drewN ?_ _ | refine Below.drew ?_ | refine below_alloc ?_ _ | refine Below.alloc ?_ (by first | omega | (simp; done) | (simp; omega)) _ | refine Below.setCell ?_ (Below.size (by assumption)) _ | refine Below.setCell ?_ (by first | omega | (simp; done) | (simp; omega)) _ | (refine Below.trans ?_ (Below.mono (by assumption) (by first | omega | (simp; done) | (simp; omega)))) | refine below_next ?_ (by assumption)))⟩
        · obtain ⟨u2, hu2⟩ : ∃ u2, u2 = u + m % 128 * 2 ^ (7 * k) := ⟨_, rfl⟩
          have hor := radd_step HU.out hk9 hm hA
          rw [← hu2] at hor
          have HOR := Lib.hid hor
          have h64 := or_lt HU.out hk9 hm hA
          rw [← hu2] at h64
          have hcase : (((k : Int) == 9) = true ∧ decide ((m : Int) > 1) = false ∧ ¬ 1 < m) ∨ ((k : Int) == 9) = false := by
            by_cases h9 : k = 9
            · exact .inl ⟨by rw [beq_iff_eq]; omega, decide_eq_false (by omega), by omega⟩
            · exact .inr (by rw [beq_eq_false_iff_ne]; omega)
          have hna : ¬ (k = 9 ∧ 1 < (m : Int)) := by omega
          clear hor
          by_cases h128 : 128 ≤ m
          · have hs : scan (k + 1) u2 (xs.drop (k + 1)) = scan 0 0 xs := by
              rw [← HS2.out]
              conv => rhs; unfold scan
              rw [if_neg hna, if_pos (by omega), show ((m : Int) - 128).toNat = m % 128 by omega, ← hu2]
            have hk8 : k ≤ 8 := by omega
            have hu3 : u2 < 2 ^ (7 * (k + 1)) := by
              have := HU.out
              rw [hu2, show 7 * (k + 1) = 7 + 7 * k by omega, Nat.pow_add]
              have : m % 128 * 2 ^ (7 * k) ≤ 127 * 2 ^ (7 * k) := Nat.mul_le_mul_right _ (by omega)
              omega
            have HS3 := Lib.hid hs
            have HU3 := Lib.hid hu3
            have hl128 : decide ((m : Int) < 128) = false := decide_eq_false (by omega)
            have hnl : ¬ m < 128 := by omega
            clear hs hu3 HS2 HU hu2 hna hA h64
            rcases hcase with ⟨q1, q2⟩ | q1
            · rw [beq_iff_eq] at q1; omega
            · go_wp2_with fail
              go_round
              case rel => exact ⟨k + 1, u2, by omega, by omega, HU3.out, by go_num, by rw [HOR.out], HS3.out⟩
              case measure => simp [intOf]; omega
          · have hl128 : decide ((m : Int) < 128) = true := decide_eq_true (by omega)
            have hnl : m < 128 := by omega
            by_cases hz : 0 < k ∧ m = 0
            · have hkz : decide ((k : Int) > 0) = true := decide_eq_true (by omega)
              have hmz : ((m : Int) == 0) = true := by rw [beq_iff_eq]; omega
              have hk0 : 0 < k := hz.1
              have HSC := Lib.hid (show scan 0 0 xs = ([], 11, 0) by rw [← HS2.out]; unfold scan; rw [if_neg hna, if_neg (by omega), if_pos (by omega)])
              clear HS2 HU hu2 hna hA h128 h64 hz
              rcases hcase with ⟨q1, q2, q3⟩ | q1
              · go_wp2_with fail
                refine (KW.out 11 W1).mono ?_
                rintro e w2 ⟨rfl, hb⟩
                have HB := Lib.hid (below_next HA.out hb)
                have g2 := (hb.block _ (Array.getElem?_eq_some_iff.1 HN2.out).1).trans HN2.out
                have s0 := cell_of_block (o := 0) g2 rfl
                have s1 := cell_of_block (o := 1) g2 rfl
                have t0 := free_of_block 0 g2
                have t1 := free_of_block 1 g2
                have G2 := Lib.hid g2
                clear hb g2
                go_wp2
                refine bodyPost_ret (v := .tuple #[.agg #[.string ⟨#[]⟩, .int .i64 11], .int .i64 0]) (res_cell_tmp Tryd.results39 rfl rfl (rc_load (((wrote_refl G2.out).set 0 (.string ⟨#[]⟩)).set 1 (.int .i64 11)).there)) rfl ?_; rw [HSC.out]; exact ⟨rfl, (by repeat (first | exact Below.refl _ _ | assumption | refine below_drewN ?_ _ | refine Below.drew ?_ | refine below_alloc ?_ _ | refine Below.alloc ?_ (by first | omega | (simp; done) | (simp; omega)) _ | refine Below.setCell ?_ (Below.size (by assumption)) _ | refine Below.setCell ?_ (by first | omega | (simp; done) | (simp; omega)) _ | (refine Below.trans ?_ (Below.mono (by assumption) (by first | omega | (simp; done) | (simp; omega)))) | refine below_next ?_ (by assumption)))⟩
              · go_wp2_with fail
                refine (KW.out 11 W1).mono ?_
                rintro e w2 ⟨rfl, hb⟩
                have HB := Lib.hid (below_next HA.out hb)
                have g2 := (hb.block _ (Array.getElem?_eq_some_iff.1 HN2.out).1).trans HN2.out
                have s0 := cell_of_block (o := 0) g2 rfl
                have s1 := cell_of_block (o := 1) g2 rfl
                have t0 := free_of_block 0 g2
                have t1 := free_of_block 1 g2
                have G2 := Lib.hid g2
                clear hb g2
                go_wp2
                refine bodyPost_ret (v := .tuple #[.agg #[.string ⟨#[]⟩, .int .i64 11], .int .i64 0]) (res_cell_tmp Tryd.results39 rfl rfl (rc_load (((wrote_refl G2.out).set 0 (.string ⟨#[]⟩)).set 1 (.int .i64 11)).there)) rfl ?_; rw [HSC.out]; exact ⟨rfl, (by repeat (first | exact Below.refl _ _ | assumption | refine below_drewN ?_ _ | refine Below.drew ?_ | refine below_alloc ?_ _ | refine Below.alloc ?_ (by first | omega | (simp; done) | (simp; omega)) _ | refine Below.setCell ?_ (Below.size (by assumption)) _ | refine Below.setCell ?_ (by first | omega | (simp; done) | (simp; omega)) _ | (refine Below.trans ?_ (Below.mono (by assumption) (by first | omega | (simp; done) | (simp; omega)))) | refine below_next ?_ (by assumption)))⟩
            · have HSC := Lib.hid (show scan 0 0 xs = (xs.drop (k + 1), 0, unfoldF u2) by
                rw [← HS2.out]; unfold scan; rw [if_neg hna, if_neg (by omega), if_neg (by omega), show ((m : Int)).toNat = m % 128 by omega, ← hu2])
              have hz2 : ((m : Int) == 0) = false ∨ ((m : Int) == 0) = true ∧ decide ((k : Int) > 0) = false ∧ ¬ 0 < k := by
                by_cases h : m = 0
                · exact .inr ⟨by rw [beq_iff_eq]; omega, decide_eq_false (by omega), by omega⟩
                · exact .inl (by rw [beq_eq_false_iff_ne]; omega)
              have KU := Lib.hid (fun W => runfold_any h64 W)
              have hxt := HXT.out (k + 1)
              have hk1 : IntKind.i64.wrap ((k : Int) + 1) = ((k + 1 : Nat) : Int) := by rw [IntWalk.i64_in _ (by omega)]; simp
              have hor := HOR.out
              have hp1 : (0 : Int) ≤ (k : Int) + 1 := by omega
              have hp2 : (k : Int) + 1 ≤ (n : Int) := by omega
              have hc0 : (W1.drew).cell? ⟨w.heap.size, 0, none⟩ = some (.string S) := c0
              clear HS2 HU hu2 hna hA h128
              have g2 : W1.drew.heap[w.heap.size + 1]? = some (.cells #[.string ⟨#[]⟩, .int .i64 0] 71 (0, 0)) := HN2.out
              have s0 := cell_of_block (o := 0) g2 rfl
              have s1 := cell_of_block (o := 1) g2 rfl
              have t0 := free_of_block 0 g2
              have t1 := free_of_block 1 g2
              have G2 := Lib.hid g2
              have HB := Lib.hid HA.out.drew
              clear g2
              rcases hcase with ⟨q1, q2, q3⟩ | q1 <;> rcases hz2 with z1 | ⟨z1, z2, z3⟩ <;> (
              go_wp2_with fail
              refine wp_region_grow_tail 8 (fun w' => w' = W1.drew) hmx (by kernel_rfl) rfl ?_
              iterate 7 (refine textS_run ?_ ?_ (fun W hS => ?_) ?_; rotate_left; (focus go_simp); (focus (subst hS; go_simp; all_goals (first | exact ⟨rfl, rfl⟩ | rfl | (refine ⟨?_, rfl⟩; rfl)))); (try go_simp))
              (refine textS_run ?_ ?_ (fun W hS => ?_) ?_; rotate_left; (focus go_simp); (focus (subst hS; go_simp; refine (KU.out W1.drew).mono ?_; rintro e w1 ⟨rfl, rfl⟩; refine ⟨?_, ?_⟩; (focus rfl); (focus rfl))); (try go_simp))
              refine textS_nil ?_
              go_wp2
              refine bodyPost_ret (v := .tuple #[.agg #[.string (strOfNums (xs.drop (k + 1))), .int .i64 0], .int .i64 (unfoldF u2)]) (res_cell_tmp Tryd.results39 rfl rfl (rc_load (((wrote_refl G2.out).set 0 (.string (strOfNums (xs.drop (k + 1))))).set 1 (.int .i64 0)).there)) rfl ?_
              rw [HSC.out]
              exact ⟨rfl, (by repeat (first | exact Below.refl _ _ | assumption | refine below_drewN ?_ _ | refine Below.drew ?_ | refine below_alloc ?_ _ | refine Below.alloc ?_ (by first | omega | (simp; done) | (simp; omega)) _ | refine Below.setCell ?_ (Below.size (by assumption)) _ | refine Below.setCell ?_ (by first | omega | (simp; done) | (simp; omega)) _ | (refine Below.trans ?_ (Below.mono (by assumption) (by first | omega | (simp; done) | (simp; omega)))) | refine below_next ?_ (by assumption)))⟩)
      · obtain rfl : k = n := by omega
        have hd1 : decide ((k : Int) ≥ (k : Int)) = true := decide_eq_true (by omega)
        have HSC := Lib.hid (show scan 0 0 xs = ([], 10, 0) by
          rw [← HS.out, List.drop_eq_nil_of_le (by have := HNn.out; omega)]
          cases k <;> rfl)
        clear hlt
        go_wp2_with fail
        refine (KW.out 10 W1).mono ?_
        rintro e w2 ⟨rfl, hb⟩
        have HB := Lib.hid (below_next HA.out hb)
        have g2 := (hb.block _ (Array.getElem?_eq_some_iff.1 HN2.out).1).trans HN2.out
        have s0 := cell_of_block (o := 0) g2 rfl
        have s1 := cell_of_block (o := 1) g2 rfl
        have t0 := free_of_block 0 g2
        have t1 := free_of_block 1 g2
        have G2 := Lib.hid g2
        clear hb g2
        go_wp2
        refine bodyPost_ret (v := .tuple #[.agg #[.string ⟨#[]⟩, .int .i64 10], .int .i64 0]) (res_cell_tmp Tryd.results39 rfl rfl (rc_load (((wrote_refl G2.out).set 0 (.string ⟨#[]⟩)).set 1 (.int .i64 10)).there)) rfl ?_; rw [HSC.out]; exact ⟨rfl, (by repeat (first | exact Below.refl _ _ | assumption | refine below_drewN ?_ _ | refine Below.drew ?_ | refine below_alloc ?_ _ | refine Below.alloc ?_ (by first | omega | (simp; done) | (simp; omega)) _ | refine Below.setCell ?_ (Below.size (by assumption)) _ | refine Below.setCell ?_ (by first | omega | (simp; done) | (simp; omega)) _ | (refine Below.trans ?_ (Below.mono (by assumption) (by first | omega | (simp; done) | (simp; omega)))) | refine below_next ?_ (by assumption)))⟩
  · have hq : (bd != 0) = true := by simp [h0]
    unfold intF
    rw [if_neg h0]
    simp only
    have HA := Lib.hid hA
    clear hA hN1 hN2
    go_enter Tryd.func39, Tryd.ntmps39
    go_wp2
    exact bodyPost_ret (v := .tuple #[.agg #[.string (strOfNums xs), .int .i64 bd], .int .i64 0]) (by simp [results, Tryd.results39, go_sem]) rfl ⟨rfl, (by repeat (first | exact Below.refl _ _ | assumption | refine below_drewN ?_ _ | refine Below.drew ?_ | refine below_alloc ?_ _ | refine Below.alloc ?_ (by first | omega | (simp; done) | (simp; omega)) _ | refine Below.setCell ?_ (Below.size (by assumption)) _ | refine Below.setCell ?_ (by first | omega | (simp; done) | (simp; omega)) _ | (refine Below.trans ?_ (Below.mono (by assumption) (by first | omega | (simp; done) | (simp; omega)))) | refine below_next ?_ (by assumption)))⟩
end Go.Proofs.YtdfkfcpkejjlnaaDoor
namespace Go.Proofs.YtdfkfcpkejjlnaaDoor
set_option linter.unusedVariables false
open Go.ChangeShapes Go.WideShapes Go.ChangeAt Go.RowKit Go.Lib
attribute [local go_sem ↓] Go.wp_at_zero Go.wp_at_succ comesTo_value_eq comesTo_skip_eq comesTo_enter_eq

theorem intF_suffix (st : CS) : (intF st).1.xs <:+ st.xs := by
  unfold intF
  split
  · exact scan_suffix _ _ _
  · exact List.suffix_refl _
theorem mem_suffix {xs ys : List Int} (h : xs <:+ ys) (hy : ∀ x ∈ ys, 0 ≤ x ∧ x ≤ 255) : ∀ x ∈ xs, 0 ≤ x ∧ x ≤ 255 := fun x hx => hy x (h.subset hx)
theorem smallF_ref {st st1 : CS} {v most : Int} (h : intF st = (st1, v)) : smallF st most = if st1.bad ≠ 0 then (st1, 0) else if v < 0 ∨ most < v then (⟨[], 2⟩, 0) else (st1, v) := by
  have hb := intF_bad st
  unfold smallF
  rw [h] at hb ⊢
  simp only at hb ⊢
  by_cases h0 : st1.bad = 0
  · rw [if_neg (show ¬ st1.bad ≠ 0 from fun h => h h0)]
    unfold failF
    rw [if_pos h0]
  · rw [if_pos h0]
    rcases hb with hb | ⟨rfl, _⟩
    · exact absurd hb h0
    · unfold failF
      rw [if_neg h0]
      split <;> rfl
theorem smallF_suffix (st : CS) (most : Int) : (smallF st most).1.xs <:+ st.xs := by
  have h := intF_suffix st
  unfold smallF failF
  split
  · split
    · exact List.nil_suffix
    · exact h
  · exact h
set_option maxRecDepth 100000 in
set_option maxHeartbeats 4000000 in
theorem rsmall_any (st : CS) (hx : ∀ x ∈ st.xs, 0 ≤ x ∧ x ≤ 255) (hl : st.xs.length ≤ 1099511627776) (most : Int) (w : World) :
    Calls Tryd.prog 36 #[.agg #[.string (strOfNums st.xs), .int .i64 st.bad], .int .i64 most] w fun e w' => e = .returned (.tuple #[.agg #[.string (strOfNums (smallF st most).1.xs), .int .i64 (smallF st most).1.bad], .int .i64 (smallF st most).2]) ∧ Below w.heap.size w w' := by
  have ki := fun W => rint_any st hx hl W
  unfold RC at ki
  obtain ⟨st1, v, hp⟩ : ∃ st1 v, intF st = (st1, v) := ⟨_, _, rfl⟩
  have hin := intF_in (st := st) hx
  rw [smallF_ref hp]
  rw [hp] at ki hin
  simp only at ki hin
  have hwv : IntKind.i64.wrap v = v := IntWalk.i64_in _ hin
  have KI := Lib.hid ki
  have KW := Lib.hid (fun (e : Int) (S : ByteArray) (b : Int) (W : World) => rwrong_any S b e W)
  generalize strOfNums st.xs = S at *
  generalize st.bad = bd at *
  generalize hS1 : strOfNums st1.xs = S1 at *
  have HS1 := Lib.hid hS1
  have hA := below_alloc (below_alloc (Below.refl _ w) (.cells #[.string S, .int .i64 bd] 71)) (.cells #[.string ⟨#[]⟩, .int .i64 0] 71)
  have hN2 := World.alloc_heap_new (w.alloc (.cells #[.string S, .int .i64 bd] 71)) (.cells #[.string ⟨#[]⟩, .int .i64 0] 71)
  rw [show (w.alloc (.cells #[.string S, .int .i64 bd] 71)).heap.size = w.heap.size + 1 by simp] at hN2
  have hlt1 : w.heap.size + 1 < ((w.alloc (.cells #[.string S, .int .i64 bd] 71)).alloc (.cells #[.string ⟨#[]⟩, .int .i64 0] 71)).heap.size := by simp
  have HA := Lib.hid hA
  have HN2 := Lib.hid hN2
  have HLT := Lib.hid hlt1
  clear ki hp hx hl hin hS1 hA hN2 hlt1
  by_cases h0 : st1.bad = 0
  · rw [if_neg (show ¬ st1.bad ≠ 0 from fun h => h h0)]
    have hq : (st1.bad != 0) = false := by simp [h0]
    clear h0
    rcases (by omega : v < 0 ∨ ¬ v < 0 ∧ most < v ∨ ¬ v < 0 ∧ ¬ most < v) with h1 | ⟨h1, h2⟩ | ⟨h1, h2⟩
    · rw [if_pos (Or.inl h1)]
      have hd1 : decide (v < 0) = true := decide_eq_true h1
      go_enter Tryd.func36, Tryd.ntmps36
      go_wp2_with fail
      generalize (w.alloc (.cells #[.string S, .int .i64 bd] 71)).alloc (.cells #[.string ⟨#[]⟩, .int .i64 0] 71) = W1 at *
      refine (KI.out W1).mono ?_
      rintro e w2 ⟨rfl, hb⟩
      have g2 := (hb.block _ HLT.out).trans HN2.out
      have hlt2 : w.heap.size + 1 < w2.heap.size := Nat.lt_of_lt_of_le HLT.out hb.size
      have s0 := cell_of_block (o := 0) g2 rfl
      have s1 := cell_of_block (o := 1) g2 rfl
      have t0 := free_of_block 0 g2
      have t1 := free_of_block 1 g2
      have G2 := Lib.hid g2
      have HB := Lib.hid (below_next HA.out hb)
      clear hb g2
      go_wp2_with fail
      refine (KW.out 2 S1 st1.bad _).mono ?_
      rintro e w5 ⟨rfl, hb5⟩
      have g3 := (Below.heap_alloc w2 (.cells #[.string S1, .int .i64 st1.bad] 71) _ hlt2).trans G2.out
      have hlt5 : w.heap.size + 1 < (w2.alloc (.cells #[.string S1, .int .i64 st1.bad] 71)).heap.size := by simp; omega
      have g5 := (hb5.block _ hlt5).trans g3
      have hb6 := (HB.out.alloc HB.out.size (.cells #[.string S1, .int .i64 st1.bad] 71)).trans (hb5.mono (Nat.le_trans HB.out.size (by simp)))
      have HB6 := Lib.hid hb6
      have p0 := cell_of_block (o := 0) g5 rfl
      have p1 := cell_of_block (o := 1) g5 rfl
      have z0 := free_of_block 0 g5
      have z1 := free_of_block 1 g5
      have G5 := Lib.hid g5
      clear hb5 g3 hlt5 g5 hb6 HB
      go_wp2
      refine bodyPost_ret (v := .tuple #[.agg #[.string ⟨#[]⟩, .int .i64 2], .int .i64 0]) (res_cell_tmp Tryd.results36 rfl rfl (rc_load (((wrote_refl G5.out).set 0 (.string ⟨#[]⟩)).set 1 (.int .i64 2)).there)) rfl ?_
      exact ⟨rfl, (by repeat (first | exact Below.refl _ _ | assumption | refine below_drewN ?_ _ | refine Below.drew ?_ | refine below_alloc ?_ _ | refine Below.alloc ?_ (by first | omega | (simp; done) | (simp; omega)) _ | refine Below.setCell ?_ (Below.size (by assumption)) _ | refine Below.setCell ?_ (by first | omega | (simp; done) | (simp; omega)) _ | (refine Below.trans ?_ (Below.mono (by assumption) (by first | omega | (simp; done) | (simp; omega)))) | refine below_next ?_ (by assumption)))⟩
    · rw [if_pos (Or.inr h2)]
      have hd1 : decide (v < 0) = false := decide_eq_false h1
      have hd2 : decide (v > most) = true := decide_eq_true h2
      go_enter Tryd.func36, Tryd.ntmps36
      go_wp2_with fail
      generalize (w.alloc (.cells #[.string S, .int .i64 bd] 71)).alloc (.cells #[.string ⟨#[]⟩, .int .i64 0] 71) = W1 at *
      refine (KI.out W1).mono ?_
      rintro e w2 ⟨rfl, hb⟩
      have g2 := (hb.block _ HLT.out).trans HN2.out
      have hlt2 : w.heap.size + 1 < w2.heap.size := Nat.lt_of_lt_of_le HLT.out hb.size
      have s0 := cell_of_block (o := 0) g2 rfl
      have s1 := cell_of_block (o := 1) g2 rfl
      have t0 := free_of_block 0 g2
      have t1 := free_of_block 1 g2
      have G2 := Lib.hid g2
      have HB := Lib.hid (below_next HA.out hb)
      clear hb g2
      go_wp2_with fail
      refine (KW.out 2 S1 st1.bad _).mono ?_
      rintro e w5 ⟨rfl, hb5⟩
      have g3 := (Below.heap_alloc w2 (.cells #[.string S1, .int .i64 st1.bad] 71) _ hlt2).trans G2.out
      have hlt5 : w.heap.size + 1 < (w2.alloc (.cells #[.string S1, .int .i64 st1.bad] 71)).heap.size := by simp; omega
      have g5 := (hb5.block _ hlt5).trans g3
      have hb6 := (HB.out.alloc HB.out.size (.cells #[.string S1, .int .i64 st1.bad] 71)).trans (hb5.mono (Nat.le_trans HB.out.size (by simp)))
      have HB6 := Lib.hid hb6
      have p0 := cell_of_block (o := 0) g5 rfl
      have p1 := cell_of_block (o := 1) g5 rfl
      have z0 := free_of_block 0 g5
      have z1 := free_of_block 1 g5
      have G5 := Lib.hid g5
      clear hb5 g3 hlt5 g5 hb6 HB
      go_wp2
      refine bodyPost_ret (v := .tuple #[.agg #[.string ⟨#[]⟩, .int .i64 2], .int .i64 0]) (res_cell_tmp Tryd.results36 rfl rfl (rc_load (((wrote_refl G5.out).set 0 (.string ⟨#[]⟩)).set 1 (.int .i64 2)).there)) rfl ?_
      exact ⟨rfl, (by repeat (first | exact Below.refl _ _ | assumption | refine below_drewN ?_ _ | refine Below.drew ?_ | refine below_alloc ?_ _ | refine Below.alloc ?_ (by first | omega | (simp; done) | (simp; omega)) _ | refine Below.setCell ?_ (Below.size (by assumption)) _ | refine Below.setCell ?_ (by first | omega | (simp; done) | (simp; omega)) _ | (refine Below.trans ?_ (Below.mono (by assumption) (by first | omega | (simp; done) | (simp; omega)))) | refine below_next ?_ (by assumption)))⟩
    · rw [if_neg (by omega)]
      have hd1 : decide (v < 0) = false := decide_eq_false h1
      have hd2 : decide (v > most) = false := decide_eq_false h2
      go_enter Tryd.func36, Tryd.ntmps36
      go_wp2_with fail
      generalize (w.alloc (.cells #[.string S, .int .i64 bd] 71)).alloc (.cells #[.string ⟨#[]⟩, .int .i64 0] 71) = W1 at *
      refine (KI.out W1).mono ?_
      rintro e w2 ⟨rfl, hb⟩
      have g2 := (hb.block _ HLT.out).trans HN2.out
      have hlt2 : w.heap.size + 1 < w2.heap.size := Nat.lt_of_lt_of_le HLT.out hb.size
      have s0 := cell_of_block (o := 0) g2 rfl
      have s1 := cell_of_block (o := 1) g2 rfl
      have t0 := free_of_block 0 g2
      have t1 := free_of_block 1 g2
      have G2 := Lib.hid g2
      have HB := Lib.hid (below_next HA.out hb)
      clear hb g2
      have g3 := (Below.heap_alloc w2 (.cells #[.string S1, .int .i64 st1.bad] 71) _ hlt2).trans G2.out
      go_wp2
      refine bodyPost_ret (v := .tuple #[.agg #[.string S1, .int .i64 st1.bad], .int .i64 v]) (res_cell_tmp Tryd.results36 rfl rfl (rc_load ((Below.heap_alloc _ _ _ (by simp [World.setCell]; omega)).trans (((wrote_refl G2.out).set 0 (.string S1)).set 1 (.int .i64 st1.bad)).there))) rfl ?_
      rw [HS1.out]
      exact ⟨rfl, (by repeat (first | exact Below.refl _ _ | assumption | refine below_drewN ?_ _ | refine Below.drew ?_ | refine below_alloc ?_ _ | refine Below.alloc ?_ (by first | omega | (simp; done) | (simp; omega)) _ | refine Below.setCell ?_ (Below.size (by assumption)) _ | refine Below.setCell ?_ (by first | omega | (simp; done) | (simp; omega)) _ | (refine Below.trans ?_ (Below.mono (by assumption) (by first | omega | (simp; done) | (simp; omega)))) | refine below_next ?_ (by assumption)))⟩
  · rw [if_pos h0]
    have hq : (st1.bad != 0) = true := by simp [h0]
    clear h0
    go_enter Tryd.func36, Tryd.ntmps36
    go_wp2_with fail
    generalize (w.alloc (.cells #[.string S, .int .i64 bd] 71)).alloc (.cells #[.string ⟨#[]⟩, .int .i64 0] 71) = W1 at *
    refine (KI.out W1).mono ?_
    rintro e w2 ⟨rfl, hb⟩
    have g2 := (hb.block _ HLT.out).trans HN2.out
    have hlt2 : w.heap.size + 1 < w2.heap.size := Nat.lt_of_lt_of_le HLT.out hb.size
    have s0 := cell_of_block (o := 0) g2 rfl
    have s1 := cell_of_block (o := 1) g2 rfl
    have t0 := free_of_block 0 g2
    have t1 := free_of_block 1 g2
    have G2 := Lib.hid g2
    have HB := Lib.hid (below_next HA.out hb)
    clear hb g2
    have g3 := (Below.heap_alloc w2 (.cells #[.string S1, .int .i64 st1.bad] 71) _ hlt2).trans G2.out
    go_wp2
    refine bodyPost_ret (v := .tuple #[.agg #[.string S1, .int .i64 st1.bad], .int .i64 0]) (res_cell_tmp Tryd.results36 rfl rfl (rc_load ((Below.heap_alloc _ _ _ (by simp [World.setCell]; omega)).trans (((wrote_refl G2.out).set 0 (.string S1)).set 1 (.int .i64 st1.bad)).there))) rfl ?_
    rw [HS1.out]
    exact ⟨rfl, (by repeat (first | exact Below.refl _ _ | assumption | refine below_drewN ?_ _ | refine Below.drew ?_ | refine below_alloc ?_ _ | refine Below.alloc ?_ (by first | omega | (simp; done) | (simp; omega)) _ | refine Below.setCell ?_ (Below.size (by assumption)) _ | refine Below.setCell ?_ (by first | omega | (simp; done) | (simp; omega)) _ | (refine Below.trans ?_ (Below.mono (by assumption) (by first | omega | (simp; done) | (simp; omega)))) | refine below_next ?_ (by assumption)))⟩
end Go.Proofs.YtdfkfcpkejjlnaaDoor
