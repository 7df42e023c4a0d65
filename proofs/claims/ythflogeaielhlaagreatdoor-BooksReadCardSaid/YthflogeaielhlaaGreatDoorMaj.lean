/- Laws that belong together: A cursor's numbers. No condition.; Numbers laid behind bytes; a cursor made. No condition but the lengths' bound.; A cursor's small numbers, texts, lists of numbers, and its end. No condition but that errors.errorType reads as the program's text lays it.; A cursor's lists of numbers; a cursor that is nil. Its condition: errors.errorType reads as the program's text lays it.; Texts and lists of numbers laid behind bytes. No condition but the lengths' bound.; Layer 2's small play: it answers true. Its condition: errors.errorType reads as the program's text lays it.; What is laid is read as it was; cut by a byte it is not. Plainly. No condition.; What is read is laid so (the same as laws of layer 22, under a name of its own); plainly. No condition.; The document's answers of layer 2: a number laid, as text. No condition but the numbers' bounds.; The document's answers of layer 2: what is laid, as texts. No condition but the numbers' bounds.; The document's answers of layer 2: a cursor's readings. No condition but the numbers' bounds.; The document's answers of layer 2: small numbers, texts, the end. No condition but the numbers' bounds. -/
import Derived.Test.YthflogeaielhlaaGreatDoorMCur
import Derived.Deep.SlicePairs
import Derived.Test.YthflogeaielhlaaGreatDoorMai
import Derived.Lib.AppendStr
namespace Go.Proofs.YthflogeaielhlaaGreatDoor
set_option linter.unusedVariables false
open Go.ChangeShapes Go.WideShapes Go.ChangeAt Go.RowKit
attribute [local go_sem ↓] Go.wp_at_zero Go.wp_at_succ comesTo_value_eq comesTo_skip_eq comesTo_enter_eq

/-- a number that is read -/
def intF (st : CS) : CS × Int := if st.bad = 0 then (⟨(scan 0 0 st.xs).1, (scan 0 0 st.xs).2.1⟩, (scan 0 0 st.xs).2.2) else (st, 0)
theorem slice_from {b o n c k : Nat} (hk : k ≤ n) (hc : n ≤ c) (W : World) : Sem.run Tryz.prog (Instr.slice 22 (.slice (some ⟨b, o, none⟩) n c) (some (.int .i64 (k : Int))) none none) W = .ok (.slice (some ⟨b, if c = k then o else o + k, none⟩) (n - k) (c - k)) W := by
  by_cases h : c = k
  · subst h
    obtain rfl : n = c := by omega
    go_simp
  · rw [if_neg h]
    go_simp
/-- the bytes behind the first ones -/
theorem TxtAt.behind {w : World} {b o n c : Nat} {xs : List Int} (h : TxtAt w (.slice (some ⟨b, o, none⟩) n c) xs) {k : Nat} (hk : k ≤ n) (hc : n ≤ c) : TxtAt w (.slice (some ⟨b, if c = k then o else o + k, none⟩) (n - k) (c - k)) (xs.drop k) := by
  obtain ⟨hn, h | ⟨rfl, _⟩ | ⟨b', o', e, h0, hr⟩⟩ := h.form
  · cases h.1
  · exact .inr ⟨by simp, some ⟨b, if c = k then o else o + k, none⟩, c - k, by rw [show n - k = 0 by simp at hn; omega], fun h => by cases h⟩
  · cases e
    by_cases h : n = k
    · exact .inr ⟨List.drop_eq_nil_of_le (by omega), some ⟨b, if c = k then o else o + k, none⟩, c - k, by rw [show n - k = 0 by omega], fun h => by cases h⟩
    · rw [if_neg (by omega)]
      refine .inl ⟨b, o + k, _, by rw [show n - k = (xs.drop k).length by simp; omega], by simp; omega, ⟨fun j hj => ?_, fun j hj => ?_, fun j hj => ?_, ?_⟩⟩
      · have := hr.cell (k + j) (by simp at hj; omega)
        rw [show o + k + j = o + (k + j) by omega, this]
        simp [List.getD, List.getElem?_drop]
      · have := hr.lo (k + j) (by simp at hj; omega)
        simpa [List.getD, List.getElem?_drop] using this
      · have := hr.hi (k + j) (by simp at hj; omega)
        simpa [List.getD, List.getElem?_drop] using this
      · have := hr.len; simp; omega
theorem and_128 {m : Nat} (hm : m ≤ 255) : (bits BinOp.and IntKind.u8 (m : Int) 128 != 0) = decide (128 ≤ m) := by
  have h := u8_and_nat m 128 (by omega) (by decide)
  have hb : m &&& 128 = m / 128 % 2 * 128 := nat_bit 7 m
  rw [show ((128 : Nat) : Int) = 128 from rfl, hb] at h
  rw [h]
  by_cases h1 : 128 ≤ m
  · rw [decide_eq_true h1]; simp; omega
  · rw [decide_eq_false h1]; simp; omega
theorem or_lt {u m k : Nat} (hu : u < 2 ^ (7 * k)) (hk : k ≤ 9) (hm : m ≤ 255) (hA : ¬ (k = 9 ∧ 1 < m)) : u + m % 128 * 2 ^ (7 * k) < 18446744073709551616 := by
  rcases (by omega : k = 9 ∨ k ≤ 8) with rfl | h8
  · have : m % 128 * 2 ^ (7 * 9) ≤ 1 * 2 ^ (7 * 9) := Nat.mul_le_mul_right _ (by omega)
    simp at this hu
    omega
  · have h1 : m % 128 * 2 ^ (7 * k) ≤ 127 * 2 ^ (7 * k) := Nat.mul_le_mul_right _ (by omega)
    have h2 : 2 ^ (7 * k) ≤ 2 ^ 56 := Nat.pow_le_pow_right (by decide) (by omega)
    simp at h2
    omega
theorem or_step {u m k : Nat} (hu : u < 2 ^ (7 * k)) (hk : k ≤ 9) (hm : m ≤ 255) (hA : ¬ (k = 9 ∧ 1 < m)) :
    bits BinOp.or IntKind.u64 (u : Int) (IntKind.u64.wrap (IntKind.u64.wrap (bits BinOp.andNot IntKind.u8 (m : Int) 128) * 2 ^ (7 * k))) = ((u + m % 128 * 2 ^ (7 * k) : Nat) : Int) := by
  have hlt := or_lt hu hk hm hA
  have h1 : bits BinOp.andNot IntKind.u8 (m : Int) 128 = ((m % 128 : Nat) : Int) := by
    have := u8_andNot_nat m 128 (by omega) (by decide)
    rw [show 255 - 128 = 127 from rfl, nat_mask7] at this
    exact this
  have e : ((m % 128 : Nat) : Int) * 2 ^ (7 * k) = ((m % 128 * 2 ^ (7 * k) : Nat) : Int) := by simp [Int.natCast_mul, Int.natCast_pow]
  rw [h1, IntKind.wrap_u64 ((m % 128 : Nat) : Int), show ((m % 128 : Nat) : Int) % 18446744073709551616 = ((m % 128 : Nat) : Int) by omega, e, IntKind.wrap_u64, show ((m % 128 * 2 ^ (7 * k) : Nat) : Int) % 18446744073709551616 = ((m % 128 * 2 ^ (7 * k) : Nat) : Int) by omega,
    u64_or_nat _ _ (by omega) (by omega), Nat.or_comm, nat_join (7 * k) _ _ (Nat.mul_mod_left _ _) hu, Nat.add_comm]
set_option maxRecDepth 100000 in
theorem int_cur {w : World} {C : Nat} {F : Nat → Prop} {st : CS} (h : Cur w C F st) :
    Calls Tryz.prog 11 #[.pointer (some ⟨C, 0, none⟩)] w fun r w' => r = .returned (.int .i64 (intF st).2) ∧ Cur w' C F (intF st).1 ∧ Fr (fun j => j = C) w w' := by
  obtain ⟨ad, n, c, hb, ht, hc, hp⟩ := h.at_
  unfold intF
  by_cases h0 : st.bad = 0
  · rw [if_pos h0]
    rw [h0, show badV 0 = .nilIface from rfl] at hb
    have KF0 : ∀ e : Int, e ≠ 0 → Calls Tryz.prog 27 #[.pointer (some ⟨C, 0, none⟩), .int .i64 e] w fun r w' => r = .returned (.int .i64 0) ∧ Cur w' C F ⟨[], e⟩ ∧ Fr (fun j => j = C) w w' := fun e he => by
      have := fail_cur h e he
      rwa [show failF st e = ⟨[], e⟩ from if_pos h0] at this
    have KF := Lib.hid KF0
    clear KF0
    have c0 := cell_of_block (o := 0) hb rfl
    have c1 := cell_of_block (o := 1) hb rfl
    have f0 := free_of_block 0 hb
    have H := Lib.hid h
    have HB := Lib.hid hb
    have HT := Lib.hid ht
    have HP := Lib.hid hp
    have HC := Lib.hid hc
    have hn := ht.form.1
    have HN := Lib.hid hn
    have hfit := h.fits
    rw [← hn] at hfit
    have HI := Lib.hid hfit
    obtain ⟨xs, bd⟩ := st
    simp only at *
    clear ht hp h h0 hb hc hn hfit
    go_enter Tryz.func11, Tryz.ntmps11
    go_wp2_with fail
    go_loop [3, 20] (fun v i => ∃ k u : Nat, k ≤ n ∧ k ≤ 9 ∧ u < 2 ^ (7 * k) ∧ i = .int .i64 k ∧ v = .int .u64 (u : Int) ∧ scan k u (xs.drop k) = scan 0 0 xs) (fun _ i => n - (intOf i).toNat)
    case atStart => exact ⟨0, 0, Nat.zero_le _, Nat.zero_le _, by decide, rfl, rfl, rfl⟩
    case round =>
      obtain ⟨k, u, hk, hk9, hu, rfl, rfl, hsc⟩ := hrel
      have HS := Lib.hid hsc
      have HU := Lib.hid hu
      clear hsc hu
      by_cases hlt : k < n
      · have hd1 : decide ((k : Int) < (n : Int)) = true := decide_eq_true (by omega)
        obtain ⟨b, o, rfl, hr⟩ : ∃ b o, ad = some ⟨b, o, none⟩ ∧ BytesRow w b o xs := by
          have hn := HN.out
          rcases HT.out.form.2 with ⟨_, rfl⟩ | ⟨rfl, _⟩ | ⟨b, o, h1, _, h2⟩
          · simp at hn; omega
          · simp at hn; omega
          · exact ⟨b, o, h1, h2⟩
        have hcell := hr.cell k (by have := HN.out; omega)
        have hlo := hr.lo k (by have := HN.out; omega)
        have hhi := hr.hi k (by have := HN.out; omega)
        have hdr : xs.drop k = xs.getD k 0 :: xs.drop (k + 1) := by
          have hl : k < xs.length := by have := HN.out; omega
          rw [List.drop_eq_getElem_cons hl]; simp [List.getD, List.getElem?_eq_getElem hl]
        have HS2 := Lib.hid (hdr ▸ HS.out)
        clear hr hdr HS
        generalize xs.getD k 0 = x at *
        obtain ⟨m, rfl⟩ : ∃ m : Nat, x = (m : Int) := ⟨x.toNat, by omega⟩
        have hm : m ≤ 255 := by omega
        have h7w : IntKind.i64.wrap (7 * (k : Int)) = 7 * (k : Int) := IntWalk.i64_in _ (by omega)
        have h7a : 0 ≤ 7 * (k : Int) := by omega
        have h7b : 7 * (k : Int) ≤ 64 := by omega
        have HM := Lib.hid hm
        clear hlo hhi
        by_cases hA : k = 9 ∧ 1 < m
        · have hq : decide ((m : Int) > 1) = true := decide_eq_true (by omega)
          have hq9 : ((k : Int) == 9) = true := by rw [beq_iff_eq]; omega
          have he : scan 0 0 xs = ([], 11, 0) := by
            rw [← HS2.out]; unfold scan; rw [if_pos ⟨hA.1, by omega⟩]
          have HSC := Lib.hid he
          clear he hA hm
          go_wp2_with fail
          refine (KF.out 11 (by decide)).mono ?_
          rintro e w1 ⟨rfl, hc1, hf1⟩
          go_wp2
          go_ret
          rw [HSC.out]
          exact ⟨rfl, hc1, hf1⟩
        · obtain ⟨u2, hu2⟩ : ∃ u2, u2 = u + m % 128 * 2 ^ (7 * k) := ⟨_, rfl⟩
          have hor := or_step HU.out hk9 hm hA
          rw [← hu2] at hor
          have HOR := Lib.hid hor
          have h64 := or_lt HU.out hk9 hm hA
          rw [← hu2] at h64
          have hcase : ((k : Int) == 9) = true ∧ decide ((m : Int) > 1) = false ∨ ((k : Int) == 9) = false := by
            by_cases h9 : k = 9
            · exact .inl ⟨by rw [beq_iff_eq]; omega, decide_eq_false (by omega)⟩
            · exact .inr (by rw [beq_eq_false_iff_ne]; omega)
          have hna : ¬ (k = 9 ∧ 1 < (m : Int)) := by omega
          by_cases h128 : 128 ≤ m
          · have hnz : (bits BinOp.and IntKind.u8 (m : Int) 128 != 0) = true := by rw [and_128 hm]; exact decide_eq_true h128
            have hs : scan (k + 1) u2 (xs.drop (k + 1)) = scan 0 0 xs := by
              rw [← HS2.out]
              conv => rhs; unfold scan
              rw [if_neg hna, if_pos (by omega), show ((m : Int) - 128).toNat = m % 128 by omega, ← hu2]
            have hk8 : k ≤ 8 := by omega
            have hu3 : u2 < 2 ^ (7 * (k + 1)) := by
              have := HU.out
              rw [hu2, show 7 * (k + 1) = 7 + 7 * k by omega, Nat.pow_add]
              have : m % 128 * 2 ^ (7 * k) ≤ 127 * 2 ^ (7 * k) := Nat.mul_le_mul_right _ (by omega)
              omega
            have HS3 := Lib.hid hs
            have HU3 := Lib.hid hu3
            clear hs hu3 HS2 HU hu2 hna hA h128 h64 hm
            rcases hcase with ⟨q1, q2⟩ | q1
            · rw [beq_iff_eq] at q1; omega
            · go_wp2
              go_round
              case rel => exact ⟨k + 1, u2, by omega, by omega, HU3.out, by go_num, rfl, HS3.out⟩
              case measure => simp [intOf]; omega
          · have hnz : (bits BinOp.and IntKind.u8 (m : Int) 128 != 0) = false := by rw [and_128 hm]; exact decide_eq_false h128
            by_cases hz : 0 < k ∧ m = 0
            · have hkz : decide ((k : Int) > 0) = true := decide_eq_true (by omega)
              have hmz : ((m : Int) == 0) = true := by rw [beq_iff_eq]; omega
              have he : scan 0 0 xs = ([], 11, 0) := by
                rw [← HS2.out]; unfold scan; rw [if_neg hna, if_neg (by omega), if_pos (by omega)]
              have HSC := Lib.hid he
              have hk0 : 0 < k := hz.1
              clear he HS2 HU hu2 hna hA h128 h64 hz hm
              rcases hcase with ⟨q1, q2⟩ | q1 <;> (
              go_wp2_with fail
              refine (KF.out 11 (by decide)).mono ?_
              rintro e w1 ⟨rfl, hc1, hf1⟩
              go_wp2
              go_ret
              rw [HSC.out]
              exact ⟨rfl, hc1, hf1⟩)
            · have he : scan 0 0 xs = (xs.drop (k + 1), 0, unfoldF u2) := by
                rw [← HS2.out]; unfold scan; rw [if_neg hna, if_neg (by omega), if_neg (by omega), show ((m : Int)).toNat = m % 128 by omega, ← hu2]
              have HSC := Lib.hid he
              clear he
              have hz2 : (decide ((k : Int) > 0) = false ∧ ¬ 0 < k) ∨ decide ((k : Int) > 0) = true ∧ ((m : Int) == 0) = false ∧ 0 < k := by
                rcases Nat.eq_zero_or_pos k with h | h
                · exact .inl ⟨decide_eq_false (by omega), by omega⟩
                · exact .inr ⟨decide_eq_true (by omega), by rw [beq_eq_false_iff_ne]; omega, h⟩
              have KU := Lib.hid (fun W => unfold_any h64 W)
              have hdl : (xs.drop (k + 1)).length ≤ xs.length := by simp
              by_cases hck : c = k + 1
              · have hcn := HC.out
                obtain rfl : n = c := by omega
                subst hck
                have HE := Lib.hid (H.out.wrote (st' := ⟨xs.drop (k + 1), 0⟩) (w' := w.setCell ⟨C, 0, none⟩ (.slice (some ⟨b, o, none⟩) 0 0)) ((wrote_refl HB.out).set 0 (.slice (some ⟨b, o, none⟩) 0 0)) (fun h => absurd rfl h) hdl (by
                    have := HT.out.behind (k := k + 1) (Nat.le_refl _) (Nat.le_refl _)
                    rw [if_pos rfl, Nat.sub_self] at this
                    exact this) (Nat.le_refl _) (fun p e => by cases e; exact HP.out ⟨b, o, none⟩ rfl))
                clear hdl HS2 HU hu2 hna hA h128 h64 hz hm hcn
                rcases hcase with ⟨q1, q2⟩ | q1 <;> rcases hz2 with ⟨z1, z3⟩ | ⟨z1, z2, z3⟩ <;> (
                go_wp2_with fail
                refine (KU.out _).mono ?_
                rintro e w1 ⟨rfl, rfl⟩
                go_wp2
                go_ret
                rw [HSC.out]
                exact ⟨rfl, HE.out.1, HE.out.2⟩)
              · have HE := Lib.hid (H.out.wrote (st' := ⟨xs.drop (k + 1), 0⟩) (w' := w.setCell ⟨C, 0, none⟩ (.slice (some ⟨b, o + (k + 1), none⟩) (n - (k + 1)) (c - (k + 1)))) ((wrote_refl HB.out).set 0 (.slice (some ⟨b, o + (k + 1), none⟩) (n - (k + 1)) (c - (k + 1)))) (fun h => absurd rfl h) hdl (by
                    have := HT.out.behind (k := k + 1) (by omega) HC.out
                    rw [if_neg hck] at this
                    exact this) (by have := HC.out; omega) (fun p e => by cases e; exact HP.out ⟨b, o, none⟩ rfl))
                have hkc := Nat.le_trans (show k + 1 ≤ n by omega) HC.out
                clear hdl HS2 HU hu2 hna hA h128 h64 hz hm
                rcases hcase with ⟨q1, q2⟩ | q1 <;> rcases hz2 with ⟨z1, z3⟩ | ⟨z1, z2, z3⟩ <;> (
                go_wp2_with fail
                refine (KU.out _).mono ?_
                rintro e w1 ⟨rfl, rfl⟩
                go_wp2
                go_ret
                rw [HSC.out]
                exact ⟨rfl, HE.out.1, HE.out.2⟩)
      · obtain rfl : k = n := by omega
        have hd1 : decide ((k : Int) < (k : Int)) = false := decide_eq_false (by omega)
        have he : scan 0 0 xs = ([], 10, 0) := by
          rw [← HS.out, List.drop_eq_nil_of_le (by have := HN.out; omega)]
          cases k <;> rfl
        have HSC := Lib.hid he
        clear he hlt
        go_wp2_with fail
        refine (KF.out 10 (by decide)).mono ?_
        rintro e w1 ⟨rfl, hc1, hf1⟩
        go_wp2
        go_ret
        rw [HSC.out]
        exact ⟨rfl, hc1, hf1⟩
  · rw [if_neg h0]
    rw [show badV st.bad = .iface 24 (.int .i64 st.bad) from if_neg h0] at hb
    have c1 := cell_of_block (o := 1) hb rfl
    have H := Lib.hid h
    clear ht hc hp h h0 hb
    go_enter Tryz.func11, Tryz.ntmps11
    go_wp2
    go_ret
    exact ⟨rfl, H.out, Fr.refl _ _⟩
end Go.Proofs.YthflogeaielhlaaGreatDoor
namespace Go.Proofs.YthflogeaielhlaaGreatDoor
set_option linter.unusedVariables false
open Go.ChangeShapes Go.WideShapes Go.ChangeAt Go.RowKit
attribute [local go_sem ↓] Go.wp_at_zero Go.wp_at_succ comesTo_value_eq comesTo_skip_eq comesTo_enter_eq

/-- a cursor is made -/
theorem read_cur {w : World} {v : Value} {xs : List Int} (h : TxtAt w v xs) (hl : xs.length ≤ 1099511627775) :
    Calls Tryz.prog 9 #[v] w fun e w' => ∃ C, e = .returned (.pointer (some ⟨C, 0, none⟩)) ∧ Cur w' C (fun j => w.heap.size ≤ j) ⟨xs, 0⟩ ∧ Below w.heap.size w w' := by
  have K := Lib.hid (clone_bytes h (by omega))
  clear h
  go_enter Tryz.func9, Tryz.ntmps9
  go_wp2_with fail
  refine K.out.mono ?_
  rintro e w1 ⟨u, rfl, ho, hb, _⟩
  have HO := Lib.hid ho
  have HB := Lib.hid hb
  clear ho hb K
  rcases HO.out.form with ⟨rfl, rfl⟩ | ⟨g, c, rfl, hn, hc⟩
  · go_wp2
    go_ret
    have hA := below_alloc (Below.refl _ w1) (.cells #[.slice none 0 0, .nilIface] 76)
    exact ⟨w1.heap.size, rfl, ⟨HB.out.size, fun h => absurd rfl h, hl, none, 0, 0, World.alloc_heap_new w1 _, .inr ⟨rfl, none, 0, rfl, fun _ => rfl⟩, Nat.le_refl _, fun p hp => by cases hp⟩, HB.out.trans (hA.mono HB.out.size)⟩
  · have HC := Lib.hid hn
    have HL := Lib.hid hl
    clear hn hc hl
    go_wp2
    go_ret
    have hA := below_alloc (Below.refl _ w1) (.cells #[.slice (some ⟨g, 0, none⟩) xs.length c, .nilIface] 76)
    refine ⟨w1.heap.size, rfl, ⟨HB.out.size, fun h => absurd rfl h, HL.out, some ⟨g, 0, none⟩, xs.length, c, World.alloc_heap_new w1 _, HO.out.at.below hA, HC.out, fun p hp => ?_⟩, HB.out.trans (hA.mono HB.out.size)⟩
    cases hp
    have h1 := ownBlock_lt HO.out (g := g) rfl
    have h2 := HO.out.blockGe (g := g) rfl
    exact ⟨by show g ≠ w1.heap.size; omega, h2, Nat.lt_of_lt_of_le h1 hA.size⟩
theorem or_128 : ∀ x : Nat, x < 256 → x ||| 128 = x % 128 + 128 := by decide +kernel
theorem or_more (u : Nat) : bits BinOp.or IntKind.u8 ((u : Int) % 256) 128 = ((u % 128 + 128 : Nat) : Int) := by
  have h := u8_or_nat (u % 256) 128 (by omega) (by decide)
  rw [or_128 _ (by omega), show u % 256 % 128 = u % 128 by omega] at h
  rw [show (u : Int) % 256 = ((u % 256 : Nat) : Int) by omega]
  exact h
theorem byte_txt {w : World} {b : Nat} {x : Int} {T : TypeId} (hb : w.heap[b]? = some (.cells #[.int .u8 x] T (0, 0))) (h : 0 ≤ x ∧ x ≤ 255) : TxtAt w (.slice (some ⟨b, 0, none⟩) 1 1) [x] := by
  refine .inl ⟨b, 0, 1, rfl, by simp, ⟨fun k hk => ?_, fun k hk => ?_, fun k hk => ?_, by simp⟩⟩ <;> (obtain rfl : k = 0 := by simpa using hk)
  · exact cell_of_block hb rfl
  · exact h.1
  · exact h.2
set_option maxRecDepth 100000 in
theorem lay64_any {w : World} {B : Nat} {v : Value} {xs : List Int} (h : OwnTxt w B v xs) (hB : B ≤ w.heap.size) (hl : xs.length ≤ 1099511627776) {n : Int} (hn : -9223372036854775808 ≤ n ∧ n ≤ 9223372036854775807) :
    Calls Tryz.prog 50 #[v, .int .i64 n] w fun e w' => ∃ u, e = .returned u ∧ OwnTxt w' B u (xs ++ putI n) ∧ Below B w w' := by
  have K := Lib.hid (fold_any hn w)
  have h64 := fold_lt hn
  have hlen := putI_len hn
  have HO := Lib.hid h
  clear h
  unfold putI at *
  generalize foldF n = u0 at *
  go_enter Tryz.func50, Tryz.ntmps50
  go_wp2_with fail
  refine K.out.mono ?_
  rintro e w' ⟨rfl, rfl⟩
  have HL := Lib.hid hlen
  clear hlen
  go_wp2_with fail
  go_loopw [0, 5] (fun b r wr => ∃ (v' : Value) (acc : List Int) (u : Nat), b = v' ∧ r = .int .u64 (u : Int) ∧ u < 18446744073709551616 ∧ acc ++ putU u = putU u0 ∧ OwnTxt wr B v' (xs ++ acc) ∧ Below B w wr) (fun _ r _ => (intOf r).toNat)
  case atStart => exact ⟨v, [], u0, rfl, rfl, h64, rfl, by rw [List.append_nil]; exact HO.out, Below.refl _ _⟩
  case round =>
    clear HO
    obtain ⟨v', acc, u, rfl, rfl, hu, hacc, ho, hb⟩ := hrel
    have HA := Lib.hid hacc
    have HB := Lib.hid hb
    have hal : acc.length + (putU u).length ≤ 10 := by
      have := HL.out
      rw [← hacc, List.length_append] at this
      exact this
    clear hacc hb
    by_cases h128 : u < 128
    · have hq : decide ((u : Int) ≥ 128) = false := decide_eq_false (by omega)
      have hw : IntKind.u8.wrap (u : Int) = (u : Int) := by rw [IntKind.wrap_u8']; omega
      have hA1 := below_alloc (Below.refl _ wr) (.cells #[.int .u8 (u : Int)] 5)
      have HO1 := Lib.hid (ho.below hA1)
      have HT1 := Lib.hid (byte_txt (World.alloc_heap_new wr (.cells #[.int .u8 (u : Int)] 5)) (by omega))
      have HA1 := Lib.hid hA1
      rw [putU_lt h128] at HA
      have h9 : (xs ++ acc).length + 1 ≤ 140737488355328 := by
        have := putU_len u
        simp; omega
      have hBA : B ≤ (wr.alloc (.cells #[.int .u8 (u : Int)] 5)).heap.size := Nat.le_trans hB (Nat.le_trans HB.out.size HA1.out.size)
      have HF := Lib.hid (HB.out.trans (HA1.out.mono (Nat.le_trans hB HB.out.size)))
      clear ho hA1 hal h128
      go_wp2_with (at_builtin; go_loud (refine wpList_append_txt (by rfl) _ _ (by rfl) B u0 (xs ++ acc) (by rfl) HO1.out _ [(u : Int)] (by rfl) HT1.out (by simpa using h9) hBA ?_; intro ad n' c' w1 o1 b1 g1; have O1 := Lib.hid o1; have B1 := Lib.hid b1; clear o1 b1 g1))
      go_ret
      refine ⟨_, rfl, ?_, HF.out.trans B1.out⟩
      rw [← HA.out, ← List.append_assoc]
      exact O1.out
    · have hq : decide ((u : Int) ≥ 128) = true := decide_eq_true (by omega)
      have hor := or_more u
      have hA1 := below_alloc (Below.refl _ wr) (.cells #[.int .u8 ((u % 128 + 128 : Nat) : Int)] 5)
      have HO1 := Lib.hid (ho.below hA1)
      have HT1 := Lib.hid (byte_txt (World.alloc_heap_new wr (.cells #[.int .u8 ((u % 128 + 128 : Nat) : Int)] 5)) (by omega))
      have HA1 := Lib.hid hA1
      rw [putU_ge h128] at HA
      have h9 : (xs ++ acc).length + 1 ≤ 140737488355328 := by simp; omega
      have hBA : B ≤ (wr.alloc (.cells #[.int .u8 ((u % 128 + 128 : Nat) : Int)] 5)).heap.size := Nat.le_trans hB (Nat.le_trans HB.out.size HA1.out.size)
      have HF := Lib.hid (HB.out.trans (HA1.out.mono (Nat.le_trans hB HB.out.size)))
      have HM := Lib.hid (show u / 128 < u ∧ u / 128 < 18446744073709551616 by omega)
      generalize u % 128 + 128 = y at *
      clear ho hA1 hal h128
      go_wp2_with (at_builtin; go_loud (refine wpList_append_txt (by rfl) _ _ (by rfl) B u0 (xs ++ acc) (by rfl) HO1.out _ [(y : Int)] (by rfl) HT1.out (by simpa using h9) hBA ?_; intro ad n' c' w1 o1 b1 g1; have O1 := Lib.hid o1; have B1 := Lib.hid b1; clear o1 b1 g1))
      go_roundw
      case rel => exact ⟨_, acc ++ [(y : Int)], u / 128, rfl, by rw [Int.natCast_ediv]; rfl, HM.out.2, by rw [List.append_assoc]; exact HA.out, by rw [← List.append_assoc]; exact O1.out, HF.out.trans B1.out⟩
      case measure => have := HM.out.1; simp [intOf]; omega
/-- a number behind bytes -/
theorem putint_any {w : World} {v : Value} {xs : List Int} (h : TxtAt w v xs) (hl : xs.length ≤ 1099511627776) {n : Int} (hn : -9223372036854775808 ≤ n ∧ n ≤ 9223372036854775807) :
    Calls Tryz.prog 36 #[v, .int .i64 n] w fun e w' => ∃ u, e = .returned u ∧ OwnTxt w' w.heap.size u (xs ++ putI n) ∧ Below w.heap.size w w' := by
  have K := Lib.hid (clone_bytes h (by omega))
  clear h
  go_enter Tryz.func36, Tryz.ntmps36
  go_wp2_with fail
  refine K.out.mono ?_
  rintro e w1 ⟨u, rfl, ho, hb, _⟩
  have KL := Lib.hid (lay64_any ho hb.size hl hn)
  have HB := Lib.hid hb
  clear ho hb K
  go_wp2_with fail
  refine KL.out.mono ?_
  rintro e w2 ⟨u2, rfl, ho2, hb2⟩
  have HO2 := Lib.hid ho2
  have HB2 := Lib.hid (HB.out.trans hb2)
  clear ho2 hb2
  go_wp2
  go_ret
  exact ⟨_, rfl, HO2.out, HB2.out⟩
end Go.Proofs.YthflogeaielhlaaGreatDoor
namespace Go.Proofs.YthflogeaielhlaaGreatDoor
set_option linter.unusedVariables false
open Go.ChangeShapes Go.WideShapes Go.ChangeAt Go.RowKit
attribute [local go_sem ↓] Go.wp_at_zero Go.wp_at_succ comesTo_value_eq comesTo_skip_eq comesTo_enter_eq

theorem Cur.apart {w : World} {C : Nat} {F : Nat → Prop} {st : CS} (h : Cur w C F st) (hE : ErrAt w) : C ≠ 0 := by
  rintro rfl
  obtain ⟨_, _, _, ad, n, c, hb, _⟩ := h
  have h1 := cell_of_block (o := 0) hb rfl
  unfold ErrAt at hE
  rw [h1] at hE
  cases hE
theorem ErrAt.fr {w w' : World} {G : Nat → Prop} (h : ErrAt w) (hf : Fr G w w') (hg : ¬ G 0) : ErrAt w' := by
  unfold ErrAt at h ⊢
  have hlt := World.block_lt_of_cell? w _ h
  have := hf.block _ hlt hg
  simp only [World.cell?, this] at h ⊢
  exact h
theorem ErrAt.below {w w' : World} (h : ErrAt w) (hb : Below w.heap.size w w') : ErrAt w' := h.fr (G := fun _ => False) (Fr.of_below hb) (fun h => h)
theorem intF_bad (st : CS) : (intF st).1.bad = 0 ∨ (intF st).2 = 0 ∧ (st.bad = 0 → (intF st).1.xs = []) := by
  unfold intF
  split
  · rcases scan_bad 0 0 st.xs with h | h
    · exact .inl h
    · exact .inr ⟨h.2, fun _ => h.1⟩
  · rename_i h
    exact .inr ⟨rfl, fun h' => absurd h' h⟩
def CS.bytes (st : CS) : Prop := ∀ x ∈ st.xs, 0 ≤ x ∧ x ≤ 255
theorem Cur.bytes {w : World} {C : Nat} {F : Nat → Prop} {st : CS} (h : Cur w C F st) : st.bytes := by
  obtain ⟨_, _, _, ad, n, c, _, ht, _⟩ := h
  intro x hx
  rcases ht.form.2 with ⟨_, e⟩ | ⟨e, _⟩ | ⟨b, o, _, _, hr⟩
  · rw [e] at hx; cases hx
  · rw [e] at hx; cases hx
  · obtain ⟨k, hk, rfl⟩ := List.mem_iff_getElem.1 hx
    have h1 := hr.lo k hk
    have h2 := hr.hi k hk
    simp [List.getD, List.getElem?_eq_getElem hk] at h1 h2
    exact ⟨h1, h2⟩
theorem intF_in {st : CS} (h : st.bytes) : -9223372036854775808 ≤ (intF st).2 ∧ (intF st).2 ≤ 9223372036854775807 := by
  unfold intF
  split
  · exact scan_in st.xs 0 0 h (Nat.zero_le 9) Nat.one_pos
  · show -9223372036854775808 ≤ (0 : Int) ∧ (0 : Int) ≤ 9223372036854775807
    omega
/-- a small number that is read -/
def smallF (st : CS) (most : Int) : CS × Int := if (intF st).2 < 0 ∨ most < (intF st).2 then (failF (intF st).1 2, 0) else intF st
set_option maxRecDepth 100000 in
theorem small_cur {w : World} {C : Nat} {F : Nat → Prop} {st : CS} (h : Cur w C F st) (most : Int) :
    Calls Tryz.prog 12 #[.pointer (some ⟨C, 0, none⟩), .int .i64 most] w fun r w' => r = .returned (.int .i64 (smallF st most).2) ∧ Cur w' C F (smallF st most).1 ∧ Fr (fun j => j = C) w w' := by
  have K := Lib.hid (int_cur h)
  have hin := intF_in h.bytes
  unfold smallF
  clear h
  generalize intF st = p at *
  obtain ⟨st1, v⟩ := p
  simp only at *
  have hw : IntKind.i64.wrap v = v := IntWalk.i64_in v hin
  rcases (by omega : v < 0 ∨ ¬ v < 0 ∧ most < v ∨ ¬ v < 0 ∧ ¬ most < v) with h1 | ⟨h1, h2⟩ | ⟨h1, h2⟩
  · rw [if_pos (Or.inl h1)]
    have hd1 : decide (v < 0) = true := decide_eq_true h1
    clear hin
    go_enter Tryz.func12, Tryz.ntmps12
    go_wp2_with fail
    refine K.out.mono ?_
    rintro e w1 ⟨rfl, hc, hf⟩
    have KF := Lib.hid (fail_cur hc 2 (by decide))
    have HF := Lib.hid hf
    clear hc hf K
    go_wp2_with fail
    refine KF.out.mono ?_
    rintro e w2 ⟨rfl, hc2, hf2⟩
    have HC := Lib.hid hc2
    have HF2 := Lib.hid (HF.out.trans hf2 (fun j hj => .inl hj))
    clear hc2 hf2
    go_wp2
    go_ret
    exact ⟨rfl, HC.out, HF2.out⟩
  · rw [if_pos (Or.inr h2)]
    have hd1 : decide (v < 0) = false := decide_eq_false h1
    have hd2 : decide (v > most) = true := decide_eq_true h2
    clear hin
    go_enter Tryz.func12, Tryz.ntmps12
    go_wp2_with fail
    refine K.out.mono ?_
    rintro e w1 ⟨rfl, hc, hf⟩
    have KF := Lib.hid (fail_cur hc 2 (by decide))
    have HF := Lib.hid hf
    clear hc hf K
    go_wp2_with fail
    refine KF.out.mono ?_
    rintro e w2 ⟨rfl, hc2, hf2⟩
    have HC := Lib.hid hc2
    have HF2 := Lib.hid (HF.out.trans hf2 (fun j hj => .inl hj))
    clear hc2 hf2
    go_wp2
    go_ret
    exact ⟨rfl, HC.out, HF2.out⟩
  · rw [if_neg (by omega)]
    have hd1 : decide (v < 0) = false := decide_eq_false h1
    have hd2 : decide (v > most) = false := decide_eq_false h2
    clear hin
    go_enter Tryz.func12, Tryz.ntmps12
    go_wp2_with fail
    refine K.out.mono ?_
    rintro e w1 ⟨rfl, hc, hf⟩
    have HC := Lib.hid hc
    have HF2 := Lib.hid hf
    clear hc hf K
    go_wp2
    go_ret
    exact ⟨rfl, HC.out, HF2.out⟩
/-- what is wrong in the end -/
def endF (st : CS) : Int := if st.bad = 0 ∧ 0 < st.xs.length then 11 else st.bad
set_option maxRecDepth 100000 in
theorem end_cur {w : World} {C : Nat} {F : Nat → Prop} {st : CS} (h : Cur w C F st) (hE : ErrAt w) :
    Calls Tryz.prog 14 #[.pointer (some ⟨C, 0, none⟩)] w fun r w' => r = .returned (.int .i64 (endF st)) ∧ Below w.heap.size w w' := by
  have K := Lib.hid (bad_cur h hE)
  have H := Lib.hid h
  have HE := Lib.hid hE
  clear h hE
  unfold endF
  by_cases h0 : st.bad = 0
  · rw [h0] at K ⊢
    have hl : ∃ n : Nat, st.xs.length = n := ⟨_, rfl⟩
    obtain ⟨n, hn⟩ := hl
    have KR0 := fun (w1 : World) (hb : Below w.heap.size w w1) => rest_cur (H.out.below hb)
    rw [hn] at KR0 ⊢
    have KR := Lib.hid KR0
    clear KR0 hn
    by_cases hx : 0 < n
    · rw [if_pos ⟨rfl, hx⟩]
      have hd : decide ((n : Int) > 0) = true := decide_eq_true (by omega)
      go_enter Tryz.func14, Tryz.ntmps14
      go_wp2_with fail
      refine K.out.mono ?_
      rintro e w1 ⟨rfl, hb⟩
      have HB := Lib.hid hb
      have KR1 := Lib.hid (KR.out w1 hb)
      clear hb
      go_wp2_with fail
      refine KR1.out.mono ?_
      rintro e w2 ⟨rfl, rfl⟩
      go_wp2_with fail
      go_ret
      exact ⟨rfl, HB.out⟩
    · rw [if_neg (by omega)]
      have hd : decide ((n : Int) > 0) = false := decide_eq_false (by omega)
      obtain rfl : n = 0 := by omega
      go_enter Tryz.func14, Tryz.ntmps14
      go_wp2_with fail
      refine K.out.mono ?_
      rintro e w1 ⟨rfl, hb⟩
      have HB := Lib.hid hb
      have KR1 := Lib.hid (KR.out w1 hb)
      have KB0 := bad_cur (H.out.below hb) (HE.out.below hb)
      rw [h0] at KB0
      have KB := Lib.hid KB0
      clear hb KB0
      go_wp2_with fail
      refine KR1.out.mono ?_
      rintro e w2 ⟨rfl, rfl⟩
      go_wp2_with fail
      refine KB.out.mono ?_
      rintro e w3 ⟨rfl, hb3⟩
      have HB3 := Lib.hid (below_next HB.out hb3)
      clear hb3
      go_wp2_with fail
      go_ret
      exact ⟨rfl, HB3.out⟩
  · rw [if_neg (by omega)]
    go_enter Tryz.func14, Tryz.ntmps14
    go_wp2_with fail
    refine K.out.mono ?_
    rintro e w1 ⟨rfl, hb⟩
    have KB := Lib.hid (bad_cur (H.out.below hb) (HE.out.below hb))
    have HB := Lib.hid hb
    clear hb
    go_wp2_with fail
    refine KB.out.mono ?_
    rintro e w3 ⟨rfl, hb3⟩
    have HB3 := Lib.hid (below_next HB.out hb3)
    clear hb3
    go_wp2_with fail
    go_ret
    exact ⟨rfl, HB3.out⟩
/-- a text that is read -/
def textF (st : CS) : CS × List Int :=
  if ((smallF st 65536).1.xs.length : Int) < (smallF st 65536).2 then (failF (smallF st 65536).1 10, [])
  else (⟨(smallF st 65536).1.xs.drop (smallF st 65536).2.toNat, (smallF st 65536).1.bad⟩, (smallF st 65536).1.xs.take (smallF st 65536).2.toNat)
theorem smallF_in {st : CS} {most : Int} (hm : 0 ≤ most) : 0 ≤ (smallF st most).2 ∧ (smallF st most).2 ≤ most := by
  unfold smallF
  split
  · exact ⟨Int.le_refl _, hm⟩
  · omega
theorem smallF_bad {st : CS} {most : Int} (h : (smallF st most).1.bad ≠ 0) : (smallF st most).2 = 0 := by
  unfold smallF at *
  split
  · rfl
  · rename_i hn
    rw [if_neg hn] at h
    rcases intF_bad st with h1 | h1
    · exact absurd h1 h
    · exact h1.1
end Go.Proofs.YthflogeaielhlaaGreatDoor
namespace Go.Proofs.YthflogeaielhlaaGreatDoor
set_option linter.unusedVariables false
open Go.ChangeShapes Go.WideShapes Go.ChangeAt Go.RowKit
attribute [local go_sem ↓] Go.wp_at_zero Go.wp_at_succ comesTo_value_eq comesTo_skip_eq comesTo_enter_eq

theorem OwnL.fr {w w' : World} {B : Nat} {v : Value} {l : List Int} {G : Nat → Prop} (h : OwnL w B v l) (hf : Fr G w w') (hG : ∀ j, B ≤ j → ¬ G j) : OwnL w' B v l := by
  refine ⟨h.1, ?_⟩
  rcases h.2 with hn | ⟨g, cap, cur, hv, hB, hg, rest⟩
  · exact .inl hn
  · refine .inr ⟨g, cap, cur, hv, hB, ?_, rest⟩
    rw [hf.block g (Array.getElem?_eq_some_iff.1 hg).1 (hG g hB)]; exact hg
theorem scan_less (xs : List Int) : ∀ (i u : Nat), (scan i u xs).2.1 = 0 → (scan i u xs).1.length < xs.length := by
  induction xs with
  | nil => intro i u h; simp [scan] at h
  | cons x xs ih =>
    intro i u h
    unfold scan at h ⊢
    split
    · rename_i h1; rw [if_pos h1] at h; simp at h
    · rename_i h1
      rw [if_neg h1] at h
      split
      · rename_i h2
        rw [if_pos h2] at h
        have := ih _ _ h
        simp; omega
      · rename_i h2
        rw [if_neg h2] at h
        split
        · rename_i h3; rw [if_pos h3] at h; simp at h
        · simp
theorem intF_less {st : CS} (h : st.bad = 0) (h' : (intF st).1.bad = 0) : (intF st).1.xs.length < st.xs.length := by
  unfold intF at *
  rw [if_pos h] at *
  exact scan_less _ _ _ h'
/-- so many numbers that are read, as long as nothing is wrong -/
def readN : Nat → CS → CS × List Int
  | 0, st => (st, [])
  | k + 1, st => if st.bad = 0 then ((readN k (intF st).1).1, (intF st).2 :: (readN k (intF st).1).2) else (st, [])
def intsF (st : CS) (most : Int) : CS × List Int :=
  if (readN (smallF st most).2.toNat (smallF st most).1).1.bad = 0 then readN (smallF st most).2.toNat (smallF st most).1 else ((readN (smallF st most).2.toNat (smallF st most).1).1, [])
theorem readN_succ (k : Nat) (st : CS) : readN (k + 1) st = if st.bad = 0 then ((readN k (intF st).1).1, (intF st).2 :: (readN k (intF st).1).2) else (st, []) := rfl
theorem readN_bad {st : CS} (h : st.bad ≠ 0) (k : Nat) : readN k st = (st, []) := by
  cases k with
  | zero => rfl
  | succ k => unfold readN; rw [if_neg h]
/-! ### a cursor that is nil -/
theorem rest_nil (w : World) : Calls Tryz.prog 30 #[.pointer none] w fun r w' => r = .returned (.int .i64 0) ∧ w = w' := by
  go_enter Tryz.func30, Tryz.ntmps30
  go_wp2
  go_ret
  exact ⟨rfl, rfl⟩
theorem bad_nil (w : World) : Calls Tryz.prog 29 #[.pointer none] w fun r w' => r = .returned (.int .i64 0) ∧ Below w.heap.size w w' := by
  have hA := below_alloc (Below.refl _ w) (.cells #[.int .i64 0] 24)
  go_enter Tryz.func29, Tryz.ntmps29
  go_wp2
  go_ret
  exact ⟨rfl, hA⟩
theorem int_nil (w : World) : Calls Tryz.prog 11 #[.pointer none] w fun r w' => r = .returned (.int .i64 0) ∧ w = w' := by
  go_enter Tryz.func11, Tryz.ntmps11
  go_wp2
  go_ret
  exact ⟨rfl, rfl⟩
theorem fail_nil (e : Int) (w : World) : Calls Tryz.prog 27 #[.pointer none, .int .i64 e] w fun r w' => r = .returned (.int .i64 0) ∧ w = w' := by
  go_enter Tryz.func27, Tryz.ntmps27
  go_wp2
  go_ret
  exact ⟨rfl, rfl⟩
theorem small_nil (most : Int) (w : World) : Calls Tryz.prog 12 #[.pointer none, .int .i64 most] w fun r w' => r = .returned (.int .i64 0) ∧ w = w' := by
  have KI := Lib.hid (int_nil w)
  have KF := Lib.hid (fail_nil 2 w)
  by_cases h : most < 0
  · have hd : decide ((0 : Int) > most) = true := decide_eq_true h
    go_enter Tryz.func12, Tryz.ntmps12
    go_wp2_with fail
    refine KI.out.mono ?_
    rintro e w' ⟨rfl, rfl⟩
    go_wp2_with fail
    refine KF.out.mono ?_
    rintro e w' ⟨rfl, rfl⟩
    go_wp2
    go_ret
    exact ⟨rfl, rfl⟩
  · have hd : decide ((0 : Int) > most) = false := decide_eq_false h
    go_enter Tryz.func12, Tryz.ntmps12
    go_wp2_with fail
    refine KI.out.mono ?_
    rintro e w' ⟨rfl, rfl⟩
    go_wp2
    go_ret
    exact ⟨rfl, rfl⟩
end Go.Proofs.YthflogeaielhlaaGreatDoor
namespace Go.Proofs.YthflogeaielhlaaGreatDoor
set_option linter.unusedVariables false
open Go.ChangeShapes Go.WideShapes Go.ChangeAt Go.RowKit Go.Lib
attribute [local go_sem ↓] Go.wp_at_zero Go.wp_at_succ comesTo_value_eq comesTo_skip_eq comesTo_enter_eq

theorem strCells_bytes (s : ByteArray) : strCells s = cellsOf8 (bytesOf s) := by
  unfold strCells cellsOf8 bytesOf
  simp
theorem bytesOf_in (s : ByteArray) : ∀ x ∈ bytesOf s, 0 ≤ x ∧ x ≤ 255 := by
  intro x hx
  obtain ⟨y, _, rfl⟩ := List.mem_map.1 hx
  have := y.toNat_lt
  omega
theorem getD_in {xs : List Int} (h : ∀ x ∈ xs, 0 ≤ x ∧ x ≤ 255) (k : Nat) (hk : k < xs.length) : 0 ≤ xs.getD k 0 ∧ xs.getD k 0 ≤ 255 := by
  have := h _ (List.getElem_mem hk)
  simpa [List.getD, List.getElem?_eq_getElem hk] using this
theorem OwnTxt.mem {w : World} {B : Nat} {v : Value} {xs : List Int} (h : OwnTxt w B v xs) : ∀ x ∈ xs, 0 ≤ x ∧ x ≤ 255 := by
  intro x hx
  obtain ⟨k, hk, rfl⟩ := List.mem_iff_getElem.1 hx
  have h1 := h.lo k hk
  have h2 := h.hi k hk
  simp [List.getD, List.getElem?_eq_getElem hk] at h1 h2
  exact ⟨h1, h2⟩
theorem flat_len : ∀ (m : List Int), (∀ x ∈ m, -9223372036854775808 ≤ x ∧ x ≤ 9223372036854775807) → (m.flatMap putI).length ≤ 10 * m.length
  | [], _ => by simp
  | x :: m, hm => by
    have h1 := flat_len m fun y hy => hm y (List.mem_cons_of_mem _ hy)
    have h2 := putI_len (hm x List.mem_cons_self)
    simp only [List.flatMap_cons, List.length_append, List.length_cons]
    omega
end Go.Proofs.YthflogeaielhlaaGreatDoor
namespace Go.Proofs.YthflogeaielhlaaGreatDoor
set_option linter.unusedVariables false
open Go.ChangeShapes Go.WideShapes Go.ChangeAt Go.RowKit Go.Lib
attribute [local go_sem ↓] Go.wp_at_zero Go.wp_at_succ comesTo_value_eq comesTo_skip_eq comesTo_enter_eq

theorem put_m1 : putI (-1) = [1] := by unfold putI; rw [show foldF (-1) = 1 from by decide, putU_lt (by decide)]; rfl
theorem put_64 : putI 64 = [128, 1] := by unfold putI; rw [show foldF 64 = 128 from by decide, putU_ge (by decide), putU_lt (by decide)]; rfl
theorem one_i1 : intF ⟨[1, 128, 1], 0⟩ = (⟨[128, 1], 0⟩, -1) := by rfl
theorem one_i2 : intF ⟨[128, 1], 0⟩ = (⟨[], 0⟩, 64) := by rfl
end Go.Proofs.YthflogeaielhlaaGreatDoor
namespace Go.Proofs.YthflogeaielhlaaGreatDoor
set_option linter.unusedVariables false
open Go Go.RowKit

theorem intF_put {v : Int} (h : -9223372036854775808 ≤ v ∧ v ≤ 9223372036854775807) (ys : List Int) : intF ⟨putI v ++ ys, 0⟩ = (⟨ys, 0⟩, v) := by
  unfold intF
  rw [if_pos rfl]
  simp only [scan_putI h]
theorem smallF_put {n most : Int} (h0 : 0 ≤ n) (h1 : n ≤ most) (h2 : n ≤ 9223372036854775807) (ys : List Int) : smallF ⟨putI n ++ ys, 0⟩ most = (⟨ys, 0⟩, n) := by
  unfold smallF
  rw [intF_put (by omega)]
  rw [if_neg (by simp only; omega)]
theorem textF_put {bs : List Int} (h : bs.length ≤ 65536) (ys : List Int) : textF ⟨putTx bs ++ ys, 0⟩ = (⟨ys, 0⟩, bs) := by
  unfold textF putTx
  rw [List.append_assoc, smallF_put (by omega) (by omega) (by omega)]
  simp only
  rw [if_neg (by simp; omega)]
  simp
theorem readN_put : ∀ (l : List Int) (j : Nat) (ys : List Int), (∀ x ∈ l, -9223372036854775808 ≤ x ∧ x ≤ 9223372036854775807) → readN (l.length + j) ⟨l.flatMap putI ++ ys, 0⟩ = ((readN j ⟨ys, 0⟩).1, l ++ (readN j ⟨ys, 0⟩).2)
  | [], j, ys, _ => by simp
  | x :: l, j, ys, h => by
    rw [show (x :: l).length + j = (l.length + j) + 1 by simp; omega, readN_succ, if_pos rfl, List.flatMap_cons, List.append_assoc, intF_put (h x List.mem_cons_self)]
    simp only
    rw [readN_put l j ys fun y hy => h y (List.mem_cons_of_mem _ hy)]
    simp
theorem intsF_put {l : List Int} (hl : ∀ x ∈ l, -9223372036854775808 ≤ x ∧ x ≤ 9223372036854775807) {most : Int} (h : (l.length : Int) ≤ most) (h2 : (l.length : Int) ≤ 9223372036854775807) (ys : List Int) : intsF ⟨putL l ++ ys, 0⟩ most = (⟨ys, 0⟩, l) := by
  have h1 := smallF_put (n := (l.length : Int)) (most := most) (by omega) h h2 (l.flatMap putI ++ ys)
  have h3 := readN_put l 0 ys hl
  unfold intsF putL
  rw [List.append_assoc, h1]
  simp only [Int.toNat_natCast]
  rw [Nat.add_zero] at h3
  rw [h3]
  simp [readN]
theorem intF_cut {v : Int} (h : -9223372036854775808 ≤ v ∧ v ≤ 9223372036854775807) {k : Nat} (hk : k < (putI v).length) : intF ⟨(putI v).take k, 0⟩ = (⟨[], 10⟩, 0) := by
  unfold intF
  rw [if_pos rfl]
  have := scan_cut (foldF v) 0 0 k (by decide) (by simpa using fold_lt h) hk
  simp only [show (putI v).take k = (putU (foldF v)).take k from rfl, this]
theorem smallF_cut {v : Int} (h : -9223372036854775808 ≤ v ∧ v ≤ 9223372036854775807) {k : Nat} (hk : k < (putI v).length) (most : Int) : smallF ⟨(putI v).take k, 0⟩ most = (⟨[], 10⟩, 0) := by
  unfold smallF
  rw [intF_cut h hk]
  split <;> rfl
theorem putI_pos (v : Int) : 1 ≤ (putI v).length := putU_len _
theorem intsF_cut {l : List Int} (hl : ∀ x ∈ l, -9223372036854775808 ≤ x ∧ x ≤ 9223372036854775807) {most : Int} (h : (l.length : Int) ≤ most) (h2 : (l.length : Int) ≤ 9223372036854775807) : intsF ⟨(putL l).take ((putL l).length - 1), 0⟩ most = (⟨[], 10⟩, []) := by
  rcases List.eq_nil_or_concat l with rfl | ⟨i, x, rfl⟩
  · have e : putL [] = putI 0 := by unfold putL; simp
    rw [e]
    unfold intsF
    rw [smallF_cut (by decide) (by have := putI_pos 0; omega)]
    rfl
  · rw [List.concat_eq_append] at *
    have hx : -9223372036854775808 ≤ x ∧ x ≤ 9223372036854775807 := hl x (by simp)
    have hi : ∀ y ∈ i, -9223372036854775808 ≤ y ∧ y ≤ 9223372036854775807 := fun y hy => hl y (by simp [hy])
    have hp := putI_pos x
    have e : (putL (i ++ [x])).take ((putL (i ++ [x])).length - 1) = putI ((i ++ [x]).length : Int) ++ (i.flatMap putI ++ (putI x).take ((putI x).length - 1)) := by
      unfold putL
      rw [List.flatMap_append, show [x].flatMap putI = putI x by simp, ← List.append_assoc, ← List.append_assoc]
      generalize putI ((i ++ [x]).length : Int) ++ i.flatMap putI = A
      rw [List.take_append, List.length_append, List.take_of_length_le (by omega), show A.length + (putI x).length - 1 - A.length = (putI x).length - 1 by omega]
    have h1 := smallF_put (n := ((i ++ [x]).length : Int)) (most := most) (by omega) h h2 (i.flatMap putI ++ (putI x).take ((putI x).length - 1))
    have h3 := readN_put i 1 ((putI x).take ((putI x).length - 1)) hi
    have hc : readN 1 ⟨(putI x).take ((putI x).length - 1), 0⟩ = (⟨[], 10⟩, [0]) := by
      rw [readN_succ, if_pos rfl, intF_cut hx (by omega)]
      rfl
    rw [hc] at h3
    unfold intsF
    rw [e, h1]
    simp only [Int.toNat_natCast]
    rw [show (i ++ [x]).length = i.length + 1 by simp, h3]
    simp
theorem str_bytes (s : ByteArray) : strOfNums (bytesOf s) = s := by
  refine bytesOf_inj ?_
  have := bytesOf_in s
  exact bytesOf_str _ (fun k hk => (getD_in this k hk).1) (fun k hk => (getD_in this k hk).2)
theorem putI_mem (v : Int) : ∀ x ∈ putI v, 0 ≤ x ∧ x ≤ 255 := putU_bytes _
theorem strOf_inj {xs ys : List Int} (hx : ∀ x ∈ xs, 0 ≤ x ∧ x ≤ 255) (hy : ∀ x ∈ ys, 0 ≤ x ∧ x ≤ 255) (h : strOfNums xs = strOfNums ys) : xs = ys := by
  have h1 := bytesOf_str xs (fun k hk => (getD_in hx k hk).1) (fun k hk => (getD_in hx k hk).2)
  have h2 := bytesOf_str ys (fun k hk => (getD_in hy k hk).1) (fun k hk => (getD_in hy k hk).2)
  rw [← h1, h, h2]
end Go.Proofs.YthflogeaielhlaaGreatDoor
namespace Go.Proofs.YthflogeaielhlaaGreatDoor
set_option linter.unusedVariables false
open Go Go.RowKit
namespace Cs
theorem fold_unfold (m : Nat) : foldF (unfoldF m) = m := by unfold foldF unfoldF; split <;> split <;> omega
theorem scan_back (xs : List Int) : ∀ (i u : Nat) (ys : List Int) (v : Int), (∀ x ∈ xs, 0 ≤ x ∧ x ≤ 255) → scan i u xs = (ys, 0, v) → ∃ m : Nat, xs = putU m ++ ys ∧ v = unfoldF (u + m * 2 ^ (7 * i)) ∧ (0 < i → 0 < m) := by
  induction xs with
  | nil => intro i u ys v _ h; unfold scan at h; simp at h
  | cons x xs ih =>
    intro i u ys v hb h
    have hx := hb x List.mem_cons_self
    have hp : 2 ^ (7 * (i + 1)) = 128 * 2 ^ (7 * i) := by rw [show 7 * (i + 1) = 7 + 7 * i by omega, Nat.pow_add]
    unfold scan at h
    by_cases h9 : i = 9 ∧ 1 < x
    · rw [if_pos h9] at h; simp at h
    · rw [if_neg h9] at h
      by_cases h1 : 128 ≤ x
      · rw [if_pos h1] at h
        obtain ⟨m, hm, hv, h0⟩ := ih (i + 1) _ ys v (fun y hy => hb y (List.mem_cons_of_mem _ hy)) h
        have hm0 := h0 (by omega)
        refine ⟨(x - 128).toNat + 128 * m, ?_, ?_, fun _ => by omega⟩
        · rw [putU_ge (by omega), hm, show ((x - 128).toNat + 128 * m) / 128 = m by omega, show (((x - 128).toNat + 128 * m) % 128 + 128 : Nat) = x.toNat by omega, show ((x.toNat : Nat) : Int) = x by omega]
          rfl
        · rw [hv, hp, Nat.add_mul, show 128 * m * 2 ^ (7 * i) = m * (128 * 2 ^ (7 * i)) by rw [← Nat.mul_assoc, Nat.mul_comm 128 m], Nat.add_assoc]
      · rw [if_neg h1] at h
        by_cases h2 : 0 < i ∧ x = 0
        · rw [if_pos h2] at h; simp at h
        · rw [if_neg h2] at h
          injection h with e1 e2
          injection e2 with _ e3
          subst e1
          refine ⟨x.toNat, ?_, e3.symm, fun hi => by omega⟩
          rw [putU_lt (by omega), show ((x.toNat : Nat) : Int) = x by omega]
          rfl
theorem intF_back {xs ys : List Int} {v : Int} (hb : ∀ x ∈ xs, 0 ≤ x ∧ x ≤ 255) (h : intF ⟨xs, 0⟩ = (⟨ys, 0⟩, v)) : xs = putI v ++ ys := by
  unfold intF at h
  rw [if_pos rfl] at h
  injection h with e1 e2
  injection e1 with e3 e4
  obtain ⟨m, hm, hv, _⟩ := scan_back xs 0 0 ys v hb (by
    rw [← e2, ← e3, ← e4])
  rw [hm]
  unfold putI
  rw [hv]
  simp [fold_unfold]
theorem scan_rest (xs : List Int) : ∀ (i u : Nat), (∀ x ∈ xs, 0 ≤ x ∧ x ≤ 255) → ∀ y ∈ (scan i u xs).1, 0 ≤ y ∧ y ≤ 255 := by
  induction xs with
  | nil => intro i u _ y hy; cases hy
  | cons x xs ih =>
    intro i u h y hy
    have ht : ∀ z ∈ xs, 0 ≤ z ∧ z ≤ 255 := fun z hz => h z (List.mem_cons_of_mem _ hz)
    unfold scan at hy
    split at hy
    · cases hy
    · split at hy
      · exact ih _ _ ht y hy
      · split at hy
        · cases hy
        · exact ht y hy
theorem intF_rest {xs : List Int} (hb : ∀ x ∈ xs, 0 ≤ x ∧ x ≤ 255) : ∀ y ∈ (intF ⟨xs, 0⟩).1.xs, 0 ≤ y ∧ y ≤ 255 := by
  unfold intF
  rw [if_pos rfl]
  exact scan_rest xs 0 0 hb
theorem endF_ok {st : CS} (h : endF st = 0) : st = ⟨[], 0⟩ := by
  unfold endF at h
  obtain ⟨xs, bd⟩ := st
  simp only at h
  split at h
  · omega
  · rename_i hn
    subst h
    simp at hn
    rw [hn]
theorem intF_off {st : CS} (h : st.bad ≠ 0) : intF st = (st, 0) := by unfold intF; rw [if_neg h]
theorem smallF_off {st : CS} (h : st.bad ≠ 0) {most : Int} (hm : 0 ≤ most) : smallF st most = (st, 0) := by
  unfold smallF
  rw [intF_off h]
  rw [if_neg (by simp only; omega)]
theorem smallF_out {n most : Int} (hn : -9223372036854775808 ≤ n ∧ n ≤ 9223372036854775807) (h : ¬ (0 ≤ n ∧ n ≤ most)) (ys : List Int) : smallF ⟨putI n ++ ys, 0⟩ most = (⟨[], 2⟩, 0) := by
  unfold smallF
  rw [intF_put hn]
  rw [if_pos (by simp only; omega)]
  rfl
theorem smallF_back {xs : List Int} {st : CS} {v most : Int} (hb : ∀ x ∈ xs, 0 ≤ x ∧ x ≤ 255) (h : smallF ⟨xs, 0⟩ most = (st, v)) (h0 : st.bad = 0) : xs = putI v ++ st.xs ∧ (∀ x ∈ st.xs, 0 ≤ x ∧ x ≤ 255) := by
  unfold smallF at h
  have hr := intF_rest hb
  rcases hi : intF ⟨xs, 0⟩ with ⟨s1, n⟩
  rw [hi] at h hr
  simp only at h hr
  split at h
  · injection h with e1 e2
    rw [← e1] at h0
    unfold failF at h0
    split at h0
    · simp at h0
    · rename_i hn; exact absurd h0 hn
  · injection h with e1 e2
    subst e1 e2
    obtain ⟨ys, bd⟩ := s1
    simp only at h0
    subst h0
    exact ⟨intF_back hb hi, hr⟩
theorem smallF_bad0 {st : CS} {most : Int} (hm : 0 ≤ most) (h : (smallF st most).1.bad = 0) : st.bad = 0 := by
  refine Classical.byContradiction fun hn => ?_
  rw [smallF_off hn hm] at h
  exact hn h
/-- a state's bytes are bytes -/
def By (st : CS) : Prop := ∀ x ∈ st.xs, 0 ≤ x ∧ x ≤ 255
theorem intF_by {st : CS} (h : By st) : By (intF st).1 := by
  by_cases h0 : st.bad = 0
  · obtain ⟨xs, bd⟩ := st
    simp only at h0
    subst h0
    exact intF_rest h
  · rw [intF_off h0]; exact h
theorem failF_by {st : CS} (h : By st) (e : Int) : By (failF st e) := by
  unfold failF
  split
  · intro x hx; cases hx
  · exact h
theorem smallF_by {st : CS} (h : By st) (most : Int) : By (smallF st most).1 := by
  unfold smallF
  split
  · exact failF_by (intF_by h) 2
  · exact intF_by h
theorem intF_bk {st : CS} {ys : List Int} {v : Int} (hb : By st) (h : intF st = (⟨ys, 0⟩, v)) : st.bad = 0 ∧ st.xs = putI v ++ ys ∧ By ⟨ys, 0⟩ := by
  have hy := intF_by hb
  rw [h] at hy
  by_cases h0 : st.bad = 0
  · obtain ⟨xs, bd⟩ := st
    simp only at h0
    subst h0
    exact ⟨rfl, intF_back hb h, hy⟩
  · rw [intF_off h0] at h
    injection h with e1 e2
    rw [e1] at h0
    exact absurd rfl h0
theorem smallF_bk {st : CS} {ys : List Int} {v most : Int} (hb : By st) (h : smallF st most = (⟨ys, 0⟩, v)) : st.bad = 0 ∧ st.xs = putI v ++ ys ∧ By ⟨ys, 0⟩ := by
  unfold smallF at h
  split at h
  · injection h with e1 e2
    unfold failF at e1
    split at e1
    · injection e1 with _ e4
      exact absurd e4 (by decide)
    · rename_i hn
      rw [e1] at hn
      exact absurd rfl hn
  · exact intF_bk hb h
end Cs
end Go.Proofs.YthflogeaielhlaaGreatDoor
namespace Go.Proofs.YthflogeaielhlaaGreatDoor
set_option linter.unusedVariables false
open Go.ChangeShapes Go.WideShapes Go.ChangeAt Go.RowKit Go.Lib
attribute [local go_sem ↓] Go.wp_at_zero Go.wp_at_succ comesTo_value_eq comesTo_skip_eq comesTo_enter_eq

theorem str_append (xs ys : List Int) : strOfNums xs ++ strOfNums ys = strOfNums (xs ++ ys) := by
  apply ByteArray.ext
  simp [strOfNums, ByteArray.data_append]
theorem rfold_any {v : Int} (h : -9223372036854775808 ≤ v ∧ v ≤ 9223372036854775807) (w : World) : Calls Tryz.prog 51 #[.int .i64 v] w fun e w' => e = .returned (.int .u64 (foldF v : Int)) ∧ w = w' := by
  by_cases hv : v < 0
  · have hd : decide (v < 0) = true := decide_eq_true hv
    go_enter Tryz.func51, Tryz.ntmps51
    go_wp2
    go_ret
    refine ⟨?_, rfl⟩
    have e : (foldF v : Int) = 2 * -(v + 1) + 1 := by unfold foldF; rw [if_pos hv]; omega
    rw [e]
    rfl
  · have hd : decide (v < 0) = false := decide_eq_false hv
    go_enter Tryz.func51, Tryz.ntmps51
    go_wp2
    go_ret
    refine ⟨?_, rfl⟩
    have e : (foldF v : Int) = 2 * v := by unfold foldF; rw [if_neg (by omega)]; omega
    rw [e]
    rfl
set_option maxRecDepth 100000 in
theorem rputint_any (xs : List Int) (hxl : xs.length ≤ 1099511627776) {n : Int} (hn : -9223372036854775808 ≤ n ∧ n ≤ 9223372036854775807) (w : World) :
    Calls Tryz.prog 38 #[.string (strOfNums xs), .int .i64 n] w fun e w' => e = .returned (.string (strOfNums (xs ++ putI n))) ∧ Below w.heap.size w w' := by
  have K := Lib.hid (rfold_any hn w)
  have h64 := fold_lt hn
  have hlen := putI_len hn
  unfold putI at *
  generalize foldF n = u0 at *
  have HL := Lib.hid hlen
  clear hlen
  go_enter Tryz.func38, Tryz.ntmps38
  go_wp2_with fail
  refine K.out.mono ?_
  rintro e w' ⟨rfl, rfl⟩
  go_wp2_with fail
  go_loopw [0, 5] (fun b r wr => ∃ (acc : List Int) (u : Nat), b = .string (strOfNums (xs ++ acc)) ∧ r = .int .u64 (u : Int) ∧ u < 18446744073709551616 ∧ acc ++ putU u = putU u0 ∧ Below w.heap.size w wr) (fun _ r _ => (intOf r).toNat)
  case atStart => exact ⟨[], u0, by rw [List.append_nil], rfl, h64, rfl, Below.refl _ _⟩
  case round =>
    obtain ⟨acc, u, rfl, rfl, hu, hacc, hb⟩ := hrel
    have HA := Lib.hid hacc
    have HB := Lib.hid hb
    clear hacc hb
    by_cases h128 : u < 128
    · have hq : decide ((u : Int) ≥ 128) = false := decide_eq_false (by omega)
      have hw : IntKind.u8.wrap (u : Int) = (u : Int) := by rw [IntKind.wrap_u8']; omega
      have hA1 := below_alloc (Below.refl _ wr) (.cells #[.int .u8 (u : Int)] 5)
      have hcv := txt_conv (byte_txt (World.alloc_heap_new wr (.cells #[.int .u8 (u : Int)] 5)) (by omega)) _ (Below.refl _ _)
      have hap := str_append (xs ++ acc) [(u : Int)]
      have hsz : ¬ 9223372036854775807 < (strOfNums (xs ++ acc)).size + (strOfNums [(u : Int)]).size := by
        rw [size_str, size_str]
        have h1 := putU_len u
        have h2 : acc.length + (putU u).length ≤ 10 := by rw [← List.length_append, HA.out]; exact HL.out
        simp only [List.length_append, List.length_cons, List.length_nil]
        omega
      have HF := Lib.hid (below_next HB.out hA1)
      clear hA1
      go_wp2
      go_ret
      refine ⟨?_, HF.out⟩
      rw [← HA.out, putU_lt h128]
      rfl
    · have hq : decide ((u : Int) ≥ 128) = true := decide_eq_true (by omega)
      have HM := Lib.hid (show u / 128 < u ∧ u / 128 < 18446744073709551616 by omega)
      have hA1 := below_alloc (Below.refl _ wr) (.cells #[.int .u8 ((u : Int) % 128 + 128)] 5)
      have hcv := txt_conv (byte_txt (World.alloc_heap_new wr (.cells #[.int .u8 ((u : Int) % 128 + 128)] 5)) (by omega)) _ (Below.refl _ _)
      have hap := str_append (xs ++ acc) [(u : Int) % 128 + 128]
      have hsz : ¬ 9223372036854775807 < (strOfNums (xs ++ acc)).size + (strOfNums [(u : Int) % 128 + 128]).size := by
        rw [size_str, size_str]
        have h2 : acc.length + (putU u).length ≤ 10 := by rw [← List.length_append, HA.out]; exact HL.out
        simp only [List.length_append, List.length_cons, List.length_nil]
        omega
      have HF := Lib.hid (below_next HB.out hA1)
      have HA2 := Lib.hid (show (acc ++ [(u : Int) % 128 + 128]) ++ putU (u / 128) = putU u0 by
        rw [← HA.out, putU_ge h128, List.append_assoc, show ((u % 128 + 128 : Nat) : Int) = (u : Int) % 128 + 128 by omega]; rfl)
      clear hA1
      go_wp2
      go_roundw
      case rel => exact ⟨acc ++ [(u : Int) % 128 + 128], u / 128, rfl, by rw [Int.natCast_ediv]; rfl, HM.out.2, HA2.out, HF.out⟩
      case measure => have := HM.out.1; simp [intOf]; omega
end Go.Proofs.YthflogeaielhlaaGreatDoor
namespace Go.Proofs.YthflogeaielhlaaGreatDoor
set_option linter.unusedVariables false
open Go.ChangeShapes Go.WideShapes Go.ChangeAt Go.RowKit Go.Lib
attribute [local go_sem ↓] Go.wp_at_zero Go.wp_at_succ comesTo_value_eq comesTo_skip_eq comesTo_enter_eq

end Go.Proofs.YthflogeaielhlaaGreatDoor
namespace Go.Proofs.YthflogeaielhlaaGreatDoor
set_option linter.unusedVariables false
open Go.ChangeShapes Go.WideShapes Go.ChangeAt Go.RowKit Go.Lib
attribute [local go_sem ↓] Go.wp_at_zero Go.wp_at_succ comesTo_value_eq comesTo_skip_eq comesTo_enter_eq

theorem res_cell_tmp {P : Program} {fn : Func} {p t : Tmp} {ty : TypeId} {tmps : Array Value} {w : World} {ad : Addr} {x y : Value} (h : fn.results = #[.cell p ty, .tmp t]) (hp : tmps.getD p undef = .pointer (some ad)) (ht : tmps.getD t undef = y)
    (hl : (loadVar ty ad).run P w = .ok x w) : (results fn tmps).run P w = .ok (.tuple #[x, y]) w := by
  have hp' : tmps[p]?.getD undef = .pointer (some ad) := by simpa using hp
  have ht' : tmps[t]?.getD undef = y := by simpa using ht
  simp [results, h, hp', ht', asAddr, hl]
theorem res_cell {P : Program} {fn : Func} {p : Tmp} {ty : TypeId} {tmps : Array Value} {w : World} {ad : Addr} {x : Value} (h : fn.results = #[.cell p ty]) (hp : tmps.getD p undef = .pointer (some ad))
    (hl : (loadVar ty ad).run P w = .ok x w) : (results fn tmps).run P w = .ok x w := by
  have hp' : tmps[p]?.getD undef = .pointer (some ad) := by simpa using hp
  simp [results, h, hp', asAddr, hl]
theorem str_extract (xs : List Int) (a b : Nat) : (strOfNums xs).extract a b = strOfNums ((xs.drop a).take (b - a)) := by
  apply ByteArray.ext
  simp [strOfNums, ByteArray.data_extract, List.map_drop, List.map_take, List.extract_eq_take_drop]
theorem str_get (xs : List Int) (k : Nat) (hk : k < (strOfNums xs).size) (h : ∀ x ∈ xs, 0 ≤ x ∧ x ≤ 255) : (((strOfNums xs)[k]'hk).toNat : Int) = xs.getD k 0 := by
  have hk' : k < xs.length := by rw [size_str] at hk; exact hk
  have hb := getD_in h k hk'
  have e : (strOfNums xs)[k]'hk = UInt8.ofNat (xs.getD k 0).toNat := by
    show (strOfNums xs).data[k] = _
    simp [strOfNums, List.getD, List.getElem?_eq_getElem hk']
  rw [e]
  generalize xs.getD k 0 = y at *
  rw [UInt8.toNat_ofNat']
  omega
theorem runfold_any {u : Nat} (hu : u < 18446744073709551616) (w : World) : Calls Tryz.prog 32 #[.int .u64 (u : Int)] w fun e w' => e = .returned (.int .i64 (unfoldF u)) ∧ w = w' := by
  by_cases h : u % 2 = 1
  · have hd : ((u : Int) % 2 == 1) = true := by rw [beq_iff_eq]; omega
    go_enter Tryz.func32, Tryz.ntmps32
    go_wp2
    go_ret
    refine ⟨?_, rfl⟩
    have e : unfoldF u = -((u : Int) / 2) - 1 := by unfold unfoldF; rw [if_pos h]; omega
    rw [e]
    rfl
  · have hd : ((u : Int) % 2 == 1) = false := by rw [beq_eq_false_iff_ne]; omega
    go_enter Tryz.func32, Tryz.ntmps32
    go_wp2
    go_ret
    refine ⟨?_, rfl⟩
    have e : unfoldF u = (u : Int) / 2 := by unfold unfoldF; rw [if_neg h]; omega
    rw [e]
    rfl
theorem radd_step {u m k : Nat} (hu : u < 2 ^ (7 * k)) (hk : k ≤ 9) (hm : m ≤ 255) (hA : ¬ (k = 9 ∧ 1 < m)) :
    IntKind.u64.wrap ((u : Int) + IntKind.u64.wrap ((m : Int) % 128 * 2 ^ (7 * k))) = ((u + m % 128 * 2 ^ (7 * k) : Nat) : Int) := by
  have hlt := or_lt hu hk hm hA
  have e : ((m : Int) % 128) * 2 ^ (7 * k) = ((m % 128 * 2 ^ (7 * k) : Nat) : Int) := by
    rw [show (m : Int) % 128 = ((m % 128 : Nat) : Int) by omega]
    simp [Int.natCast_mul, Int.natCast_pow]
  rw [e, IntKind.wrap_u64 ((m % 128 * 2 ^ (7 * k) : Nat) : Int), show ((m % 128 * 2 ^ (7 * k) : Nat) : Int) % 18446744073709551616 = ((m % 128 * 2 ^ (7 * k) : Nat) : Int) by omega, IntKind.wrap_u64]
  omega
theorem rc_load {W : World} {b : Nat} {x y : Value} (h : W.heap[b]? = some (.cells #[x, y] 53 (0, 0))) : (loadVar 53 ⟨b, 0, none⟩).run Tryz.prog W = .ok (.agg #[x, y]) W := by
  have c0 := cell_of_block (o := 0) h rfl
  have c1 := cell_of_block (o := 1) h rfl
  go_simp
/-- a cursor's value -/
def RC (st : CS) : Value := .agg #[.string (strOfNums st.xs), .int .i64 st.bad]
theorem rwrong_any (S : ByteArray) (b e : Int) (w : World) : Calls Tryz.prog 31 #[.agg #[.string S, .int .i64 b], .int .i64 e] w fun r w' => r = .returned (.agg #[.string ⟨#[]⟩, .int .i64 e]) ∧ Below w.heap.size w w' := by
  have hA := below_alloc (below_alloc (Below.refl _ w) (.cells #[.string S, .int .i64 b] 53)) (.cells #[.string .empty, .int .i64 0] 53)
  go_enter Tryz.func31, Tryz.ntmps31
  go_wp2
  exact bodyPost_ret (v := .agg #[.string ⟨#[]⟩, .int .i64 e]) (by simp [results, Tryz.results31, go_sem]) rfl ⟨rfl, (by repeat (first | exact Below.refl _ _ | assumption | refine below_drewN ?_ _ | refine Below.drew ?_ | refine below_alloc ?_ _ | refine Below.alloc ?_ (by first | omega | (simp; done) | (simp; omega)) _ | refine Below.setCell ?_ (Below.size (by assumption)) _ | refine Below.setCell ?_ (by first | omega | (simp; done) | (simp; omega)) _ | (refine Below.trans ?_ (Below.mono (by assumption) (by first | omega | (simp; done) | (simp; omega)))) | refine below_next ?_ (by assumption)))⟩
set_option maxRecDepth 100000 in
set_option maxHeartbeats 4000000 in
theorem rint_any (st : CS) (hx : ∀ x ∈ st.xs, 0 ≤ x ∧ x ≤ 255) (hl : st.xs.length ≤ 1099511627776) (w : World) :
    Calls Tryz.prog 15 #[RC st] w fun e w' => e = .returned (.tuple #[RC (intF st).1, .int .i64 (intF st).2]) ∧ Below w.heap.size w w' := by
  have hmx : Tryz.prog.follows .mixedOrders = true := by kernel_rfl
  obtain ⟨xs, bd⟩ := st
  simp only at hx hl
  have hA := below_alloc (below_alloc (Below.refl _ w) (.cells #[.string (strOfNums xs), .int .i64 bd] 53)) (.cells #[.string ⟨#[]⟩, .int .i64 0] 53)
  have hN2 := World.alloc_heap_new (w.alloc (.cells #[.string (strOfNums xs), .int .i64 bd] 53)) (.cells #[.string ⟨#[]⟩, .int .i64 0] 53)
  have hN1 : ((w.alloc (.cells #[.string (strOfNums xs), .int .i64 bd] 53)).alloc (.cells #[.string ⟨#[]⟩, .int .i64 0] 53)).heap[w.heap.size]? = some (.cells #[.string (strOfNums xs), .int .i64 bd] 53 (0, 0)) :=
    ((below_alloc (Below.refl _ _) _).block _ (by simp)).trans (World.alloc_heap_new w _)
  rw [show (w.alloc (.cells #[.string (strOfNums xs), .int .i64 bd] 53)).heap.size = w.heap.size + 1 by simp] at hN2
  unfold RC
  by_cases h0 : bd = 0
  · subst h0
    unfold intF
    rw [if_pos rfl]
    simp only
    have c0 := cell_of_block (o := 0) hN1 rfl
    have c1 := cell_of_block (o := 1) hN1 rfl
    have r0 := cell_of_block (o := 0) hN2 rfl
    have r1 := cell_of_block (o := 1) hN2 rfl
    have f0 := free_of_block 0 hN2
    have f1 := free_of_block 1 hN2
    have KW := Lib.hid (fun (e : Int) (W : World) => rwrong_any (strOfNums xs) 0 e W)
    have hsz := size_str xs
    have HG := Lib.hid (fun (k : Nat) (hk : k < (strOfNums xs).size) => str_get xs k hk hx)
    have HX := Lib.hid (fun (k : Nat) (hk : k < xs.length) => getD_in hx k hk)
    have HXT := Lib.hid (fun (k : Nat) => show (strOfNums xs).extract k xs.length = strOfNums (xs.drop k) by rw [str_extract, List.take_of_length_le (by simp)])
    have HA := Lib.hid hA
    have HN1 := Lib.hid hN1
    have HN2 := Lib.hid hN2
    generalize hS : strOfNums xs = S at *
    obtain ⟨n, hn⟩ : ∃ n, xs.length = n := ⟨_, rfl⟩
    rw [hn] at hsz HX HXT hl
    have HNn := Lib.hid hn
    clear hA hN1 hN2 hx hS hn
    go_enter Tryz.func15, Tryz.ntmps15
    go_wp2_with fail
    generalize (w.alloc (.cells #[.string S, .int .i64 0] 53)).alloc (.cells #[.string ⟨#[]⟩, .int .i64 0] 53) = W1 at *
    go_loop [4, 5, 6] (fun v i _ => ∃ k u : Nat, k ≤ n ∧ k ≤ 9 ∧ u < 2 ^ (7 * k) ∧ i = .int .i64 k ∧ v = .int .u64 (u : Int) ∧ scan k u (xs.drop k) = scan 0 0 xs) (fun _ i _ => 10 - (intOf i).toNat)
    case atStart => exact ⟨0, 0, Nat.zero_le _, Nat.zero_le _, by decide, rfl, rfl, rfl⟩
    case round =>
      obtain ⟨k, u, hk, hk9, hu, rfl, rfl, hsc⟩ := hrel
      have HS := Lib.hid hsc
      have HU := Lib.hid hu
      have h10 : decide ((k : Int) < 10) = true := decide_eq_true (by omega)
      clear hsc hu
      by_cases hlt : k < n
      · have hd1 : decide ((k : Int) ≥ (n : Int)) = false := decide_eq_false (by omega)
        have hkS : k < S.size := by rw [hsz]; exact hlt
        have hb := HG.out k hkS
        have hxb := HX.out k hlt
        have hdr : xs.drop k = xs.getD k 0 :: xs.drop (k + 1) := by
          have hl : k < xs.length := by have := HNn.out; omega
          rw [List.drop_eq_getElem_cons hl]; simp [List.getD, List.getElem?_eq_getElem hl]
        have HS2 := Lib.hid (hdr ▸ HS.out)
        clear hdr HS
        generalize xs.getD k 0 = x at *
        obtain ⟨m, rfl⟩ : ∃ m : Nat, x = (m : Int) := ⟨x.toNat, by omega⟩
        have hm : m ≤ 255 := by omega
        have hgm : (S[k]'hkS).toNat = m := by omega
        clear hb hxb
        by_cases hA : k = 9 ∧ 1 < m
        · have q1 : ((k : Int) == 9) = true := by rw [beq_iff_eq]; omega
          have q2 : decide ((m : Int) > 1) = true := decide_eq_true (by omega)
          have q3 : 1 < m := hA.2
          have HSC := Lib.hid (show scan 0 0 xs = ([], 11, 0) by rw [← HS2.out]; unfold scan; rw [if_pos ⟨hA.1, by omega⟩])
          clear hA
          go_wp2_with fail
          refine (KW.out 11 W1).mono ?_
          rintro e w2 ⟨rfl, hb⟩
          have HB := Lib.hid (below_next HA.out hb)
          have g2 := (hb.block _ (Array.getElem?_eq_some_iff.1 HN2.out).1).trans HN2.out
          have s0 := cell_of_block (o := 0) g2 rfl
          have s1 := cell_of_block (o := 1) g2 rfl
          have t0 := free_of_block 0 g2
          have t1 := free_of_block 1 g2
          have G2 := Lib.hid g2
          clear hb g2
          go_wp2
          refine bodyPost_ret (v := .tuple #[.agg #[.string ⟨#[]⟩, .int .i64 11], .int .i64 0]) (res_cell_tmp Tryz.results15 rfl rfl (rc_load (((wrote_refl G2.out).set 0 (.string ⟨#[]⟩)).set 1 (.int .i64 11)).there)) rfl ?_; rw [HSC.out]; exact ⟨rfl, (by repeat (first | exact Below.refl _ _ | assumption | refine below_drewN ?_ _ | refine Below.drew ?_ | refine below_alloc ?_ _ | refine Below.alloc ?_ (by first | omega | (simp; done) | (simp; omega)) _ | refine Below.setCell ?_ (Below.size (by assumption)) _ | refine Below.setCell ?_ (by first | omega | (simp; done) | (simp; omega)) _ | (refine Below.trans ?_ (Below.mono (by assumption) (by first | omega | (simp; done) | (simp; omega)))) | refine below_next ?_ (by assumption)))⟩
        · obtain ⟨u2, hu2⟩ : ∃ u2, u2 = u + m % 128 * 2 ^ (7 * k) := ⟨_, rfl⟩
          have hor := radd_step HU.out hk9 hm hA
          rw [← hu2] at hor
          have HOR := Lib.hid hor
          have h64 := or_lt HU.out hk9 hm hA
          rw [← hu2] at h64
          have hcase : (((k : Int) == 9) = true ∧ decide ((m : Int) > 1) = false ∧ ¬ 1 < m) ∨ ((k : Int) == 9) = false := by
            by_cases h9 : k = 9
            · exact .inl ⟨by rw [beq_iff_eq]; omega, decide_eq_false (by omega), by omega⟩
            · exact .inr (by rw [beq_eq_false_iff_ne]; omega)
          have hna : ¬ (k = 9 ∧ 1 < (m : Int)) := by omega
          clear hor
          by_cases h128 : 128 ≤ m
          · have hs : scan (k + 1) u2 (xs.drop (k + 1)) = scan 0 0 xs := by
              rw [← HS2.out]
              conv => rhs; unfold scan
              rw [if_neg hna, if_pos (by omega), show ((m : Int) - 128).toNat = m % 128 by omega, ← hu2]
            have hk8 : k ≤ 8 := by omega
            have hu3 : u2 < 2 ^ (7 * (k + 1)) := by
              have := HU.out
              rw [hu2, show 7 * (k + 1) = 7 + 7 * k by omega, Nat.pow_add]
              have : m % 128 * 2 ^ (7 * k) ≤ 127 * 2 ^ (7 * k) := Nat.mul_le_mul_right _ (by omega)
              omega
            have HS3 := Lib.hid hs
            have HU3 := Lib.hid hu3
            have hl128 : decide ((m : Int) < 128) = false := decide_eq_false (by omega)
            have hnl : ¬ m < 128 := by omega
            clear hs hu3 HS2 HU hu2 hna hA h64
            rcases hcase with ⟨q1, q2⟩ | q1
            · rw [beq_iff_eq] at q1; omega
            · go_wp2_with fail
              go_round
              case rel => exact ⟨k + 1, u2, by omega, by omega, HU3.out, by go_num, by rw [HOR.out], HS3.out⟩
              case measure => simp [intOf]; omega
          · have hl128 : decide ((m : Int) < 128) = true := decide_eq_true (by omega)
            have hnl : m < 128 := by omega
            by_cases hz : 0 < k ∧ m = 0
            · have hkz : decide ((k : Int) > 0) = true := decide_eq_true (by omega)
              have hmz : ((m : Int) == 0) = true := by rw [beq_iff_eq]; omega
              have hk0 : 0 < k := hz.1
              have HSC := Lib.hid (show scan 0 0 xs = ([], 11, 0) by rw [← HS2.out]; unfold scan; rw [if_neg hna, if_neg (by omega), if_pos (by omega)])
              clear HS2 HU hu2 hna hA h128 h64 hz
              rcases hcase with ⟨q1, q2, q3⟩ | q1
              · go_wp2_with fail
                refine (KW.out 11 W1).mono ?_
                rintro e w2 ⟨rfl, hb⟩
                have HB := Lib.hid (below_next HA.out hb)
                have g2 := (hb.block _ (Array.getElem?_eq_some_iff.1 HN2.out).1).trans HN2.out
                have s0 := cell_of_block (o := 0) g2 rfl
                have s1 := cell_of_block (o := 1) g2 rfl
                have t0 := free_of_block 0 g2
                have t1 := free_of_block 1 g2
                have G2 := Lib.hid g2
                clear hb g2
                go_wp2
                refine bodyPost_ret (v := .tuple #[.agg #[.string ⟨#[]⟩, .int .i64 11], .int .i64 0]) (res_cell_tmp Tryz.results15 rfl rfl (rc_load (((wrote_refl G2.out).set 0 (.string ⟨#[]⟩)).set 1 (.int .i64 11)).there)) rfl ?_; rw [HSC.out]; exact ⟨rfl, (by repeat (first | exact Below.refl _ _ | assumption | refine below_drewN ?_ _ | refine Below.drew ?_ | refine below_alloc ?_ _ | refine Below.alloc ?_ (by first | omega | (simp; done) | (simp; omega)) _ | refine Below.setCell ?_ (Below.size (by assumption)) _ | refine Below.setCell ?_ (by first | omega | (simp; done) | (simp; omega)) _ | (refine Below.trans ?_ (Below.mono (by assumption) (by first | omega | (simp; done) | (simp; omega)))) | refine below_next ?_ (by assumption)))⟩
              · go_wp2_with fail
                refine (KW.out 11 W1).mono ?_
                rintro e w2 ⟨rfl, hb⟩
                have HB := Lib.hid (below_next HA.out hb)
                have g2 := (hb.block _ (Array.getElem?_eq_some_iff.1 HN2.out).1).trans HN2.out
                have s0 := cell_of_block (o := 0) g2 rfl
                have s1 := cell_of_block (o := 1) g2 rfl
                have t0 := free_of_block 0 g2
                have t1 := free_of_block 1 g2
                have G2 := Lib.hid g2
                clear hb g2
                go_wp2
                refine bodyPost_ret (v := .tuple #[.agg #[.string ⟨#[]⟩, .int .i64 11], .int .i64 0]) (res_cell_tmp Tryz.results15 rfl rfl (rc_load (((wrote_refl G2.out).set 0 (.string ⟨#[]⟩)).set 1 (.int .i64 11)).there)) rfl ?_; rw [HSC.out]; exact ⟨rfl, (by repeat (first | exact Below.refl _ _ | assumption | refine below_drewN ?_ _ | refine Below.drew ?_ | refine below_alloc ?_ _ | refine Below.alloc ?_ (by first | omega | (simp; done) | (simp; omega)) _ | refine Below.setCell ?_ (Below.size (by assumption)) _ | refine Below.setCell ?_ (by first | omega | (simp; done) | (simp; omega)) _ | (refine Below.trans ?_ (Below.mono (by assumption) (by first | omega | (simp; done) | (simp; omega)))) | refine below_next ?_ (by assumption)))⟩
            · have HSC := Lib.hid (show scan 0 0 xs = (xs.drop (k + 1), 0, unfoldF u2) by
                rw [← HS2.out]; unfold scan; rw [if_neg hna, if_neg (by omega), if_neg (by omega), show ((m : Int)).toNat = m % 128 by omega, ← hu2])
              have hz2 : ((m : Int) == 0) = false ∨ ((m : Int) == 0) = true ∧ decide ((k : Int) > 0) = false ∧ ¬ 0 < k := by
                by_cases h : m = 0
                · exact .inr ⟨by rw [beq_iff_eq]; omega, decide_eq_false (by omega), by omega⟩
                · exact .inl (by rw [beq_eq_false_iff_ne]; omega)
              have KU := Lib.hid (fun W => runfold_any h64 W)
              have hxt := HXT.out (k + 1)
              have hk1 : IntKind.i64.wrap ((k : Int) + 1) = ((k + 1 : Nat) : Int) := by rw [IntWalk.i64_in _ (by omega)]; simp
              have hor := HOR.out
              have hp1 : (0 : Int) ≤ (k : Int) + 1 := by omega
              have hp2 : (k : Int) + 1 ≤ (n : Int) := by omega
              have hc0 : (W1.drew).cell? ⟨w.heap.size, 0, none⟩ = some (.string S) := c0
              clear HS2 HU hu2 hna hA h128
              have g2 : W1.drew.heap[w.heap.size + 1]? = some (.cells #[.string ⟨#[]⟩, .int .i64 0] 53 (0, 0)) := HN2.out
              have s0 := cell_of_block (o := 0) g2 rfl
              have s1 := cell_of_block (o := 1) g2 rfl
              have t0 := free_of_block 0 g2
              have t1 := free_of_block 1 g2
              have G2 := Lib.hid g2
              have HB := Lib.hid HA.out.drew
              clear g2
              rcases hcase with ⟨q1, q2, q3⟩ | q1 <;> rcases hz2 with z1 | ⟨z1, z2, z3⟩ <;> (
              go_wp2_with fail
              refine wp_region_grow_tail 8 (fun w' => w' = W1.drew) hmx (by kernel_rfl) rfl ?_
              iterate 7 (refine textS_run ?_ ?_ (fun W hS => ?_) ?_; rotate_left; (focus go_simp); (focus (subst hS; go_simp; all_goals (first | exact ⟨rfl, rfl⟩ | rfl | (refine ⟨?_, rfl⟩; rfl)))); (try go_simp))
              (refine textS_run ?_ ?_ (fun W hS => ?_) ?_; rotate_left; (focus go_simp); (focus (subst hS; go_simp; refine (KU.out W1.drew).mono ?_; rintro e w1 ⟨rfl, rfl⟩; refine ⟨?_, ?_⟩; (focus rfl); (focus rfl))); (try go_simp))
              refine textS_nil ?_
              go_wp2
              refine bodyPost_ret (v := .tuple #[.agg #[.string (strOfNums (xs.drop (k + 1))), .int .i64 0], .int .i64 (unfoldF u2)]) (res_cell_tmp Tryz.results15 rfl rfl (rc_load (((wrote_refl G2.out).set 0 (.string (strOfNums (xs.drop (k + 1))))).set 1 (.int .i64 0)).there)) rfl ?_
              rw [HSC.out]
              exact ⟨rfl, (by repeat (first | exact Below.refl _ _ | assumption | refine below_drewN ?_ _ | refine Below.drew ?_ | refine below_alloc ?_ _ | refine Below.alloc ?_ (by first | omega | (simp; done) | (simp; omega)) _ | refine Below.setCell ?_ (Below.size (by assumption)) _ | refine Below.setCell ?_ (by first | omega | (simp; done) | (simp; omega)) _ | (refine Below.trans ?_ (Below.mono (by assumption) (by first | omega | (simp; done) | (simp; omega)))) | refine below_next ?_ (by assumption)))⟩)
      · obtain rfl : k = n := by omega
        have hd1 : decide ((k : Int) ≥ (k : Int)) = true := decide_eq_true (by omega)
        have HSC := Lib.hid (show scan 0 0 xs = ([], 10, 0) by
          rw [← HS.out, List.drop_eq_nil_of_le (by have := HNn.out; omega)]
          cases k <;> rfl)
        clear hlt
        go_wp2_with fail
        refine (KW.out 10 W1).mono ?_
        rintro e w2 ⟨rfl, hb⟩
        have HB := Lib.hid (below_next HA.out hb)
        have g2 := (hb.block _ (Array.getElem?_eq_some_iff.1 HN2.out).1).trans HN2.out
        have s0 := cell_of_block (o := 0) g2 rfl
        have s1 := cell_of_block (o := 1) g2 rfl
        have t0 := free_of_block 0 g2
        have t1 := free_of_block 1 g2
        have G2 := Lib.hid g2
        clear hb g2
        go_wp2
        refine bodyPost_ret (v := .tuple #[.agg #[.string ⟨#[]⟩, .int .i64 10], .int .i64 0]) (res_cell_tmp Tryz.results15 rfl rfl (rc_load (((wrote_refl G2.out).set 0 (.string ⟨#[]⟩)).set 1 (.int .i64 10)).there)) rfl ?_; rw [HSC.out]; exact ⟨rfl, (by repeat (first | exact Below.refl _ _ | assumption | refine below_drewN ?_ _ | refine Below.drew ?_ | refine below_alloc ?_ _ | refine Below.alloc ?_ (by first | omega | (simp; done) | (simp; omega)) _ | refine Below.setCell ?_ (Below.size (by assumption)) _ | refine Below.setCell ?_ (by first | omega | (simp; done) | (simp; omega)) _ | (refine Below.trans ?_ (Below.mono (by assumption) (by first | omega | (simp; done) | (simp; omega)))) | refine below_next ?_ (by assumption)))⟩
  · have hq : (bd != 0) = true := by simp [h0]
    unfold intF
    rw [if_neg h0]
    simp only
    have HA := Lib.hid hA
    clear hA hN1 hN2
    go_enter Tryz.func15, Tryz.ntmps15
    go_wp2
    exact bodyPost_ret (v := .tuple #[.agg #[.string (strOfNums xs), .int .i64 bd], .int .i64 0]) (by simp [results, Tryz.results15, go_sem]) rfl ⟨rfl, (by repeat (first | exact Below.refl _ _ | assumption | refine below_drewN ?_ _ | refine Below.drew ?_ | refine below_alloc ?_ _ | refine Below.alloc ?_ (by first | omega | (simp; done) | (simp; omega)) _ | refine Below.setCell ?_ (Below.size (by assumption)) _ | refine Below.setCell ?_ (by first | omega | (simp; done) | (simp; omega)) _ | (refine Below.trans ?_ (Below.mono (by assumption) (by first | omega | (simp; done) | (simp; omega)))) | refine below_next ?_ (by assumption)))⟩
end Go.Proofs.YthflogeaielhlaaGreatDoor
namespace Go.Proofs.YthflogeaielhlaaGreatDoor
set_option linter.unusedVariables false
open Go.ChangeShapes Go.WideShapes Go.ChangeAt Go.RowKit Go.Lib
attribute [local go_sem ↓] Go.wp_at_zero Go.wp_at_succ comesTo_value_eq comesTo_skip_eq comesTo_enter_eq

theorem intF_suffix (st : CS) : (intF st).1.xs <:+ st.xs := by
  unfold intF
  split
  · exact scan_suffix _ _ _
  · exact List.suffix_refl _
theorem mem_suffix {xs ys : List Int} (h : xs <:+ ys) (hy : ∀ x ∈ ys, 0 ≤ x ∧ x ≤ 255) : ∀ x ∈ xs, 0 ≤ x ∧ x ≤ 255 := fun x hx => hy x (h.subset hx)
theorem smallF_ref {st st1 : CS} {v most : Int} (h : intF st = (st1, v)) : smallF st most = if st1.bad ≠ 0 then (st1, 0) else if v < 0 ∨ most < v then (⟨[], 2⟩, 0) else (st1, v) := by
  have hb := intF_bad st
  unfold smallF
  rw [h] at hb ⊢
  simp only at hb ⊢
  by_cases h0 : st1.bad = 0
  · rw [if_neg (show ¬ st1.bad ≠ 0 from fun h => h h0)]
    unfold failF
    rw [if_pos h0]
  · rw [if_pos h0]
    rcases hb with hb | ⟨rfl, _⟩
    · exact absurd hb h0
    · unfold failF
      rw [if_neg h0]
      split <;> rfl
theorem smallF_suffix (st : CS) (most : Int) : (smallF st most).1.xs <:+ st.xs := by
  have h := intF_suffix st
  unfold smallF failF
  split
  · split
    · exact List.nil_suffix
    · exact h
  · exact h
set_option maxRecDepth 100000 in
set_option maxHeartbeats 4000000 in
theorem rsmall_any (st : CS) (hx : ∀ x ∈ st.xs, 0 ≤ x ∧ x ≤ 255) (hl : st.xs.length ≤ 1099511627776) (most : Int) (w : World) :
    Calls Tryz.prog 16 #[.agg #[.string (strOfNums st.xs), .int .i64 st.bad], .int .i64 most] w fun e w' => e = .returned (.tuple #[.agg #[.string (strOfNums (smallF st most).1.xs), .int .i64 (smallF st most).1.bad], .int .i64 (smallF st most).2]) ∧ Below w.heap.size w w' := by
  have ki := fun W => rint_any st hx hl W
  unfold RC at ki
  obtain ⟨st1, v, hp⟩ : ∃ st1 v, intF st = (st1, v) := ⟨_, _, rfl⟩
  have hin := intF_in (st := st) hx
  rw [smallF_ref hp]
  rw [hp] at ki hin
  simp only at ki hin
  have hwv : IntKind.i64.wrap v = v := IntWalk.i64_in _ hin
  have KI := Lib.hid ki
  have KW := Lib.hid (fun (e : Int) (S : ByteArray) (b : Int) (W : World) => rwrong_any S b e W)
  generalize strOfNums st.xs = S at *
  generalize st.bad = bd at *
  generalize hS1 : strOfNums st1.xs = S1 at *
  have HS1 := Lib.hid hS1
  have hA := below_alloc (below_alloc (Below.refl _ w) (.cells #[.string S, .int .i64 bd] 53)) (.cells #[.string ⟨#[]⟩, .int .i64 0] 53)
  have hN2 := World.alloc_heap_new (w.alloc (.cells #[.string S, .int .i64 bd] 53)) (.cells #[.string ⟨#[]⟩, .int .i64 0] 53)
  rw [show (w.alloc (.cells #[.string S, .int .i64 bd] 53)).heap.size = w.heap.size + 1 by simp] at hN2
  have hlt1 : w.heap.size + 1 < ((w.alloc (.cells #[.string S, .int .i64 bd] 53)).alloc (.cells #[.string ⟨#[]⟩, .int .i64 0] 53)).heap.size := by simp
  have HA := Lib.hid hA
  have HN2 := Lib.hid hN2
  have HLT := Lib.hid hlt1
  clear ki hp hx hl hin hS1 hA hN2 hlt1
  by_cases h0 : st1.bad = 0
  · rw [if_neg (show ¬ st1.bad ≠ 0 from fun h => h h0)]
    have hq : (st1.bad != 0) = false := by simp [h0]
    clear h0
    rcases (by omega : v < 0 ∨ ¬ v < 0 ∧ most < v ∨ ¬ v < 0 ∧ ¬ most < v) with h1 | ⟨h1, h2⟩ | ⟨h1, h2⟩
    · rw [if_pos (Or.inl h1)]
      have hd1 : decide (v < 0) = true := decide_eq_true h1
      go_enter Tryz.func16, Tryz.ntmps16
      go_wp2_with fail
      generalize (w.alloc (.cells #[.string S, .int .i64 bd] 53)).alloc (.cells #[.string ⟨#[]⟩, .int .i64 0] 53) = W1 at *
      refine (KI.out W1).mono ?_
      rintro e w2 ⟨rfl, hb⟩
      have g2 := (hb.block _ HLT.out).trans HN2.out
      have hlt2 : w.heap.size + 1 < w2.heap.size := Nat.lt_of_lt_of_le HLT.out hb.size
      have s0 := cell_of_block (o := 0) g2 rfl
      have s1 := cell_of_block (o := 1) g2 rfl
      have t0 := free_of_block 0 g2
      have t1 := free_of_block 1 g2
      have G2 := Lib.hid g2
      have HB := Lib.hid (below_next HA.out hb)
      clear hb g2
      go_wp2_with fail
      refine (KW.out 2 S1 st1.bad _).mono ?_
      rintro e w5 ⟨rfl, hb5⟩
      have g3 := (Below.heap_alloc w2 (.cells #[.string S1, .int .i64 st1.bad] 53) _ hlt2).trans G2.out
      have hlt5 : w.heap.size + 1 < (w2.alloc (.cells #[.string S1, .int .i64 st1.bad] 53)).heap.size := by simp; omega
      have g5 := (hb5.block _ hlt5).trans g3
      have hb6 := (HB.out.alloc HB.out.size (.cells #[.string S1, .int .i64 st1.bad] 53)).trans (hb5.mono (Nat.le_trans HB.out.size (by simp)))
      have HB6 := Lib.hid hb6
      have p0 := cell_of_block (o := 0) g5 rfl
      have p1 := cell_of_block (o := 1) g5 rfl
      have z0 := free_of_block 0 g5
      have z1 := free_of_block 1 g5
      have G5 := Lib.hid g5
      clear hb5 g3 hlt5 g5 hb6 HB
      go_wp2
      refine bodyPost_ret (v := .tuple #[.agg #[.string ⟨#[]⟩, .int .i64 2], .int .i64 0]) (res_cell_tmp Tryz.results16 rfl rfl (rc_load (((wrote_refl G5.out).set 0 (.string ⟨#[]⟩)).set 1 (.int .i64 2)).there)) rfl ?_
      exact ⟨rfl, (by repeat (first | exact Below.refl _ _ | assumption | refine below_drewN ?_ _ | refine Below.drew ?_ | refine below_alloc ?_ _ | refine Below.alloc ?_ (by first | omega | (simp; done) | (simp; omega)) _ | refine Below.setCell ?_ (Below.size (by assumption)) _ | refine Below.setCell ?_ (by first | omega | (simp; done) | (simp; omega)) _ | (refine Below.trans ?_ (Below.mono (by assumption) (by first | omega | (simp; done) | (simp; omega)))) | refine below_next ?_ (by assumption)))⟩
    · rw [if_pos (Or.inr h2)]
      have hd1 : decide (v < 0) = false := decide_eq_false h1
      have hd2 : decide (v > most) = true := decide_eq_true h2
      go_enter Tryz.func16, Tryz.ntmps16
      go_wp2_with fail
      generalize (w.alloc (.cells #[.string S, .int .i64 bd] 53)).alloc (.cells #[.string ⟨#[]⟩, .int .i64 0] 53) = W1 at *
      refine (KI.out W1).mono ?_
      rintro e w2 ⟨rfl, hb⟩
      have g2 := (hb.block _ HLT.out).trans HN2.out
      have hlt2 : w.heap.size + 1 < w2.heap.size := Nat.lt_of_lt_of_le HLT.out hb.size
      have s0 := cell_of_block (o := 0) g2 rfl
      have s1 := cell_of_block (o := 1) g2 rfl
      have t0 := free_of_block 0 g2
      have t1 := free_of_block 1 g2
      have G2 := Lib.hid g2
      have HB := Lib.hid (below_next HA.out hb)
      clear hb g2
      go_wp2_with fail
      refine (KW.out 2 S1 st1.bad _).mono ?_
      rintro e w5 ⟨rfl, hb5⟩
      have g3 := (Below.heap_alloc w2 (.cells #[.string S1, .int .i64 st1.bad] 53) _ hlt2).trans G2.out
      have hlt5 : w.heap.size + 1 < (w2.alloc (.cells #[.string S1, .int .i64 st1.bad] 53)).heap.size := by simp; omega
      have g5 := (hb5.block _ hlt5).trans g3
      have hb6 := (HB.out.alloc HB.out.size (.cells #[.string S1, .int .i64 st1.bad] 53)).trans (hb5.mono (Nat.le_trans HB.out.size (by simp)))
      have HB6 := Lib.hid hb6
      have p0 := cell_of_block (o := 0) g5 rfl
      have p1 := cell_of_block (o := 1) g5 rfl
      have z0 := free_of_block 0 g5
      have z1 := free_of_block 1 g5
      have G5 := Lib.hid g5
      clear hb5 g3 hlt5 g5 hb6 HB
      go_wp2
      refine bodyPost_ret (v := .tuple #[.agg #[.string ⟨#[]⟩, .int .i64 2], .int .i64 0]) (res_cell_tmp Tryz.results16 rfl rfl (rc_load (((wrote_refl G5.out).set 0 (.string ⟨#[]⟩)).set 1 (.int .i64 2)).there)) rfl ?_
      exact ⟨rfl, (by repeat (first | exact Below.refl _ _ | assumption | refine below_drewN ?_ _ | refine Below.drew ?_ | refine below_alloc ?_ _ | refine Below.alloc ?_ (by first | omega | (simp; done) | (simp; omega)) _ | refine Below.setCell ?_ (Below.size (by assumption)) _ | refine Below.setCell ?_ (by first | omega | (simp; done) | (simp; omega)) _ | (refine Below.trans ?_ (Below.mono (by assumption) (by first | omega | (simp; done) | (simp; omega)))) | refine below_next ?_ (by assumption)))⟩
    · rw [if_neg (by omega)]
      have hd1 : decide (v < 0) = false := decide_eq_false h1
      have hd2 : decide (v > most) = false := decide_eq_false h2
      go_enter Tryz.func16, Tryz.ntmps16
      go_wp2_with fail
      generalize (w.alloc (.cells #[.string S, .int .i64 bd] 53)).alloc (.cells #[.string ⟨#[]⟩, .int .i64 0] 53) = W1 at *
      refine (KI.out W1).mono ?_
      rintro e w2 ⟨rfl, hb⟩
      have g2 := (hb.block _ HLT.out).trans HN2.out
      have hlt2 : w.heap.size + 1 < w2.heap.size := Nat.lt_of_lt_of_le HLT.out hb.size
      have s0 := cell_of_block (o := 0) g2 rfl
      have s1 := cell_of_block (o := 1) g2 rfl
      have t0 := free_of_block 0 g2
      have t1 := free_of_block 1 g2
      have G2 := Lib.hid g2
      have HB := Lib.hid (below_next HA.out hb)
      clear hb g2
      have g3 := (Below.heap_alloc w2 (.cells #[.string S1, .int .i64 st1.bad] 53) _ hlt2).trans G2.out
      go_wp2
      refine bodyPost_ret (v := .tuple #[.agg #[.string S1, .int .i64 st1.bad], .int .i64 v]) (res_cell_tmp Tryz.results16 rfl rfl (rc_load ((Below.heap_alloc _ _ _ (by simp [World.setCell]; omega)).trans (((wrote_refl G2.out).set 0 (.string S1)).set 1 (.int .i64 st1.bad)).there))) rfl ?_
      rw [HS1.out]
      exact ⟨rfl, (by repeat (first | exact Below.refl _ _ | assumption | refine below_drewN ?_ _ | refine Below.drew ?_ | refine below_alloc ?_ _ | refine Below.alloc ?_ (by first | omega | (simp; done) | (simp; omega)) _ | refine Below.setCell ?_ (Below.size (by assumption)) _ | refine Below.setCell ?_ (by first | omega | (simp; done) | (simp; omega)) _ | (refine Below.trans ?_ (Below.mono (by assumption) (by first | omega | (simp; done) | (simp; omega)))) | refine below_next ?_ (by assumption)))⟩
  · rw [if_pos h0]
    have hq : (st1.bad != 0) = true := by simp [h0]
    clear h0
    go_enter Tryz.func16, Tryz.ntmps16
    go_wp2_with fail
    generalize (w.alloc (.cells #[.string S, .int .i64 bd] 53)).alloc (.cells #[.string ⟨#[]⟩, .int .i64 0] 53) = W1 at *
    refine (KI.out W1).mono ?_
    rintro e w2 ⟨rfl, hb⟩
    have g2 := (hb.block _ HLT.out).trans HN2.out
    have hlt2 : w.heap.size + 1 < w2.heap.size := Nat.lt_of_lt_of_le HLT.out hb.size
    have s0 := cell_of_block (o := 0) g2 rfl
    have s1 := cell_of_block (o := 1) g2 rfl
    have t0 := free_of_block 0 g2
    have t1 := free_of_block 1 g2
    have G2 := Lib.hid g2
    have HB := Lib.hid (below_next HA.out hb)
    clear hb g2
    have g3 := (Below.heap_alloc w2 (.cells #[.string S1, .int .i64 st1.bad] 53) _ hlt2).trans G2.out
    go_wp2
    refine bodyPost_ret (v := .tuple #[.agg #[.string S1, .int .i64 st1.bad], .int .i64 0]) (res_cell_tmp Tryz.results16 rfl rfl (rc_load ((Below.heap_alloc _ _ _ (by simp [World.setCell]; omega)).trans (((wrote_refl G2.out).set 0 (.string S1)).set 1 (.int .i64 st1.bad)).there))) rfl ?_
    rw [HS1.out]
    exact ⟨rfl, (by repeat (first | exact Below.refl _ _ | assumption | refine below_drewN ?_ _ | refine Below.drew ?_ | refine below_alloc ?_ _ | refine Below.alloc ?_ (by first | omega | (simp; done) | (simp; omega)) _ | refine Below.setCell ?_ (Below.size (by assumption)) _ | refine Below.setCell ?_ (by first | omega | (simp; done) | (simp; omega)) _ | (refine Below.trans ?_ (Below.mono (by assumption) (by first | omega | (simp; done) | (simp; omega)))) | refine below_next ?_ (by assumption)))⟩
end Go.Proofs.YthflogeaielhlaaGreatDoor
