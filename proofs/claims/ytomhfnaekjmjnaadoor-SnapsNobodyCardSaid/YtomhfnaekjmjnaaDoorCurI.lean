/- A cursor's numbers. No condition. -/
import Derived.Test.YtomhfnaekjmjnaaDoorCur
import Derived.Deep.SlicePairs
namespace Go.Proofs.YtomhfnaekjmjnaaDoor
set_option linter.unusedVariables false
open Go.ChangeShapes Go.WideShapes Go.ChangeAt Go.RowKit
attribute [local go_sem ↓] Go.wp_at_zero Go.wp_at_succ comesTo_value_eq comesTo_skip_eq comesTo_enter_eq

/-- a number that is read -/
def intF (st : CS) : CS × Int := if st.bad = 0 then (⟨(scan 0 0 st.xs).1, (scan 0 0 st.xs).2.1⟩, (scan 0 0 st.xs).2.2) else (st, 0)
theorem slice_from {b o n c k : Nat} (hk : k ≤ n) (hc : n ≤ c) (W : World) : Sem.run Tryd.prog (Instr.slice 22 (.slice (some ⟨b, o, none⟩) n c) (some (.int .i64 (k : Int))) none none) W = .ok (.slice (some ⟨b, if c = k then o else o + k, none⟩) (n - k) (c - k)) W := by
  by_cases h : c = k
  · subst h
    obtain rfl : n = c := by omega
    go_simp
  · rw [if_neg h]
    go_simp
/-- the bytes behind the first ones -/
theorem TxtAt.behind {w : World} {b o n c : Nat} {xs : List Int} (h : TxtAt w (.slice (some ⟨b, o, none⟩) n c) xs) {k : Nat} (hk : k ≤ n) (hc : n ≤ c) : TxtAt w (.slice (some ⟨b, if c = k then o else o + k, none⟩) (n - k) (c - k)) (xs.drop k) := by
  obtain ⟨hn, h | ⟨rfl, _⟩ | ⟨b', o', e, h0, hr⟩⟩ := h.form
  · cases h.1
  · exact .inr ⟨by simp, some ⟨b, if c = k then o else o + k, none⟩, c - k, by rw [show n - k = 0 by simp at hn; omega], fun h => by cases h⟩
  · cases e
    by_cases h : n = k
    · exact .inr ⟨List.drop_eq_nil_of_le (by omega), some ⟨b, if c = k then o else o + k, none⟩, c - k, by rw [show n - k = 0 by omega], fun h => by cases h⟩
    · rw [if_neg (by omega)]
      refine .inl ⟨b, o + k, _, by rw [show n - k = (xs.drop k).length by simp; omega], by simp; omega, ⟨fun j hj => ?_, fun j hj => ?_, fun j hj => ?_, ?_⟩⟩
      · have := hr.cell (k + j) (by simp at hj; omega)
        rw [show o + k + j = o + (k + j) by omega, this]
        simp [List.getD, List.getElem?_drop]
      · have := hr.lo (k + j) (by simp at hj; omega)
        simpa [List.getD, List.getElem?_drop] using this
      · have := hr.hi (k + j) (by simp at hj; omega)
        simpa [List.getD, List.getElem?_drop] using this
      · have := hr.len; simp; omega
theorem and_128 {m : Nat} (hm : m ≤ 255) : (bits BinOp.and IntKind.u8 (m : Int) 128 != 0) = decide (128 ≤ m) := by
  have h := u8_and_nat m 128 (by omega) (by decide)
  have hb : m &&& 128 = m / 128 % 2 * 128 := nat_bit 7 m
  rw [show ((128 : Nat) : Int) = 128 from rfl, hb] at h
  rw [h]
  by_cases h1 : 128 ≤ m
  · rw [decide_eq_true h1]; simp; omega
  · rw [decide_eq_false h1]; simp; omega
theorem or_lt {u m k : Nat} (hu : u < 2 ^ (7 * k)) (hk : k ≤ 9) (hm : m ≤ 255) (hA : ¬ (k = 9 ∧ 1 < m)) : u + m % 128 * 2 ^ (7 * k) < 18446744073709551616 := by
  rcases (by omega : k = 9 ∨ k ≤ 8) with rfl | h8
  · have : m % 128 * 2 ^ (7 * 9) ≤ 1 * 2 ^ (7 * 9) := Nat.mul_le_mul_right _ (by omega)
    simp at this hu
    omega
  · have h1 : m % 128 * 2 ^ (7 * k) ≤ 127 * 2 ^ (7 * k) := Nat.mul_le_mul_right _ (by omega)
    have h2 : 2 ^ (7 * k) ≤ 2 ^ 56 := Nat.pow_le_pow_right (by decide) (by omega)
    simp at h2
    omega
theorem or_step {u m k : Nat} (hu : u < 2 ^ (7 * k)) (hk : k ≤ 9) (hm : m ≤ 255) (hA : ¬ (k = 9 ∧ 1 < m)) :
    bits BinOp.or IntKind.u64 (u : Int) (IntKind.u64.wrap (IntKind.u64.wrap (bits BinOp.andNot IntKind.u8 (m : Int) 128) * 2 ^ (7 * k))) = ((u + m % 128 * 2 ^ (7 * k) : Nat) : Int) := by
  have hlt := or_lt hu hk hm hA
  have h1 : bits BinOp.andNot IntKind.u8 (m : Int) 128 = ((m % 128 : Nat) : Int) := by
    have := u8_andNot_nat m 128 (by omega) (by decide)
    rw [show 255 - 128 = 127 from rfl, nat_mask7] at this
    exact this
  have e : ((m % 128 : Nat) : Int) * 2 ^ (7 * k) = ((m % 128 * 2 ^ (7 * k) : Nat) : Int) := by simp [Int.natCast_mul, Int.natCast_pow]
  rw [h1, IntKind.wrap_u64 ((m % 128 : Nat) : Int), show ((m % 128 : Nat) : Int) % 18446744073709551616 = ((m % 128 : Nat) : Int) by omega, e, IntKind.wrap_u64, show ((m % 128 * 2 ^ (7 * k) : Nat) : Int) % 18446744073709551616 = ((m % 128 * 2 ^ (7 * k) : Nat) : Int) by omega,
    u64_or_nat _ _ (by omega) (by omega), Nat.or_comm, nat_join (7 * k) _ _ (Nat.mul_mod_left _ _) hu, Nat.add_comm]
set_option maxRecDepth 100000 in
theorem int_cur {w : World} {C : Nat} {F : Nat → Prop} {st : CS} (h : Cur w C F st) :
    Calls Tryd.prog 80 #[.pointer (some ⟨C, 0, none⟩)] w fun r w' => r = .returned (.int .i64 (intF st).2) ∧ Cur w' C F (intF st).1 ∧ Fr (fun j => j = C) w w' := by
  obtain ⟨ad, n, c, hb, ht, hc, hp⟩ := h.at_
  unfold intF
  by_cases h0 : st.bad = 0
  · rw [if_pos h0]
    rw [h0, show badV 0 = .nilIface from rfl] at hb
    have KF0 : ∀ e : Int, e ≠ 0 → Calls Tryd.prog 83 #[.pointer (some ⟨C, 0, none⟩), .int .i64 e] w fun r w' => r = .returned (.int .i64 0) ∧ Cur w' C F ⟨[], e⟩ ∧ Fr (fun j => j = C) w w' := fun e he => by
      have := fail_cur h e he
      rwa [show failF st e = ⟨[], e⟩ from if_pos h0] at this
    have KF := Lib.hid KF0
    clear KF0
    have c0 := cell_of_block (o := 0) hb rfl
    have c1 := cell_of_block (o := 1) hb rfl
    have f0 := free_of_block 0 hb
    have H := Lib.hid h
    have HB := Lib.hid hb
    have HT := Lib.hid ht
    have HP := Lib.hid hp
    have HC := Lib.hid hc
    have hn := ht.form.1
    have HN := Lib.hid hn
    have hfit := h.fits
    rw [← hn] at hfit
    have HI := Lib.hid hfit
    obtain ⟨xs, bd⟩ := st
    simp only at *
    clear ht hp h h0 hb hc hn hfit
    go_enter Tryd.func80, Tryd.ntmps80
    go_wp2_with fail
    go_loop [3, 20] (fun v i => ∃ k u : Nat, k ≤ n ∧ k ≤ 9 ∧ u < 2 ^ (7 * k) ∧ i = .int .i64 k ∧ v = .int .u64 (u : Int) ∧ scan k u (xs.drop k) = scan 0 0 xs) (fun _ i => n - (intOf i).toNat)
    case atStart => exact ⟨0, 0, Nat.zero_le _, Nat.zero_le _, by decide, rfl, rfl, rfl⟩
    case round =>
      obtain ⟨k, u, hk, hk9, hu, rfl, rfl, hsc⟩ := hrel
      have HS := Lib.hid hsc
      have HU := Lib.hid hu
      clear hsc hu
      by_cases hlt : k < n
      · have hd1 : decide ((k : Int) < (n : Int)) = true := decide_eq_true (by omega)
        obtain ⟨b, o, rfl, hr⟩ : ∃ b o, ad = some ⟨b, o, none⟩ ∧ BytesRow w b o xs := by
          have hn := HN.out
          rcases HT.out.form.2 with ⟨_, rfl⟩ | ⟨rfl, _⟩ | ⟨b, o, h1, _, h2⟩
          · simp at hn; omega
          · simp at hn; omega
          · exact ⟨b, o, h1, h2⟩
        have hcell := hr.cell k (by have := HN.out; omega)
        have hlo := hr.lo k (by have := HN.out; omega)
        have hhi := hr.hi k (by have := HN.out; omega)
        have hdr : xs.drop k = xs.getD k 0 :: xs.drop (k + 1) := by
          have hl : k < xs.length := by have := HN.out; omega
          rw [List.drop_eq_getElem_cons hl]; simp [List.getD, List.getElem?_eq_getElem hl]
        have HS2 := Lib.hid (hdr ▸ HS.out)
        clear hr hdr HS
        generalize xs.getD k 0 = x at *
        obtain ⟨m, rfl⟩ : ∃ m : Nat, x = (m : Int) := ⟨x.toNat, by omega⟩
        have hm : m ≤ 255 := by omega
        have h7w : IntKind.i64.wrap (7 * (k : Int)) = 7 * (k : Int) := IntWalk.i64_in _ (by omega)
        have h7a : 0 ≤ 7 * (k : Int) := by omega
        have h7b : 7 * (k : Int) ≤ 64 := by omega
        have HM := Lib.hid hm
        clear hlo hhi
        by_cases hA : k = 9 ∧ 1 < m
        · have hq : decide ((m : Int) > 1) = true := decide_eq_true (by omega)
          have hq9 : ((k : Int) == 9) = true := by rw [beq_iff_eq]; omega
          have he : scan 0 0 xs = ([], 11, 0) := by
            rw [← HS2.out]; unfold scan; rw [if_pos ⟨hA.1, by omega⟩]
          have HSC := Lib.hid he
          clear he hA hm
          go_wp2_with fail
          refine (KF.out 11 (by decide)).mono ?_
          rintro e w1 ⟨rfl, hc1, hf1⟩
          go_wp2
          go_ret
          rw [HSC.out]
          exact ⟨rfl, hc1, hf1⟩
        · obtain ⟨u2, hu2⟩ : ∃ u2, u2 = u + m % 128 * 2 ^ (7 * k) := ⟨_, rfl⟩
          have hor := or_step HU.out hk9 hm hA
          rw [← hu2] at hor
          have HOR := Lib.hid hor
          have h64 := or_lt HU.out hk9 hm hA
          rw [← hu2] at h64
          have hcase : ((k : Int) == 9) = true ∧ decide ((m : Int) > 1) = false ∨ ((k : Int) == 9) = false := by
            by_cases h9 : k = 9
            · exact .inl ⟨by rw [beq_iff_eq]; omega, decide_eq_false (by omega)⟩
            · exact .inr (by rw [beq_eq_false_iff_ne]; omega)
          have hna : ¬ (k = 9 ∧ 1 < (m : Int)) := by omega
          by_cases h128 : 128 ≤ m
          · have hnz : (bits BinOp.and IntKind.u8 (m : Int) 128 != 0) = true := by rw [and_128 hm]; exact decide_eq_true h128
            have hs : scan (k + 1) u2 (xs.drop (k + 1)) = scan 0 0 xs := by
              rw [← HS2.out]
              conv => rhs; unfold scan
              rw [if_neg hna, if_pos (by omega), show ((m : Int) - 128).toNat = m % 128 by omega, ← hu2]
            have hk8 : k ≤ 8 := by omega
            have hu3 : u2 < 2 ^ (7 * (k + 1)) := by
              have := HU.out
              rw [hu2, show 7 * (k + 1) = 7 + 7 * k by omega, Nat.pow_add]
              have : m % 128 * 2 ^ (7 * k) ≤ 127 * 2 ^ (7 * k) := Nat.mul_le_mul_right _ (by omega)
              omega
            have HS3 := Lib.hid hs
            have HU3 := Lib.hid hu3
            clear hs hu3 HS2 HU hu2 hna hA h128 h64 hm
            rcases hcase with ⟨q1, q2⟩ | q1
            · rw [beq_iff_eq] at q1; omega
            · go_wp2
              go_round
              case rel => exact ⟨k + 1, u2, by omega, by omega, HU3.out, by go_num, rfl, HS3.out⟩
              case measure => simp [intOf]; omega
          · have hnz : (bits BinOp.and IntKind.u8 (m : Int) 128 != 0) = false := by rw [and_128 hm]; exact decide_eq_false h128
            by_cases hz : 0 < k ∧ m = 0
            · have hkz : decide ((k : Int) > 0) = true := decide_eq_true (by omega)
              have hmz : ((m : Int) == 0) = true := by rw [beq_iff_eq]; omega
              have he : scan 0 0 xs = ([], 11, 0) := by
                rw [← HS2.out]; unfold scan; rw [if_neg hna, if_neg (by omega), if_pos (by omega)]
              have HSC := Lib.hid he
              have hk0 : 0 < k := hz.1
              clear he HS2 HU hu2 hna hA h128 h64 hz hm
              rcases hcase with ⟨q1, q2⟩ | q1 <;> (
              go_wp2_with fail
              refine (KF.out 11 (by decide)).mono ?_
              rintro e w1 ⟨rfl, hc1, hf1⟩
              go_wp2
              go_ret
              rw [HSC.out]
              exact ⟨rfl, hc1, hf1⟩)
            · have he : scan 0 0 xs = (xs.drop (k + 1), 0, unfoldF u2) := by
                rw [← HS2.out]; unfold scan; rw [if_neg hna, if_neg (by omega), if_neg (by omega), show ((m : Int)).toNat = m % 128 by omega, ← hu2]
              have HSC := Lib.hid he
              clear he
              have hz2 : (decide ((k : Int) > 0) = false ∧ ¬ 0 < k) ∨ decide ((k : Int) > 0) = true ∧ ((m : Int) == 0) = false ∧ 0 < k := by
                rcases Nat.eq_zero_or_pos k with h | h
                · exact .inl ⟨decide_eq_false (by omega), by omega⟩
                · exact .inr ⟨decide_eq_true (by omega), by rw [beq_eq_false_iff_ne]; omega, h⟩
              have KU := Lib.hid (fun W => unfold_any h64 W)
              have hdl : (xs.drop (k + 1)).length ≤ xs.length := by simp
              by_cases hck : c = k + 1
              · have hcn := HC.out
                obtain rfl : n = c := by omega
                subst hck
                have HE := Lib.hid (H.out.wrote (st' := ⟨xs.drop (k + 1), 0⟩) (w' := w.setCell ⟨C, 0, none⟩ (.slice (some ⟨b, o, none⟩) 0 0)) ((wrote_refl HB.out).set 0 (.slice (some ⟨b, o, none⟩) 0 0)) (fun h => absurd rfl h) hdl (by
                    have := HT.out.behind (k := k + 1) (Nat.le_refl _) (Nat.le_refl _)
                    rw [if_pos rfl, Nat.sub_self] at this
                    exact this) (Nat.le_refl _) (fun p e => by cases e; exact HP.out ⟨b, o, none⟩ rfl))
                clear hdl HS2 HU hu2 hna hA h128 h64 hz hm hcn
                rcases hcase with ⟨q1, q2⟩ | q1 <;> rcases hz2 with ⟨z1, z3⟩ | ⟨z1, z2, z3⟩ <;> (
                go_wp2_with fail
                refine (KU.out _).mono ?_
                rintro e w1 ⟨rfl, rfl⟩
                go_wp2
                go_ret
                rw [HSC.out]
                exact ⟨rfl, HE.out.1, HE.out.2⟩)
              · have HE := Lib.hid (H.out.wrote (st' := ⟨xs.drop (k + 1), 0⟩) (w' := w.setCell ⟨C, 0, none⟩ (.slice (some ⟨b, o + (k + 1), none⟩) (n - (k + 1)) (c - (k + 1)))) ((wrote_refl HB.out).set 0 (.slice (some ⟨b, o + (k + 1), none⟩) (n - (k + 1)) (c - (k + 1)))) (fun h => absurd rfl h) hdl (by
                    have := HT.out.behind (k := k + 1) (by omega) HC.out
                    rw [if_neg hck] at this
                    exact this) (by have := HC.out; omega) (fun p e => by cases e; exact HP.out ⟨b, o, none⟩ rfl))
                have hkc := Nat.le_trans (show k + 1 ≤ n by omega) HC.out
                clear hdl HS2 HU hu2 hna hA h128 h64 hz hm
                rcases hcase with ⟨q1, q2⟩ | q1 <;> rcases hz2 with ⟨z1, z3⟩ | ⟨z1, z2, z3⟩ <;> (
                go_wp2_with fail
                refine (KU.out _).mono ?_
                rintro e w1 ⟨rfl, rfl⟩
                go_wp2
                go_ret
                rw [HSC.out]
                exact ⟨rfl, HE.out.1, HE.out.2⟩)
      · obtain rfl : k = n := by omega
        have hd1 : decide ((k : Int) < (k : Int)) = false := decide_eq_false (by omega)
        have he : scan 0 0 xs = ([], 10, 0) := by
          rw [← HS.out, List.drop_eq_nil_of_le (by have := HN.out; omega)]
          cases k <;> rfl
        have HSC := Lib.hid he
        clear he hlt
        go_wp2_with fail
        refine (KF.out 10 (by decide)).mono ?_
        rintro e w1 ⟨rfl, hc1, hf1⟩
        go_wp2
        go_ret
        rw [HSC.out]
        exact ⟨rfl, hc1, hf1⟩
  · rw [if_neg h0]
    rw [show badV st.bad = .iface 25 (.int .i64 st.bad) from if_neg h0] at hb
    have c1 := cell_of_block (o := 1) hb rfl
    have H := Lib.hid h
    clear ht hc hp h h0 hb
    go_enter Tryd.func80, Tryd.ntmps80
    go_wp2
    go_ret
    exact ⟨rfl, H.out, Fr.refl _ _⟩
end Go.Proofs.YtomhfnaekjmjnaaDoor
