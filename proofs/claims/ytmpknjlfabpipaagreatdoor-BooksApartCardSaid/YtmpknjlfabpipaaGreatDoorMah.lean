/- Laws that belong together: A cursor's numbers. No condition.; Numbers laid behind bytes; a cursor made. No condition but the lengths' bound.; A cursor's small numbers, texts, lists of numbers, and its end. No condition but that errors.errorType reads as the program's text lays it.; A cursor's lists of numbers; a cursor that is nil. Its condition: errors.errorType reads as the program's text lays it.; Texts and lists of numbers laid behind bytes. No condition but the lengths' bound.; Layer 2's small play: it answers true. Its condition: errors.errorType reads as the program's text lays it.; What is laid is read as it was; cut by a byte it is not. Plainly. No condition. -/
import Derived.Test.YtmpknjlfabpipaaGreatDoorMCur
import Derived.Deep.SlicePairs
import Derived.Test.YtmpknjlfabpipaaGreatDoorMag
import Derived.Lib.AppendStr
namespace Go.Proofs.YtmpknjlfabpipaaGreatDoor
set_option linter.unusedVariables false
open Go.ChangeShapes Go.WideShapes Go.ChangeAt Go.RowKit
attribute [local go_sem ↓] Go.wp_at_zero Go.wp_at_succ comesTo_value_eq comesTo_skip_eq comesTo_enter_eq

/-- a number that is read -/
def intF (st : CS) : CS × Int := if st.bad = 0 then (⟨(scan 0 0 st.xs).1, (scan 0 0 st.xs).2.1⟩, (scan 0 0 st.xs).2.2) else (st, 0)
theorem slice_from {b o n c k : Nat} (hk : k ≤ n) (hc : n ≤ c) (W : World) : Sem.run Tryz.prog (Instr.slice 22 (.slice (some ⟨b, o, none⟩) n c) (some (.int .i64 (k : Int))) none none) W = .ok (.slice (some ⟨b, if c = k then o else o + k, none⟩) (n - k) (c - k)) W := by
  by_cases h : c = k
  · subst h
    obtain rfl : n = c := by omega
    go_simp
  · rw [if_neg h]
    go_simp
/-- the bytes behind the first ones -/
theorem TxtAt.behind {w : World} {b o n c : Nat} {xs : List Int} (h : TxtAt w (.slice (some ⟨b, o, none⟩) n c) xs) {k : Nat} (hk : k ≤ n) (hc : n ≤ c) : TxtAt w (.slice (some ⟨b, if c = k then o else o + k, none⟩) (n - k) (c - k)) (xs.drop k) := by
  obtain ⟨hn, h | ⟨rfl, _⟩ | ⟨b', o', e, h0, hr⟩⟩ := h.form
  · cases h.1
  · exact .inr ⟨by simp, some ⟨b, if c = k then o else o + k, none⟩, c - k, by rw [show n - k = 0 by simp at hn; omega], fun h => by cases h⟩
  · cases e
    by_cases h : n = k
    · exact .inr ⟨List.drop_eq_nil_of_le (by omega), some ⟨b, if c = k then o else o + k, none⟩, c - k, by rw [show n - k = 0 by omega], fun h => by cases h⟩
    · rw [if_neg (by omega)]
      refine .inl ⟨b, o + k, _, by rw [show n - k = (xs.drop k).length by simp; omega], by simp; omega, ⟨fun j hj => ?_, fun j hj => ?_, fun j hj => ?_, ?_⟩⟩
      · have := hr.cell (k + j) (by simp at hj; omega)
        rw [show o + k + j = o + (k + j) by omega, this]
        simp [List.getD, List.getElem?_drop]
      · have := hr.lo (k + j) (by simp at hj; omega)
        simpa [List.getD, List.getElem?_drop] using this
      · have := hr.hi (k + j) (by simp at hj; omega)
        simpa [List.getD, List.getElem?_drop] using this
      · have := hr.len; simp; omega
theorem and_128 {m : Nat} (hm : m ≤ 255) : (bits BinOp.and IntKind.u8 (m : Int) 128 != 0) = decide (128 ≤ m) := by
  have h := u8_and_nat m 128 (by omega) (by decide)
  have hb : m &&& 128 = m / 128 % 2 * 128 := nat_bit 7 m
  rw [show ((128 : Nat) : Int) = 128 from rfl, hb] at h
  rw [h]
  by_cases h1 : 128 ≤ m
  · rw [decide_eq_true h1]; simp; omega
  · rw [decide_eq_false h1]; simp; omega
theorem or_lt {u m k : Nat} (hu : u < 2 ^ (7 * k)) (hk : k ≤ 9) (hm : m ≤ 255) (hA : ¬ (k = 9 ∧ 1 < m)) : u + m % 128 * 2 ^ (7 * k) < 18446744073709551616 := by
  rcases (by omega : k = 9 ∨ k ≤ 8) with rfl | h8
  · have : m % 128 * 2 ^ (7 * 9) ≤ 1 * 2 ^ (7 * 9) := Nat.mul_le_mul_right _ (by omega)
    simp at this hu
    omega
  · have h1 : m % 128 * 2 ^ (7 * k) ≤ 127 * 2 ^ (7 * k) := Nat.mul_le_mul_right _ (by omega)
    have h2 : 2 ^ (7 * k) ≤ 2 ^ 56 := Nat.pow_le_pow_right (by decide) (by omega)
    simp at h2
    omega
theorem or_step {u m k : Nat} (hu : u < 2 ^ (7 * k)) (hk : k ≤ 9) (hm : m ≤ 255) (hA : ¬ (k = 9 ∧ 1 < m)) :
    bits BinOp.or IntKind.u64 (u : Int) (IntKind.u64.wrap (IntKind.u64.wrap (bits BinOp.andNot IntKind.u8 (m : Int) 128) * 2 ^ (7 * k))) = ((u + m % 128 * 2 ^ (7 * k) : Nat) : Int) := by
  have hlt := or_lt hu hk hm hA
  have h1 : bits BinOp.andNot IntKind.u8 (m : Int) 128 = ((m % 128 : Nat) : Int) := by
    have := u8_andNot_nat m 128 (by omega) (by decide)
    rw [show 255 - 128 = 127 from rfl, nat_mask7] at this
    exact this
  have e : ((m % 128 : Nat) : Int) * 2 ^ (7 * k) = ((m % 128 * 2 ^ (7 * k) : Nat) : Int) := by simp [Int.natCast_mul, Int.natCast_pow]
  rw [h1, IntKind.wrap_u64 ((m % 128 : Nat) : Int), show ((m % 128 : Nat) : Int) % 18446744073709551616 = ((m % 128 : Nat) : Int) by omega, e, IntKind.wrap_u64, show ((m % 128 * 2 ^ (7 * k) : Nat) : Int) % 18446744073709551616 = ((m % 128 * 2 ^ (7 * k) : Nat) : Int) by omega,
    u64_or_nat _ _ (by omega) (by omega), Nat.or_comm, nat_join (7 * k) _ _ (Nat.mul_mod_left _ _) hu, Nat.add_comm]
set_option maxRecDepth 100000 in
theorem int_cur {w : World} {C : Nat} {F : Nat → Prop} {st : CS} (h : Cur w C F st) :
    Calls Tryz.prog 19 #[.pointer (some ⟨C, 0, none⟩)] w fun r w' => r = .returned (.int .i64 (intF st).2) ∧ Cur w' C F (intF st).1 ∧ Fr (fun j => j = C) w w' := by
  obtain ⟨ad, n, c, hb, ht, hc, hp⟩ := h.at_
  unfold intF
  by_cases h0 : st.bad = 0
  · rw [if_pos h0]
    rw [h0, show badV 0 = .nilIface from rfl] at hb
    have KF0 : ∀ e : Int, e ≠ 0 → Calls Tryz.prog 42 #[.pointer (some ⟨C, 0, none⟩), .int .i64 e] w fun r w' => r = .returned (.int .i64 0) ∧ Cur w' C F ⟨[], e⟩ ∧ Fr (fun j => j = C) w w' := fun e he => by
      have := fail_cur h e he
      rwa [show failF st e = ⟨[], e⟩ from if_pos h0] at this
    have KF := Lib.hid KF0
    clear KF0
    have c0 := cell_of_block (o := 0) hb rfl
    have c1 := cell_of_block (o := 1) hb rfl
    have f0 := free_of_block 0 hb
    have H := Lib.hid h
    have HB := Lib.hid hb
    have HT := Lib.hid ht
    have HP := Lib.hid hp
    have HC := Lib.hid hc
    have hn := ht.form.1
    have HN := Lib.hid hn
    have hfit := h.fits
    rw [← hn] at hfit
    have HI := Lib.hid hfit
    obtain ⟨xs, bd⟩ := st
    simp only at *
    clear ht hp h h0 hb hc hn hfit
    go_enter Tryz.func19, Tryz.ntmps19
    go_wp2_with fail
    go_loop [3, 20] (fun v i => ∃ k u : Nat, k ≤ n ∧ k ≤ 9 ∧ u < 2 ^ (7 * k) ∧ i = .int .i64 k ∧ v = .int .u64 (u : Int) ∧ scan k u (xs.drop k) = scan 0 0 xs) (fun _ i => n - (intOf i).toNat)
    case atStart => exact ⟨0, 0, Nat.zero_le _, Nat.zero_le _, by decide, rfl, rfl, rfl⟩
    case round =>
      obtain ⟨k, u, hk, hk9, hu, rfl, rfl, hsc⟩ := hrel
      have HS := Lib.hid hsc
      have HU := Lib.hid hu
      clear hsc hu
      by_cases hlt : k < n
      · have hd1 : decide ((k : Int) < (n : Int)) = true := decide_eq_true (by omega)
        obtain ⟨b, o, rfl, hr⟩ : ∃ b o, ad = some ⟨b, o, none⟩ ∧ BytesRow w b o xs := by
          have hn := HN.out
          rcases HT.out.form.2 with ⟨_, rfl⟩ | ⟨rfl, _⟩ | ⟨b, o, h1, _, h2⟩
          · simp at hn; omega
          · simp at hn; omega
          · exact ⟨b, o, h1, h2⟩
        have hcell := hr.cell k (by have := HN.out; omega)
        have hlo := hr.lo k (by have := HN.out; omega)
        have hhi := hr.hi k (by have := HN.out; omega)
        have hdr : xs.drop k = xs.getD k 0 :: xs.drop (k + 1) := by
          have hl : k < xs.length := by have := HN.out; omega
          rw [List.drop_eq_getElem_cons hl]; simp [List.getD, List.getElem?_eq_getElem hl]
        have HS2 := Lib.hid (hdr ▸ HS.out)
        clear hr hdr HS
        generalize xs.getD k 0 = x at *
        obtain ⟨m, rfl⟩ : ∃ m : Nat, x = (m : Int) := ⟨x.toNat, by omega⟩
        have hm : m ≤ 255 := by omega
        have h7w : IntKind.i64.wrap (7 * (k : Int)) = 7 * (k : Int) := IntWalk.i64_in _ (by omega)
        have h7a : 0 ≤ 7 * (k : Int) := by omega
        have h7b : 7 * (k : Int) ≤ 64 := by omega
        have HM := Lib.hid hm
        clear hlo hhi
        by_cases hA : k = 9 ∧ 1 < m
        · have hq : decide ((m : Int) > 1) = true := decide_eq_true (by omega)
          have hq9 : ((k : Int) == 9) = true := by rw [beq_iff_eq]; omega
          have he : scan 0 0 xs = ([], 11, 0) := by
            rw [← HS2.out]; unfold scan; rw [if_pos ⟨hA.1, by omega⟩]
          have HSC := Lib.hid he
          clear he hA hm
          go_wp2_with fail
          refine (KF.out 11 (by decide)).mono ?_
          rintro e w1 ⟨rfl, hc1, hf1⟩
          go_wp2
          go_ret
          rw [HSC.out]
          exact ⟨rfl, hc1, hf1⟩
        · obtain ⟨u2, hu2⟩ : ∃ u2, u2 = u + m % 128 * 2 ^ (7 * k) := ⟨_, rfl⟩
          have hor := or_step HU.out hk9 hm hA
          rw [← hu2] at hor
          have HOR := Lib.hid hor
          have h64 := or_lt HU.out hk9 hm hA
          rw [← hu2] at h64
          have hcase : ((k : Int) == 9) = true ∧ decide ((m : Int) > 1) = false ∨ ((k : Int) == 9) = false := by
            by_cases h9 : k = 9
            · exact .inl ⟨by rw [beq_iff_eq]; omega, decide_eq_false (by omega)⟩
            · exact .inr (by rw [beq_eq_false_iff_ne]; omega)
          have hna : ¬ (k = 9 ∧ 1 < (m : Int)) := by omega
          by_cases h128 : 128 ≤ m
          · have hnz : (bits BinOp.and IntKind.u8 (m : Int) 128 != 0) = true := by rw [and_128 hm]; exact decide_eq_true h128
            have hs : scan (k + 1) u2 (xs.drop (k + 1)) = scan 0 0 xs := by
              rw [← HS2.out]
              conv => rhs; unfold scan
              rw [if_neg hna, if_pos (by omega), show ((m : Int) - 128).toNat = m % 128 by omega, ← hu2]
            have hk8 : k ≤ 8 := by omega
            have hu3 : u2 < 2 ^ (7 * (k + 1)) := by
              have := HU.out
              rw [hu2, show 7 * (k + 1) = 7 + 7 * k by omega, Nat.pow_add]
              have : m % 128 * 2 ^ (7 * k) ≤ 127 * 2 ^ (7 * k) := Nat.mul_le_mul_right _ (by omega)
              omega
            have HS3 := Lib.hid hs
            have HU3 := Lib.hid hu3
            clear hs hu3 HS2 HU hu2 hna hA h128 h64 hm
            rcases hcase with ⟨q1, q2⟩ | q1
            · rw [beq_iff_eq] at q1; omega
            · go_wp2
              go_round
              case rel => exact ⟨k + 1, u2, by omega, by omega, HU3.out, by go_num, rfl, HS3.out⟩
              case measure => simp [intOf]; omega
          · have hnz : (bits BinOp.and IntKind.u8 (m : Int) 128 != 0) = false := by rw [and_128 hm]; exact decide_eq_false h128
            by_cases hz : 0 < k ∧ m = 0
            · have hkz : decide ((k : Int) > 0) = true := decide_eq_true (by omega)
              have hmz : ((m : Int) == 0) = true := by rw [beq_iff_eq]; omega
              have he : scan 0 0 xs = ([], 11, 0) := by
                rw [← HS2.out]; unfold scan; rw [if_neg hna, if_neg (by omega), if_pos (by omega)]
              have HSC := Lib.hid he
              have hk0 : 0 < k := hz.1
              clear he HS2 HU hu2 hna hA h128 h64 hz hm
              rcases hcase with ⟨q1, q2⟩ | q1 <;> (
              go_wp2_with fail
              refine (KF.out 11 (by decide)).mono ?_
              rintro e w1 ⟨rfl, hc1, hf1⟩
              go_wp2
              go_ret
              rw [HSC.out]
              exact ⟨rfl, hc1, hf1⟩)
            · have he : scan 0 0 xs = (xs.drop (k + 1), 0, unfoldF u2) := by
                rw [← HS2.out]; unfold scan; rw [if_neg hna, if_neg (by omega), if_neg (by omega), show ((m : Int)).toNat = m % 128 by omega, ← hu2]
              have HSC := Lib.hid he
              clear he
              have hz2 : (decide ((k : Int) > 0) = false ∧ ¬ 0 < k) ∨ decide ((k : Int) > 0) = true ∧ ((m : Int) == 0) = false ∧ 0 < k := by
                rcases Nat.eq_zero_or_pos k with h | h
                · exact .inl ⟨decide_eq_false (by omega), by omega⟩
                · exact .inr ⟨decide_eq_true (by omega), by rw [beq_eq_false_iff_ne]; omega, h⟩
              have KU := Lib.hid (fun W => unfold_any h64 W)
              have hdl : (xs.drop (k + 1)).length ≤ xs.length := by simp
              by_cases hck : c = k + 1
              · have hcn := HC.out
                obtain rfl : n = c := by omega
                subst hck
                have HE := Lib.hid (H.out.wrote (st' := ⟨xs.drop (k + 1), 0⟩) (w' := w.setCell ⟨C, 0, none⟩ (.slice (some ⟨b, o, none⟩) 0 0)) ((wrote_refl HB.out).set 0 (.slice (some ⟨b, o, none⟩) 0 0)) (fun h => absurd rfl h) hdl (by
                    have := HT.out.behind (k := k + 1) (Nat.le_refl _) (Nat.le_refl _)
                    rw [if_pos rfl, Nat.sub_self] at this
                    exact this) (Nat.le_refl _) (fun p e => by cases e; exact HP.out ⟨b, o, none⟩ rfl))
                clear hdl HS2 HU hu2 hna hA h128 h64 hz hm hcn
                rcases hcase with ⟨q1, q2⟩ | q1 <;> rcases hz2 with ⟨z1, z3⟩ | ⟨z1, z2, z3⟩ <;> (
                go_wp2_with fail
                refine (KU.out _).mono ?_
                rintro e w1 ⟨rfl, rfl⟩
                go_wp2
                go_ret
                rw [HSC.out]
                exact ⟨rfl, HE.out.1, HE.out.2⟩)
              · have HE := Lib.hid (H.out.wrote (st' := ⟨xs.drop (k + 1), 0⟩) (w' := w.setCell ⟨C, 0, none⟩ (.slice (some ⟨b, o + (k + 1), none⟩) (n - (k + 1)) (c - (k + 1)))) ((wrote_refl HB.out).set 0 (.slice (some ⟨b, o + (k + 1), none⟩) (n - (k + 1)) (c - (k + 1)))) (fun h => absurd rfl h) hdl (by
                    have := HT.out.behind (k := k + 1) (by omega) HC.out
                    rw [if_neg hck] at this
                    exact this) (by have := HC.out; omega) (fun p e => by cases e; exact HP.out ⟨b, o, none⟩ rfl))
                have hkc := Nat.le_trans (show k + 1 ≤ n by omega) HC.out
                clear hdl HS2 HU hu2 hna hA h128 h64 hz hm
                rcases hcase with ⟨q1, q2⟩ | q1 <;> rcases hz2 with ⟨z1, z3⟩ | ⟨z1, z2, z3⟩ <;> (
                go_wp2_with fail
                refine (KU.out _).mono ?_
                rintro e w1 ⟨rfl, rfl⟩
                go_wp2
                go_ret
                rw [HSC.out]
                exact ⟨rfl, HE.out.1, HE.out.2⟩)
      · obtain rfl : k = n := by omega
        have hd1 : decide ((k : Int) < (k : Int)) = false := decide_eq_false (by omega)
        have he : scan 0 0 xs = ([], 10, 0) := by
          rw [← HS.out, List.drop_eq_nil_of_le (by have := HN.out; omega)]
          cases k <;> rfl
        have HSC := Lib.hid he
        clear he hlt
        go_wp2_with fail
        refine (KF.out 10 (by decide)).mono ?_
        rintro e w1 ⟨rfl, hc1, hf1⟩
        go_wp2
        go_ret
        rw [HSC.out]
        exact ⟨rfl, hc1, hf1⟩
  · rw [if_neg h0]
    rw [show badV st.bad = .iface 24 (.int .i64 st.bad) from if_neg h0] at hb
    have c1 := cell_of_block (o := 1) hb rfl
    have H := Lib.hid h
    clear ht hc hp h h0 hb
    go_enter Tryz.func19, Tryz.ntmps19
    go_wp2
    go_ret
    exact ⟨rfl, H.out, Fr.refl _ _⟩
end Go.Proofs.YtmpknjlfabpipaaGreatDoor
namespace Go.Proofs.YtmpknjlfabpipaaGreatDoor
set_option linter.unusedVariables false
open Go.ChangeShapes Go.WideShapes Go.ChangeAt Go.RowKit
attribute [local go_sem ↓] Go.wp_at_zero Go.wp_at_succ comesTo_value_eq comesTo_skip_eq comesTo_enter_eq

/-- a cursor is made -/
theorem read_cur {w : World} {v : Value} {xs : List Int} (h : TxtAt w v xs) (hl : xs.length ≤ 1099511627775) :
    Calls Tryz.prog 18 #[v] w fun e w' => ∃ C, e = .returned (.pointer (some ⟨C, 0, none⟩)) ∧ Cur w' C (fun j => w.heap.size ≤ j) ⟨xs, 0⟩ ∧ Below w.heap.size w w' := by
  have K := Lib.hid (clone_bytes h (by omega))
  clear h
  go_enter Tryz.func18, Tryz.ntmps18
  go_wp2_with fail
  refine K.out.mono ?_
  rintro e w1 ⟨u, rfl, ho, hb, _⟩
  have HO := Lib.hid ho
  have HB := Lib.hid hb
  clear ho hb K
  rcases HO.out.form with ⟨rfl, rfl⟩ | ⟨g, c, rfl, hn, hc⟩
  · go_wp2
    go_ret
    have hA := below_alloc (Below.refl _ w1) (.cells #[.slice none 0 0, .nilIface] 94)
    exact ⟨w1.heap.size, rfl, ⟨HB.out.size, fun h => absurd rfl h, hl, none, 0, 0, World.alloc_heap_new w1 _, .inr ⟨rfl, none, 0, rfl, fun _ => rfl⟩, Nat.le_refl _, fun p hp => by cases hp⟩, HB.out.trans (hA.mono HB.out.size)⟩
  · have HC := Lib.hid hn
    have HL := Lib.hid hl
    clear hn hc hl
    go_wp2
    go_ret
    have hA := below_alloc (Below.refl _ w1) (.cells #[.slice (some ⟨g, 0, none⟩) xs.length c, .nilIface] 94)
    refine ⟨w1.heap.size, rfl, ⟨HB.out.size, fun h => absurd rfl h, HL.out, some ⟨g, 0, none⟩, xs.length, c, World.alloc_heap_new w1 _, HO.out.at.below hA, HC.out, fun p hp => ?_⟩, HB.out.trans (hA.mono HB.out.size)⟩
    cases hp
    have h1 := ownBlock_lt HO.out (g := g) rfl
    have h2 := HO.out.blockGe (g := g) rfl
    exact ⟨by show g ≠ w1.heap.size; omega, h2, Nat.lt_of_lt_of_le h1 hA.size⟩
theorem or_128 : ∀ x : Nat, x < 256 → x ||| 128 = x % 128 + 128 := by decide +kernel
theorem or_more (u : Nat) : bits BinOp.or IntKind.u8 ((u : Int) % 256) 128 = ((u % 128 + 128 : Nat) : Int) := by
  have h := u8_or_nat (u % 256) 128 (by omega) (by decide)
  rw [or_128 _ (by omega), show u % 256 % 128 = u % 128 by omega] at h
  rw [show (u : Int) % 256 = ((u % 256 : Nat) : Int) by omega]
  exact h
theorem byte_txt {w : World} {b : Nat} {x : Int} {T : TypeId} (hb : w.heap[b]? = some (.cells #[.int .u8 x] T (0, 0))) (h : 0 ≤ x ∧ x ≤ 255) : TxtAt w (.slice (some ⟨b, 0, none⟩) 1 1) [x] := by
  refine .inl ⟨b, 0, 1, rfl, by simp, ⟨fun k hk => ?_, fun k hk => ?_, fun k hk => ?_, by simp⟩⟩ <;> (obtain rfl : k = 0 := by simpa using hk)
  · exact cell_of_block hb rfl
  · exact h.1
  · exact h.2
set_option maxRecDepth 100000 in
theorem lay64_any {w : World} {B : Nat} {v : Value} {xs : List Int} (h : OwnTxt w B v xs) (hB : B ≤ w.heap.size) (hl : xs.length ≤ 1099511627776) {n : Int} (hn : -9223372036854775808 ≤ n ∧ n ≤ 9223372036854775807) :
    Calls Tryz.prog 57 #[v, .int .i64 n] w fun e w' => ∃ u, e = .returned u ∧ OwnTxt w' B u (xs ++ putI n) ∧ Below B w w' := by
  have K := Lib.hid (fold_any hn w)
  have h64 := fold_lt hn
  have hlen := putI_len hn
  have HO := Lib.hid h
  clear h
  unfold putI at *
  generalize foldF n = u0 at *
  go_enter Tryz.func57, Tryz.ntmps57
  go_wp2_with fail
  refine K.out.mono ?_
  rintro e w' ⟨rfl, rfl⟩
  have HL := Lib.hid hlen
  clear hlen
  go_wp2_with fail
  go_loopw [0, 5] (fun b r wr => ∃ (v' : Value) (acc : List Int) (u : Nat), b = v' ∧ r = .int .u64 (u : Int) ∧ u < 18446744073709551616 ∧ acc ++ putU u = putU u0 ∧ OwnTxt wr B v' (xs ++ acc) ∧ Below B w wr) (fun _ r _ => (intOf r).toNat)
  case atStart => exact ⟨v, [], u0, rfl, rfl, h64, rfl, by rw [List.append_nil]; exact HO.out, Below.refl _ _⟩
  case round =>
    clear HO
    obtain ⟨v', acc, u, rfl, rfl, hu, hacc, ho, hb⟩ := hrel
    have HA := Lib.hid hacc
    have HB := Lib.hid hb
    have hal : acc.length + (putU u).length ≤ 10 := by
      have := HL.out
      rw [← hacc, List.length_append] at this
      exact this
    clear hacc hb
    by_cases h128 : u < 128
    · have hq : decide ((u : Int) ≥ 128) = false := decide_eq_false (by omega)
      have hw : IntKind.u8.wrap (u : Int) = (u : Int) := by rw [IntKind.wrap_u8']; omega
      have hA1 := below_alloc (Below.refl _ wr) (.cells #[.int .u8 (u : Int)] 5)
      have HO1 := Lib.hid (ho.below hA1)
      have HT1 := Lib.hid (byte_txt (World.alloc_heap_new wr (.cells #[.int .u8 (u : Int)] 5)) (by omega))
      have HA1 := Lib.hid hA1
      rw [putU_lt h128] at HA
      have h9 : (xs ++ acc).length + 1 ≤ 140737488355328 := by
        have := putU_len u
        simp; omega
      have hBA : B ≤ (wr.alloc (.cells #[.int .u8 (u : Int)] 5)).heap.size := Nat.le_trans hB (Nat.le_trans HB.out.size HA1.out.size)
      have HF := Lib.hid (HB.out.trans (HA1.out.mono (Nat.le_trans hB HB.out.size)))
      clear ho hA1 hal h128
      go_wp2_with (at_builtin; go_loud (refine wpList_append_txt (by rfl) _ _ (by rfl) B u0 (xs ++ acc) (by rfl) HO1.out _ [(u : Int)] (by rfl) HT1.out (by simpa using h9) hBA ?_; intro ad n' c' w1 o1 b1 g1; have O1 := Lib.hid o1; have B1 := Lib.hid b1; clear o1 b1 g1))
      go_ret
      refine ⟨_, rfl, ?_, HF.out.trans B1.out⟩
      rw [← HA.out, ← List.append_assoc]
      exact O1.out
    · have hq : decide ((u : Int) ≥ 128) = true := decide_eq_true (by omega)
      have hor := or_more u
      have hA1 := below_alloc (Below.refl _ wr) (.cells #[.int .u8 ((u % 128 + 128 : Nat) : Int)] 5)
      have HO1 := Lib.hid (ho.below hA1)
      have HT1 := Lib.hid (byte_txt (World.alloc_heap_new wr (.cells #[.int .u8 ((u % 128 + 128 : Nat) : Int)] 5)) (by omega))
      have HA1 := Lib.hid hA1
      rw [putU_ge h128] at HA
      have h9 : (xs ++ acc).length + 1 ≤ 140737488355328 := by simp; omega
      have hBA : B ≤ (wr.alloc (.cells #[.int .u8 ((u % 128 + 128 : Nat) : Int)] 5)).heap.size := Nat.le_trans hB (Nat.le_trans HB.out.size HA1.out.size)
      have HF := Lib.hid (HB.out.trans (HA1.out.mono (Nat.le_trans hB HB.out.size)))
      have HM := Lib.hid (show u / 128 < u ∧ u / 128 < 18446744073709551616 by omega)
      generalize u % 128 + 128 = y at *
      clear ho hA1 hal h128
      go_wp2_with (at_builtin; go_loud (refine wpList_append_txt (by rfl) _ _ (by rfl) B u0 (xs ++ acc) (by rfl) HO1.out _ [(y : Int)] (by rfl) HT1.out (by simpa using h9) hBA ?_; intro ad n' c' w1 o1 b1 g1; have O1 := Lib.hid o1; have B1 := Lib.hid b1; clear o1 b1 g1))
      go_roundw
      case rel => exact ⟨_, acc ++ [(y : Int)], u / 128, rfl, by rw [Int.natCast_ediv]; rfl, HM.out.2, by rw [List.append_assoc]; exact HA.out, by rw [← List.append_assoc]; exact O1.out, HF.out.trans B1.out⟩
      case measure => have := HM.out.1; simp [intOf]; omega
/-- a number behind bytes -/
theorem putint_any {w : World} {v : Value} {xs : List Int} (h : TxtAt w v xs) (hl : xs.length ≤ 1099511627776) {n : Int} (hn : -9223372036854775808 ≤ n ∧ n ≤ 9223372036854775807) :
    Calls Tryz.prog 38 #[v, .int .i64 n] w fun e w' => ∃ u, e = .returned u ∧ OwnTxt w' w.heap.size u (xs ++ putI n) ∧ Below w.heap.size w w' := by
  have K := Lib.hid (clone_bytes h (by omega))
  clear h
  go_enter Tryz.func38, Tryz.ntmps38
  go_wp2_with fail
  refine K.out.mono ?_
  rintro e w1 ⟨u, rfl, ho, hb, _⟩
  have KL := Lib.hid (lay64_any ho hb.size hl hn)
  have HB := Lib.hid hb
  clear ho hb K
  go_wp2_with fail
  refine KL.out.mono ?_
  rintro e w2 ⟨u2, rfl, ho2, hb2⟩
  have HO2 := Lib.hid ho2
  have HB2 := Lib.hid (HB.out.trans hb2)
  clear ho2 hb2
  go_wp2
  go_ret
  exact ⟨_, rfl, HO2.out, HB2.out⟩
end Go.Proofs.YtmpknjlfabpipaaGreatDoor
namespace Go.Proofs.YtmpknjlfabpipaaGreatDoor
set_option linter.unusedVariables false
open Go.ChangeShapes Go.WideShapes Go.ChangeAt Go.RowKit
attribute [local go_sem ↓] Go.wp_at_zero Go.wp_at_succ comesTo_value_eq comesTo_skip_eq comesTo_enter_eq

theorem Cur.apart {w : World} {C : Nat} {F : Nat → Prop} {st : CS} (h : Cur w C F st) (hE : ErrAt w) : C ≠ 0 := by
  rintro rfl
  obtain ⟨_, _, _, ad, n, c, hb, _⟩ := h
  have h1 := cell_of_block (o := 0) hb rfl
  unfold ErrAt at hE
  rw [h1] at hE
  cases hE
theorem ErrAt.fr {w w' : World} {G : Nat → Prop} (h : ErrAt w) (hf : Fr G w w') (hg : ¬ G 0) : ErrAt w' := by
  unfold ErrAt at h ⊢
  have hlt := World.block_lt_of_cell? w _ h
  have := hf.block _ hlt hg
  simp only [World.cell?, this] at h ⊢
  exact h
theorem ErrAt.below {w w' : World} (h : ErrAt w) (hb : Below w.heap.size w w') : ErrAt w' := h.fr (G := fun _ => False) (Fr.of_below hb) (fun h => h)
theorem intF_bad (st : CS) : (intF st).1.bad = 0 ∨ (intF st).2 = 0 ∧ (st.bad = 0 → (intF st).1.xs = []) := by
  unfold intF
  split
  · rcases scan_bad 0 0 st.xs with h | h
    · exact .inl h
    · exact .inr ⟨h.2, fun _ => h.1⟩
  · rename_i h
    exact .inr ⟨rfl, fun h' => absurd h' h⟩
def CS.bytes (st : CS) : Prop := ∀ x ∈ st.xs, 0 ≤ x ∧ x ≤ 255
theorem Cur.bytes {w : World} {C : Nat} {F : Nat → Prop} {st : CS} (h : Cur w C F st) : st.bytes := by
  obtain ⟨_, _, _, ad, n, c, _, ht, _⟩ := h
  intro x hx
  rcases ht.form.2 with ⟨_, e⟩ | ⟨e, _⟩ | ⟨b, o, _, _, hr⟩
  · rw [e] at hx; cases hx
  · rw [e] at hx; cases hx
  · obtain ⟨k, hk, rfl⟩ := List.mem_iff_getElem.1 hx
    have h1 := hr.lo k hk
    have h2 := hr.hi k hk
    simp [List.getD, List.getElem?_eq_getElem hk] at h1 h2
    exact ⟨h1, h2⟩
theorem intF_in {st : CS} (h : st.bytes) : -9223372036854775808 ≤ (intF st).2 ∧ (intF st).2 ≤ 9223372036854775807 := by
  unfold intF
  split
  · exact scan_in st.xs 0 0 h (Nat.zero_le 9) Nat.one_pos
  · show -9223372036854775808 ≤ (0 : Int) ∧ (0 : Int) ≤ 9223372036854775807
    omega
/-- a small number that is read -/
def smallF (st : CS) (most : Int) : CS × Int := if (intF st).2 < 0 ∨ most < (intF st).2 then (failF (intF st).1 2, 0) else intF st
set_option maxRecDepth 100000 in
theorem small_cur {w : World} {C : Nat} {F : Nat → Prop} {st : CS} (h : Cur w C F st) (most : Int) :
    Calls Tryz.prog 20 #[.pointer (some ⟨C, 0, none⟩), .int .i64 most] w fun r w' => r = .returned (.int .i64 (smallF st most).2) ∧ Cur w' C F (smallF st most).1 ∧ Fr (fun j => j = C) w w' := by
  have K := Lib.hid (int_cur h)
  have hin := intF_in h.bytes
  unfold smallF
  clear h
  generalize intF st = p at *
  obtain ⟨st1, v⟩ := p
  simp only at *
  have hw : IntKind.i64.wrap v = v := IntWalk.i64_in v hin
  rcases (by omega : v < 0 ∨ ¬ v < 0 ∧ most < v ∨ ¬ v < 0 ∧ ¬ most < v) with h1 | ⟨h1, h2⟩ | ⟨h1, h2⟩
  · rw [if_pos (Or.inl h1)]
    have hd1 : decide (v < 0) = true := decide_eq_true h1
    clear hin
    go_enter Tryz.func20, Tryz.ntmps20
    go_wp2_with fail
    refine K.out.mono ?_
    rintro e w1 ⟨rfl, hc, hf⟩
    have KF := Lib.hid (fail_cur hc 2 (by decide))
    have HF := Lib.hid hf
    clear hc hf K
    go_wp2_with fail
    refine KF.out.mono ?_
    rintro e w2 ⟨rfl, hc2, hf2⟩
    have HC := Lib.hid hc2
    have HF2 := Lib.hid (HF.out.trans hf2 (fun j hj => .inl hj))
    clear hc2 hf2
    go_wp2
    go_ret
    exact ⟨rfl, HC.out, HF2.out⟩
  · rw [if_pos (Or.inr h2)]
    have hd1 : decide (v < 0) = false := decide_eq_false h1
    have hd2 : decide (v > most) = true := decide_eq_true h2
    clear hin
    go_enter Tryz.func20, Tryz.ntmps20
    go_wp2_with fail
    refine K.out.mono ?_
    rintro e w1 ⟨rfl, hc, hf⟩
    have KF := Lib.hid (fail_cur hc 2 (by decide))
    have HF := Lib.hid hf
    clear hc hf K
    go_wp2_with fail
    refine KF.out.mono ?_
    rintro e w2 ⟨rfl, hc2, hf2⟩
    have HC := Lib.hid hc2
    have HF2 := Lib.hid (HF.out.trans hf2 (fun j hj => .inl hj))
    clear hc2 hf2
    go_wp2
    go_ret
    exact ⟨rfl, HC.out, HF2.out⟩
  · rw [if_neg (by omega)]
    have hd1 : decide (v < 0) = false := decide_eq_false h1
    have hd2 : decide (v > most) = false := decide_eq_false h2
    clear hin
    go_enter Tryz.func20, Tryz.ntmps20
    go_wp2_with fail
    refine K.out.mono ?_
    rintro e w1 ⟨rfl, hc, hf⟩
    have HC := Lib.hid hc
    have HF2 := Lib.hid hf
    clear hc hf K
    go_wp2
    go_ret
    exact ⟨rfl, HC.out, HF2.out⟩
/-- what is wrong in the end -/
def endF (st : CS) : Int := if st.bad = 0 ∧ 0 < st.xs.length then 11 else st.bad
set_option maxRecDepth 100000 in
theorem end_cur {w : World} {C : Nat} {F : Nat → Prop} {st : CS} (h : Cur w C F st) (hE : ErrAt w) :
    Calls Tryz.prog 22 #[.pointer (some ⟨C, 0, none⟩)] w fun r w' => r = .returned (.int .i64 (endF st)) ∧ Below w.heap.size w w' := by
  have K := Lib.hid (bad_cur h hE)
  have H := Lib.hid h
  have HE := Lib.hid hE
  clear h hE
  unfold endF
  by_cases h0 : st.bad = 0
  · rw [h0] at K ⊢
    have hl : ∃ n : Nat, st.xs.length = n := ⟨_, rfl⟩
    obtain ⟨n, hn⟩ := hl
    have KR0 := fun (w1 : World) (hb : Below w.heap.size w w1) => rest_cur (H.out.below hb)
    rw [hn] at KR0 ⊢
    have KR := Lib.hid KR0
    clear KR0 hn
    by_cases hx : 0 < n
    · rw [if_pos ⟨rfl, hx⟩]
      have hd : decide ((n : Int) > 0) = true := decide_eq_true (by omega)
      go_enter Tryz.func22, Tryz.ntmps22
      go_wp2_with fail
      refine K.out.mono ?_
      rintro e w1 ⟨rfl, hb⟩
      have HB := Lib.hid hb
      have KR1 := Lib.hid (KR.out w1 hb)
      clear hb
      go_wp2_with fail
      refine KR1.out.mono ?_
      rintro e w2 ⟨rfl, rfl⟩
      go_wp2_with fail
      go_ret
      exact ⟨rfl, HB.out⟩
    · rw [if_neg (by omega)]
      have hd : decide ((n : Int) > 0) = false := decide_eq_false (by omega)
      obtain rfl : n = 0 := by omega
      go_enter Tryz.func22, Tryz.ntmps22
      go_wp2_with fail
      refine K.out.mono ?_
      rintro e w1 ⟨rfl, hb⟩
      have HB := Lib.hid hb
      have KR1 := Lib.hid (KR.out w1 hb)
      have KB0 := bad_cur (H.out.below hb) (HE.out.below hb)
      rw [h0] at KB0
      have KB := Lib.hid KB0
      clear hb KB0
      go_wp2_with fail
      refine KR1.out.mono ?_
      rintro e w2 ⟨rfl, rfl⟩
      go_wp2_with fail
      refine KB.out.mono ?_
      rintro e w3 ⟨rfl, hb3⟩
      have HB3 := Lib.hid (below_next HB.out hb3)
      clear hb3
      go_wp2_with fail
      go_ret
      exact ⟨rfl, HB3.out⟩
  · rw [if_neg (by omega)]
    go_enter Tryz.func22, Tryz.ntmps22
    go_wp2_with fail
    refine K.out.mono ?_
    rintro e w1 ⟨rfl, hb⟩
    have KB := Lib.hid (bad_cur (H.out.below hb) (HE.out.below hb))
    have HB := Lib.hid hb
    clear hb
    go_wp2_with fail
    refine KB.out.mono ?_
    rintro e w3 ⟨rfl, hb3⟩
    have HB3 := Lib.hid (below_next HB.out hb3)
    clear hb3
    go_wp2_with fail
    go_ret
    exact ⟨rfl, HB3.out⟩
/-- a text that is read -/
def textF (st : CS) : CS × List Int :=
  if ((smallF st 65536).1.xs.length : Int) < (smallF st 65536).2 then (failF (smallF st 65536).1 10, [])
  else (⟨(smallF st 65536).1.xs.drop (smallF st 65536).2.toNat, (smallF st 65536).1.bad⟩, (smallF st 65536).1.xs.take (smallF st 65536).2.toNat)
theorem smallF_in {st : CS} {most : Int} (hm : 0 ≤ most) : 0 ≤ (smallF st most).2 ∧ (smallF st most).2 ≤ most := by
  unfold smallF
  split
  · exact ⟨Int.le_refl _, hm⟩
  · omega
theorem smallF_bad {st : CS} {most : Int} (h : (smallF st most).1.bad ≠ 0) : (smallF st most).2 = 0 := by
  unfold smallF at *
  split
  · rfl
  · rename_i hn
    rw [if_neg hn] at h
    rcases intF_bad st with h1 | h1
    · exact absurd h1 h
    · exact h1.1
end Go.Proofs.YtmpknjlfabpipaaGreatDoor
namespace Go.Proofs.YtmpknjlfabpipaaGreatDoor
set_option linter.unusedVariables false
open Go.ChangeShapes Go.WideShapes Go.ChangeAt Go.RowKit
attribute [local go_sem ↓] Go.wp_at_zero Go.wp_at_succ comesTo_value_eq comesTo_skip_eq comesTo_enter_eq

theorem OwnL.fr {w w' : World} {B : Nat} {v : Value} {l : List Int} {G : Nat → Prop} (h : OwnL w B v l) (hf : Fr G w w') (hG : ∀ j, B ≤ j → ¬ G j) : OwnL w' B v l := by
  refine ⟨h.1, ?_⟩
  rcases h.2 with hn | ⟨g, cap, cur, hv, hB, hg, rest⟩
  · exact .inl hn
  · refine .inr ⟨g, cap, cur, hv, hB, ?_, rest⟩
    rw [hf.block g (Array.getElem?_eq_some_iff.1 hg).1 (hG g hB)]; exact hg
theorem scan_less (xs : List Int) : ∀ (i u : Nat), (scan i u xs).2.1 = 0 → (scan i u xs).1.length < xs.length := by
  induction xs with
  | nil => intro i u h; simp [scan] at h
  | cons x xs ih =>
    intro i u h
    unfold scan at h ⊢
    split
    · rename_i h1; rw [if_pos h1] at h; simp at h
    · rename_i h1
      rw [if_neg h1] at h
      split
      · rename_i h2
        rw [if_pos h2] at h
        have := ih _ _ h
        simp; omega
      · rename_i h2
        rw [if_neg h2] at h
        split
        · rename_i h3; rw [if_pos h3] at h; simp at h
        · simp
theorem intF_less {st : CS} (h : st.bad = 0) (h' : (intF st).1.bad = 0) : (intF st).1.xs.length < st.xs.length := by
  unfold intF at *
  rw [if_pos h] at *
  exact scan_less _ _ _ h'
/-- so many numbers that are read, as long as nothing is wrong -/
def readN : Nat → CS → CS × List Int
  | 0, st => (st, [])
  | k + 1, st => if st.bad = 0 then ((readN k (intF st).1).1, (intF st).2 :: (readN k (intF st).1).2) else (st, [])
def intsF (st : CS) (most : Int) : CS × List Int :=
  if (readN (smallF st most).2.toNat (smallF st most).1).1.bad = 0 then readN (smallF st most).2.toNat (smallF st most).1 else ((readN (smallF st most).2.toNat (smallF st most).1).1, [])
theorem readN_succ (k : Nat) (st : CS) : readN (k + 1) st = if st.bad = 0 then ((readN k (intF st).1).1, (intF st).2 :: (readN k (intF st).1).2) else (st, []) := rfl
theorem readN_bad {st : CS} (h : st.bad ≠ 0) (k : Nat) : readN k st = (st, []) := by
  cases k with
  | zero => rfl
  | succ k => unfold readN; rw [if_neg h]
/-! ### a cursor that is nil -/
theorem rest_nil (w : World) : Calls Tryz.prog 45 #[.pointer none] w fun r w' => r = .returned (.int .i64 0) ∧ w = w' := by
  go_enter Tryz.func45, Tryz.ntmps45
  go_wp2
  go_ret
  exact ⟨rfl, rfl⟩
theorem bad_nil (w : World) : Calls Tryz.prog 44 #[.pointer none] w fun r w' => r = .returned (.int .i64 0) ∧ Below w.heap.size w w' := by
  have hA := below_alloc (Below.refl _ w) (.cells #[.int .i64 0] 24)
  go_enter Tryz.func44, Tryz.ntmps44
  go_wp2
  go_ret
  exact ⟨rfl, hA⟩
theorem int_nil (w : World) : Calls Tryz.prog 19 #[.pointer none] w fun r w' => r = .returned (.int .i64 0) ∧ w = w' := by
  go_enter Tryz.func19, Tryz.ntmps19
  go_wp2
  go_ret
  exact ⟨rfl, rfl⟩
theorem fail_nil (e : Int) (w : World) : Calls Tryz.prog 42 #[.pointer none, .int .i64 e] w fun r w' => r = .returned (.int .i64 0) ∧ w = w' := by
  go_enter Tryz.func42, Tryz.ntmps42
  go_wp2
  go_ret
  exact ⟨rfl, rfl⟩
theorem small_nil (most : Int) (w : World) : Calls Tryz.prog 20 #[.pointer none, .int .i64 most] w fun r w' => r = .returned (.int .i64 0) ∧ w = w' := by
  have KI := Lib.hid (int_nil w)
  have KF := Lib.hid (fail_nil 2 w)
  by_cases h : most < 0
  · have hd : decide ((0 : Int) > most) = true := decide_eq_true h
    go_enter Tryz.func20, Tryz.ntmps20
    go_wp2_with fail
    refine KI.out.mono ?_
    rintro e w' ⟨rfl, rfl⟩
    go_wp2_with fail
    refine KF.out.mono ?_
    rintro e w' ⟨rfl, rfl⟩
    go_wp2
    go_ret
    exact ⟨rfl, rfl⟩
  · have hd : decide ((0 : Int) > most) = false := decide_eq_false h
    go_enter Tryz.func20, Tryz.ntmps20
    go_wp2_with fail
    refine KI.out.mono ?_
    rintro e w' ⟨rfl, rfl⟩
    go_wp2
    go_ret
    exact ⟨rfl, rfl⟩
end Go.Proofs.YtmpknjlfabpipaaGreatDoor
namespace Go.Proofs.YtmpknjlfabpipaaGreatDoor
set_option linter.unusedVariables false
open Go.ChangeShapes Go.WideShapes Go.ChangeAt Go.RowKit Go.Lib
attribute [local go_sem ↓] Go.wp_at_zero Go.wp_at_succ comesTo_value_eq comesTo_skip_eq comesTo_enter_eq

theorem strCells_bytes (s : ByteArray) : strCells s = cellsOf8 (bytesOf s) := by
  unfold strCells cellsOf8 bytesOf
  simp
theorem bytesOf_in (s : ByteArray) : ∀ x ∈ bytesOf s, 0 ≤ x ∧ x ≤ 255 := by
  intro x hx
  obtain ⟨y, _, rfl⟩ := List.mem_map.1 hx
  have := y.toNat_lt
  omega
theorem getD_in {xs : List Int} (h : ∀ x ∈ xs, 0 ≤ x ∧ x ≤ 255) (k : Nat) (hk : k < xs.length) : 0 ≤ xs.getD k 0 ∧ xs.getD k 0 ≤ 255 := by
  have := h _ (List.getElem_mem hk)
  simpa [List.getD, List.getElem?_eq_getElem hk] using this
theorem OwnTxt.mem {w : World} {B : Nat} {v : Value} {xs : List Int} (h : OwnTxt w B v xs) : ∀ x ∈ xs, 0 ≤ x ∧ x ≤ 255 := by
  intro x hx
  obtain ⟨k, hk, rfl⟩ := List.mem_iff_getElem.1 hx
  have h1 := h.lo k hk
  have h2 := h.hi k hk
  simp [List.getD, List.getElem?_eq_getElem hk] at h1 h2
  exact ⟨h1, h2⟩
theorem flat_len : ∀ (m : List Int), (∀ x ∈ m, -9223372036854775808 ≤ x ∧ x ≤ 9223372036854775807) → (m.flatMap putI).length ≤ 10 * m.length
  | [], _ => by simp
  | x :: m, hm => by
    have h1 := flat_len m fun y hy => hm y (List.mem_cons_of_mem _ hy)
    have h2 := putI_len (hm x List.mem_cons_self)
    simp only [List.flatMap_cons, List.length_append, List.length_cons]
    omega
end Go.Proofs.YtmpknjlfabpipaaGreatDoor
namespace Go.Proofs.YtmpknjlfabpipaaGreatDoor
set_option linter.unusedVariables false
open Go.ChangeShapes Go.WideShapes Go.ChangeAt Go.RowKit Go.Lib
attribute [local go_sem ↓] Go.wp_at_zero Go.wp_at_succ comesTo_value_eq comesTo_skip_eq comesTo_enter_eq

theorem put_m1 : putI (-1) = [1] := by unfold putI; rw [show foldF (-1) = 1 from by decide, putU_lt (by decide)]; rfl
theorem put_64 : putI 64 = [128, 1] := by unfold putI; rw [show foldF 64 = 128 from by decide, putU_ge (by decide), putU_lt (by decide)]; rfl
theorem one_i1 : intF ⟨[1, 128, 1], 0⟩ = (⟨[128, 1], 0⟩, -1) := by rfl
theorem one_i2 : intF ⟨[128, 1], 0⟩ = (⟨[], 0⟩, 64) := by rfl
end Go.Proofs.YtmpknjlfabpipaaGreatDoor
namespace Go.Proofs.YtmpknjlfabpipaaGreatDoor
set_option linter.unusedVariables false
open Go Go.RowKit

theorem intF_put {v : Int} (h : -9223372036854775808 ≤ v ∧ v ≤ 9223372036854775807) (ys : List Int) : intF ⟨putI v ++ ys, 0⟩ = (⟨ys, 0⟩, v) := by
  unfold intF
  rw [if_pos rfl]
  simp only [scan_putI h]
theorem smallF_put {n most : Int} (h0 : 0 ≤ n) (h1 : n ≤ most) (h2 : n ≤ 9223372036854775807) (ys : List Int) : smallF ⟨putI n ++ ys, 0⟩ most = (⟨ys, 0⟩, n) := by
  unfold smallF
  rw [intF_put (by omega)]
  rw [if_neg (by simp only; omega)]
theorem textF_put {bs : List Int} (h : bs.length ≤ 65536) (ys : List Int) : textF ⟨putTx bs ++ ys, 0⟩ = (⟨ys, 0⟩, bs) := by
  unfold textF putTx
  rw [List.append_assoc, smallF_put (by omega) (by omega) (by omega)]
  simp only
  rw [if_neg (by simp; omega)]
  simp
theorem readN_put : ∀ (l : List Int) (j : Nat) (ys : List Int), (∀ x ∈ l, -9223372036854775808 ≤ x ∧ x ≤ 9223372036854775807) → readN (l.length + j) ⟨l.flatMap putI ++ ys, 0⟩ = ((readN j ⟨ys, 0⟩).1, l ++ (readN j ⟨ys, 0⟩).2)
  | [], j, ys, _ => by simp
  | x :: l, j, ys, h => by
    rw [show (x :: l).length + j = (l.length + j) + 1 by simp; omega, readN_succ, if_pos rfl, List.flatMap_cons, List.append_assoc, intF_put (h x List.mem_cons_self)]
    simp only
    rw [readN_put l j ys fun y hy => h y (List.mem_cons_of_mem _ hy)]
    simp
theorem intsF_put {l : List Int} (hl : ∀ x ∈ l, -9223372036854775808 ≤ x ∧ x ≤ 9223372036854775807) {most : Int} (h : (l.length : Int) ≤ most) (h2 : (l.length : Int) ≤ 9223372036854775807) (ys : List Int) : intsF ⟨putL l ++ ys, 0⟩ most = (⟨ys, 0⟩, l) := by
  have h1 := smallF_put (n := (l.length : Int)) (most := most) (by omega) h h2 (l.flatMap putI ++ ys)
  have h3 := readN_put l 0 ys hl
  unfold intsF putL
  rw [List.append_assoc, h1]
  simp only [Int.toNat_natCast]
  rw [Nat.add_zero] at h3
  rw [h3]
  simp [readN]
theorem intF_cut {v : Int} (h : -9223372036854775808 ≤ v ∧ v ≤ 9223372036854775807) {k : Nat} (hk : k < (putI v).length) : intF ⟨(putI v).take k, 0⟩ = (⟨[], 10⟩, 0) := by
  unfold intF
  rw [if_pos rfl]
  have := scan_cut (foldF v) 0 0 k (by decide) (by simpa using fold_lt h) hk
  simp only [show (putI v).take k = (putU (foldF v)).take k from rfl, this]
theorem smallF_cut {v : Int} (h : -9223372036854775808 ≤ v ∧ v ≤ 9223372036854775807) {k : Nat} (hk : k < (putI v).length) (most : Int) : smallF ⟨(putI v).take k, 0⟩ most = (⟨[], 10⟩, 0) := by
  unfold smallF
  rw [intF_cut h hk]
  split <;> rfl
theorem putI_pos (v : Int) : 1 ≤ (putI v).length := putU_len _
theorem intsF_cut {l : List Int} (hl : ∀ x ∈ l, -9223372036854775808 ≤ x ∧ x ≤ 9223372036854775807) {most : Int} (h : (l.length : Int) ≤ most) (h2 : (l.length : Int) ≤ 9223372036854775807) : intsF ⟨(putL l).take ((putL l).length - 1), 0⟩ most = (⟨[], 10⟩, []) := by
  rcases List.eq_nil_or_concat l with rfl | ⟨i, x, rfl⟩
  · have e : putL [] = putI 0 := by unfold putL; simp
    rw [e]
    unfold intsF
    rw [smallF_cut (by decide) (by have := putI_pos 0; omega)]
    rfl
  · rw [List.concat_eq_append] at *
    have hx : -9223372036854775808 ≤ x ∧ x ≤ 9223372036854775807 := hl x (by simp)
    have hi : ∀ y ∈ i, -9223372036854775808 ≤ y ∧ y ≤ 9223372036854775807 := fun y hy => hl y (by simp [hy])
    have hp := putI_pos x
    have e : (putL (i ++ [x])).take ((putL (i ++ [x])).length - 1) = putI ((i ++ [x]).length : Int) ++ (i.flatMap putI ++ (putI x).take ((putI x).length - 1)) := by
      unfold putL
      rw [List.flatMap_append, show [x].flatMap putI = putI x by simp, ← List.append_assoc, ← List.append_assoc]
      generalize putI ((i ++ [x]).length : Int) ++ i.flatMap putI = A
      rw [List.take_append, List.length_append, List.take_of_length_le (by omega), show A.length + (putI x).length - 1 - A.length = (putI x).length - 1 by omega]
    have h1 := smallF_put (n := ((i ++ [x]).length : Int)) (most := most) (by omega) h h2 (i.flatMap putI ++ (putI x).take ((putI x).length - 1))
    have h3 := readN_put i 1 ((putI x).take ((putI x).length - 1)) hi
    have hc : readN 1 ⟨(putI x).take ((putI x).length - 1), 0⟩ = (⟨[], 10⟩, [0]) := by
      rw [readN_succ, if_pos rfl, intF_cut hx (by omega)]
      rfl
    rw [hc] at h3
    unfold intsF
    rw [e, h1]
    simp only [Int.toNat_natCast]
    rw [show (i ++ [x]).length = i.length + 1 by simp, h3]
    simp
theorem str_bytes (s : ByteArray) : strOfNums (bytesOf s) = s := by
  refine bytesOf_inj ?_
  have := bytesOf_in s
  exact bytesOf_str _ (fun k hk => (getD_in this k hk).1) (fun k hk => (getD_in this k hk).2)
theorem putI_mem (v : Int) : ∀ x ∈ putI v, 0 ≤ x ∧ x ≤ 255 := putU_bytes _
theorem strOf_inj {xs ys : List Int} (hx : ∀ x ∈ xs, 0 ≤ x ∧ x ≤ 255) (hy : ∀ x ∈ ys, 0 ≤ x ∧ x ≤ 255) (h : strOfNums xs = strOfNums ys) : xs = ys := by
  have h1 := bytesOf_str xs (fun k hk => (getD_in hx k hk).1) (fun k hk => (getD_in hx k hk).2)
  have h2 := bytesOf_str ys (fun k hk => (getD_in hy k hk).1) (fun k hk => (getD_in hy k hk).2)
  rw [← h1, h, h2]
end Go.Proofs.YtmpknjlfabpipaaGreatDoor
