/- Laws that the claim uses, 6 of 9: CurI, Put, OwnL, CurT, CurL, PutL, CodOne, CodQ, AppendTwo, Jh, Held. No condition of its own but what each theorem says. -/
import Derived.Test.YtgeldpfojmkdbaaDoorMe
import Derived.Deep.SlicePairs
import Derived.Laws.OwnMore
import Derived.OwnWalk
import Derived.Lib.AppendStr
import Derived.ArgAppend
import Derived.Test.YtgeldpfojmkdbaaDoorMc
import Derived.OrdersHeld
namespace Go.Proofs.YtgeldpfojmkdbaaDoor
set_option linter.unusedVariables false
open Go.ChangeShapes Go.WideShapes Go.ChangeAt Go.RowKit
attribute [local go_sem ↓] Go.wp_at_zero Go.wp_at_succ comesTo_value_eq comesTo_skip_eq comesTo_enter_eq

/-- a number that is read -/
def intF (st : CS) : CS × Int := if st.bad = 0 then (⟨(scan 0 0 st.xs).1, (scan 0 0 st.xs).2.1⟩, (scan 0 0 st.xs).2.2) else (st, 0)
theorem slice_from {b o n c k : Nat} (hk : k ≤ n) (hc : n ≤ c) (W : World) : Sem.run Tryd.prog (Instr.slice 27 (.slice (some ⟨b, o, none⟩) n c) (some (.int .i64 (k : Int))) none none) W = .ok (.slice (some ⟨b, if c = k then o else o + k, none⟩) (n - k) (c - k)) W := by
  by_cases h : c = k
  · subst h
    obtain rfl : n = c := by omega
    go_simp
  · rw [if_neg h]
    go_simp
/-- the bytes behind the first ones -/
theorem TxtAt.behind {w : World} {b o n c : Nat} {xs : List Int} (h : TxtAt w (.slice (some ⟨b, o, none⟩) n c) xs) {k : Nat} (hk : k ≤ n) (hc : n ≤ c) : TxtAt w (.slice (some ⟨b, if c = k then o else o + k, none⟩) (n - k) (c - k)) (xs.drop k) := by
  obtain ⟨hn, h | ⟨rfl, _⟩ | ⟨b', o', e, h0, hr⟩⟩ := h.form
  · cases h.1
  · exact .inr ⟨by simp, some ⟨b, if c = k then o else o + k, none⟩, c - k, by rw [show n - k = 0 by simp at hn; omega], fun h => by cases h⟩
  · cases e
    by_cases h : n = k
    · exact .inr ⟨List.drop_eq_nil_of_le (by omega), some ⟨b, if c = k then o else o + k, none⟩, c - k, by rw [show n - k = 0 by omega], fun h => by cases h⟩
    · rw [if_neg (by omega)]
      refine .inl ⟨b, o + k, _, by rw [show n - k = (xs.drop k).length by simp; omega], by simp; omega, ⟨fun j hj => ?_, fun j hj => ?_, fun j hj => ?_, ?_⟩⟩
      · have := hr.cell (k + j) (by simp at hj; omega)
        rw [show o + k + j = o + (k + j) by omega, this]
        simp [List.getD, List.getElem?_drop]
      · have := hr.lo (k + j) (by simp at hj; omega)
        simpa [List.getD, List.getElem?_drop] using this
      · have := hr.hi (k + j) (by simp at hj; omega)
        simpa [List.getD, List.getElem?_drop] using this
      · have := hr.len; simp; omega
theorem and_128 {m : Nat} (hm : m ≤ 255) : (bits BinOp.and IntKind.u8 (m : Int) 128 != 0) = decide (128 ≤ m) := by
  have h := u8_and_nat m 128 (by omega) (by decide)
  have hb : m &&& 128 = m / 128 % 2 * 128 := nat_bit 7 m
  rw [show ((128 : Nat) : Int) = 128 from rfl, hb] at h
  rw [h]
  by_cases h1 : 128 ≤ m
  · rw [decide_eq_true h1]; simp; omega
  · rw [decide_eq_false h1]; simp; omega
theorem or_lt {u m k : Nat} (hu : u < 2 ^ (7 * k)) (hk : k ≤ 9) (hm : m ≤ 255) (hA : ¬ (k = 9 ∧ 1 < m)) : u + m % 128 * 2 ^ (7 * k) < 18446744073709551616 := by
  rcases (by omega : k = 9 ∨ k ≤ 8) with rfl | h8
  · have : m % 128 * 2 ^ (7 * 9) ≤ 1 * 2 ^ (7 * 9) := Nat.mul_le_mul_right _ (by omega)
    simp at this hu
    omega
  · have h1 : m % 128 * 2 ^ (7 * k) ≤ 127 * 2 ^ (7 * k) := Nat.mul_le_mul_right _ (by omega)
    have h2 : 2 ^ (7 * k) ≤ 2 ^ 56 := Nat.pow_le_pow_right (by decide) (by omega)
    simp at h2
    omega
theorem or_step {u m k : Nat} (hu : u < 2 ^ (7 * k)) (hk : k ≤ 9) (hm : m ≤ 255) (hA : ¬ (k = 9 ∧ 1 < m)) :
    bits BinOp.or IntKind.u64 (u : Int) (IntKind.u64.wrap (IntKind.u64.wrap (bits BinOp.andNot IntKind.u8 (m : Int) 128) * 2 ^ (7 * k))) = ((u + m % 128 * 2 ^ (7 * k) : Nat) : Int) := by
  have hlt := or_lt hu hk hm hA
  have h1 : bits BinOp.andNot IntKind.u8 (m : Int) 128 = ((m % 128 : Nat) : Int) := by
    have := u8_andNot_nat m 128 (by omega) (by decide)
    rw [show 255 - 128 = 127 from rfl, nat_mask7] at this
    exact this
  have e : ((m % 128 : Nat) : Int) * 2 ^ (7 * k) = ((m % 128 * 2 ^ (7 * k) : Nat) : Int) := by simp [Int.natCast_mul, Int.natCast_pow]
  rw [h1, IntKind.wrap_u64 ((m % 128 : Nat) : Int), show ((m % 128 : Nat) : Int) % 18446744073709551616 = ((m % 128 : Nat) : Int) by omega, e, IntKind.wrap_u64, show ((m % 128 * 2 ^ (7 * k) : Nat) : Int) % 18446744073709551616 = ((m % 128 * 2 ^ (7 * k) : Nat) : Int) by omega,
    u64_or_nat _ _ (by omega) (by omega), Nat.or_comm, nat_join (7 * k) _ _ (Nat.mul_mod_left _ _) hu, Nat.add_comm]
set_option maxRecDepth 100000 in
theorem int_cur {w : World} {C : Nat} {F : Nat → Prop} {st : CS} (h : Cur w C F st) :
    Calls Tryd.prog 20 #[.pointer (some ⟨C, 0, none⟩)] w fun r w' => r = .returned (.int .i64 (intF st).2) ∧ Cur w' C F (intF st).1 ∧ Fr (fun j => j = C) w w' := by
  obtain ⟨ad, n, c, hb, ht, hc, hp⟩ := h.at_
  unfold intF
  by_cases h0 : st.bad = 0
  · rw [if_pos h0]
    rw [h0, show badV 0 = .nilIface from rfl] at hb
    have KF0 : ∀ e : Int, e ≠ 0 → Calls Tryd.prog 42 #[.pointer (some ⟨C, 0, none⟩), .int .i64 e] w fun r w' => r = .returned (.int .i64 0) ∧ Cur w' C F ⟨[], e⟩ ∧ Fr (fun j => j = C) w w' := fun e he => by
      have := fail_cur h e he
      rwa [show failF st e = ⟨[], e⟩ from if_pos h0] at this
    have KF := Lib.hid KF0
    clear KF0
    have c0 := cell_of_block (o := 0) hb rfl
    have c1 := cell_of_block (o := 1) hb rfl
    have f0 := free_of_block 0 hb
    have H := Lib.hid h
    have HB := Lib.hid hb
    have HT := Lib.hid ht
    have HP := Lib.hid hp
    have HC := Lib.hid hc
    have hn := ht.form.1
    have HN := Lib.hid hn
    have hfit := h.fits
    rw [← hn] at hfit
    have HI := Lib.hid hfit
    obtain ⟨xs, bd⟩ := st
    simp only at *
    clear ht hp h h0 hb hc hn hfit
    go_enter Tryd.func20, Tryd.ntmps20
    go_wp2_with fail
    go_loop [3, 20] (fun v i => ∃ k u : Nat, k ≤ n ∧ k ≤ 9 ∧ u < 2 ^ (7 * k) ∧ i = .int .i64 k ∧ v = .int .u64 (u : Int) ∧ scan k u (xs.drop k) = scan 0 0 xs) (fun _ i => n - (intOf i).toNat)
    case atStart => exact ⟨0, 0, Nat.zero_le _, Nat.zero_le _, by decide, rfl, rfl, rfl⟩
    case round =>
      obtain ⟨k, u, hk, hk9, hu, rfl, rfl, hsc⟩ := hrel
      have HS := Lib.hid hsc
      have HU := Lib.hid hu
      clear hsc hu
      by_cases hlt : k < n
      · have hd1 : decide ((k : Int) < (n : Int)) = true := decide_eq_true (by omega)
        obtain ⟨b, o, rfl, hr⟩ : ∃ b o, ad = some ⟨b, o, none⟩ ∧ BytesRow w b o xs := by
          have hn := HN.out
          rcases HT.out.form.2 with ⟨_, rfl⟩ | ⟨rfl, _⟩ | ⟨b, o, h1, _, h2⟩
          · simp at hn; omega
          · simp at hn; omega
          · exact ⟨b, o, h1, h2⟩
        have hcell := hr.cell k (by have := HN.out; omega)
        have hlo := hr.lo k (by have := HN.out; omega)
        have hhi := hr.hi k (by have := HN.out; omega)
        have hdr : xs.drop k = xs.getD k 0 :: xs.drop (k + 1) := by
          have hl : k < xs.length := by have := HN.out; omega
          rw [List.drop_eq_getElem_cons hl]; simp [List.getD, List.getElem?_eq_getElem hl]
        have HS2 := Lib.hid (hdr ▸ HS.out)
        clear hr hdr HS
        generalize xs.getD k 0 = x at *
        obtain ⟨m, rfl⟩ : ∃ m : Nat, x = (m : Int) := ⟨x.toNat, by omega⟩
        have hm : m ≤ 255 := by omega
        have h7w : IntKind.i64.wrap (7 * (k : Int)) = 7 * (k : Int) := IntWalk.i64_in _ (by omega)
        have h7a : 0 ≤ 7 * (k : Int) := by omega
        have h7b : 7 * (k : Int) ≤ 64 := by omega
        have HM := Lib.hid hm
        clear hlo hhi
        by_cases hA : k = 9 ∧ 1 < m
        · have hq : decide ((m : Int) > 1) = true := decide_eq_true (by omega)
          have hq9 : ((k : Int) == 9) = true := by rw [beq_iff_eq]; omega
          have he : scan 0 0 xs = ([], 11, 0) := by
            rw [← HS2.out]; unfold scan; rw [if_pos ⟨hA.1, by omega⟩]
          have HSC := Lib.hid he
          clear he hA hm
          go_wp2_with fail
          refine (KF.out 11 (by decide)).mono ?_
          rintro e w1 ⟨rfl, hc1, hf1⟩
          go_wp2
          go_ret
          rw [HSC.out]
          exact ⟨rfl, hc1, hf1⟩
        · obtain ⟨u2, hu2⟩ : ∃ u2, u2 = u + m % 128 * 2 ^ (7 * k) := ⟨_, rfl⟩
          have hor := or_step HU.out hk9 hm hA
          rw [← hu2] at hor
          have HOR := Lib.hid hor
          have h64 := or_lt HU.out hk9 hm hA
          rw [← hu2] at h64
          have hcase : ((k : Int) == 9) = true ∧ decide ((m : Int) > 1) = false ∨ ((k : Int) == 9) = false := by
            by_cases h9 : k = 9
            · exact .inl ⟨by rw [beq_iff_eq]; omega, decide_eq_false (by omega)⟩
            · exact .inr (by rw [beq_eq_false_iff_ne]; omega)
          have hna : ¬ (k = 9 ∧ 1 < (m : Int)) := by omega
          by_cases h128 : 128 ≤ m
          · have hnz : (bits BinOp.and IntKind.u8 (m : Int) 128 != 0) = true := by rw [and_128 hm]; exact decide_eq_true h128
            have hs : scan (k + 1) u2 (xs.drop (k + 1)) = scan 0 0 xs := by
              rw [← HS2.out]
              conv => rhs; unfold scan
              rw [if_neg hna, if_pos (by omega), show ((m : Int) - 128).toNat = m % 128 by omega, ← hu2]
            have hk8 : k ≤ 8 := by omega
            have hu3 : u2 < 2 ^ (7 * (k + 1)) := by
              have := HU.out
              rw [hu2, show 7 * (k + 1) = 7 + 7 * k by omega, Nat.pow_add]
              have : m % 128 * 2 ^ (7 * k) ≤ 127 * 2 ^ (7 * k) := Nat.mul_le_mul_right _ (by omega)
              omega
            have HS3 := Lib.hid hs
            have HU3 := Lib.hid hu3
            clear hs hu3 HS2 HU hu2 hna hA h128 h64 hm
            rcases hcase with ⟨q1, q2⟩ | q1
            · rw [beq_iff_eq] at q1; omega
            · go_wp2
              go_round
              case rel => exact ⟨k + 1, u2, by omega, by omega, HU3.out, by go_num, rfl, HS3.out⟩
              case measure => simp [intOf]; omega
          · have hnz : (bits BinOp.and IntKind.u8 (m : Int) 128 != 0) = false := by rw [and_128 hm]; exact decide_eq_false h128
            by_cases hz : 0 < k ∧ m = 0
            · have hkz : decide ((k : Int) > 0) = true := decide_eq_true (by omega)
              have hmz : ((m : Int) == 0) = true := by rw [beq_iff_eq]; omega
              have he : scan 0 0 xs = ([], 11, 0) := by
                rw [← HS2.out]; unfold scan; rw [if_neg hna, if_neg (by omega), if_pos (by omega)]
              have HSC := Lib.hid he
              have hk0 : 0 < k := hz.1
              clear he HS2 HU hu2 hna hA h128 h64 hz hm
              rcases hcase with ⟨q1, q2⟩ | q1 <;> (
              go_wp2_with fail
              refine (KF.out 11 (by decide)).mono ?_
              rintro e w1 ⟨rfl, hc1, hf1⟩
              go_wp2
              go_ret
              rw [HSC.out]
              exact ⟨rfl, hc1, hf1⟩)
            · have he : scan 0 0 xs = (xs.drop (k + 1), 0, unfoldF u2) := by
                rw [← HS2.out]; unfold scan; rw [if_neg hna, if_neg (by omega), if_neg (by omega), show ((m : Int)).toNat = m % 128 by omega, ← hu2]
              have HSC := Lib.hid he
              clear he
              have hz2 : (decide ((k : Int) > 0) = false ∧ ¬ 0 < k) ∨ decide ((k : Int) > 0) = true ∧ ((m : Int) == 0) = false ∧ 0 < k := by
                rcases Nat.eq_zero_or_pos k with h | h
                · exact .inl ⟨decide_eq_false (by omega), by omega⟩
                · exact .inr ⟨decide_eq_true (by omega), by rw [beq_eq_false_iff_ne]; omega, h⟩
              have KU := Lib.hid (fun W => unfold_any h64 W)
              have hdl : (xs.drop (k + 1)).length ≤ xs.length := by simp
              by_cases hck : c = k + 1
              · have hcn := HC.out
                obtain rfl : n = c := by omega
                subst hck
                have HE := Lib.hid (H.out.wrote (st' := ⟨xs.drop (k + 1), 0⟩) (w' := w.setCell ⟨C, 0, none⟩ (.slice (some ⟨b, o, none⟩) 0 0)) ((wrote_refl HB.out).set 0 (.slice (some ⟨b, o, none⟩) 0 0)) (fun h => absurd rfl h) hdl (by
                    have := HT.out.behind (k := k + 1) (Nat.le_refl _) (Nat.le_refl _)
                    rw [if_pos rfl, Nat.sub_self] at this
                    exact this) (Nat.le_refl _) (fun p e => by cases e; exact HP.out ⟨b, o, none⟩ rfl))
                clear hdl HS2 HU hu2 hna hA h128 h64 hz hm hcn
                rcases hcase with ⟨q1, q2⟩ | q1 <;> rcases hz2 with ⟨z1, z3⟩ | ⟨z1, z2, z3⟩ <;> (
                go_wp2_with fail
                refine (KU.out _).mono ?_
                rintro e w1 ⟨rfl, rfl⟩
                go_wp2
                go_ret
                rw [HSC.out]
                exact ⟨rfl, HE.out.1, HE.out.2⟩)
              · have HE := Lib.hid (H.out.wrote (st' := ⟨xs.drop (k + 1), 0⟩) (w' := w.setCell ⟨C, 0, none⟩ (.slice (some ⟨b, o + (k + 1), none⟩) (n - (k + 1)) (c - (k + 1)))) ((wrote_refl HB.out).set 0 (.slice (some ⟨b, o + (k + 1), none⟩) (n - (k + 1)) (c - (k + 1)))) (fun h => absurd rfl h) hdl (by
                    have := HT.out.behind (k := k + 1) (by omega) HC.out
                    rw [if_neg hck] at this
                    exact this) (by have := HC.out; omega) (fun p e => by cases e; exact HP.out ⟨b, o, none⟩ rfl))
                have hkc := Nat.le_trans (show k + 1 ≤ n by omega) HC.out
                clear hdl HS2 HU hu2 hna hA h128 h64 hz hm
                rcases hcase with ⟨q1, q2⟩ | q1 <;> rcases hz2 with ⟨z1, z3⟩ | ⟨z1, z2, z3⟩ <;> (
                go_wp2_with fail
                refine (KU.out _).mono ?_
                rintro e w1 ⟨rfl, rfl⟩
                go_wp2
                go_ret
                rw [HSC.out]
                exact ⟨rfl, HE.out.1, HE.out.2⟩)
      · obtain rfl : k = n := by omega
        have hd1 : decide ((k : Int) < (k : Int)) = false := decide_eq_false (by omega)
        have he : scan 0 0 xs = ([], 10, 0) := by
          rw [← HS.out, List.drop_eq_nil_of_le (by have := HN.out; omega)]
          cases k <;> rfl
        have HSC := Lib.hid he
        clear he hlt
        go_wp2_with fail
        refine (KF.out 10 (by decide)).mono ?_
        rintro e w1 ⟨rfl, hc1, hf1⟩
        go_wp2
        go_ret
        rw [HSC.out]
        exact ⟨rfl, hc1, hf1⟩
  · rw [if_neg h0]
    rw [show badV st.bad = .iface 28 (.int .i64 st.bad) from if_neg h0] at hb
    have c1 := cell_of_block (o := 1) hb rfl
    have H := Lib.hid h
    clear ht hc hp h h0 hb
    go_enter Tryd.func20, Tryd.ntmps20
    go_wp2
    go_ret
    exact ⟨rfl, H.out, Fr.refl _ _⟩
end Go.Proofs.YtgeldpfojmkdbaaDoor
namespace Go.Proofs.YtgeldpfojmkdbaaDoor
set_option linter.unusedVariables false
open Go.ChangeShapes Go.WideShapes Go.ChangeAt Go.RowKit
attribute [local go_sem ↓] Go.wp_at_zero Go.wp_at_succ comesTo_value_eq comesTo_skip_eq comesTo_enter_eq

/-- a cursor is made -/
theorem read_cur {w : World} {v : Value} {xs : List Int} (h : TxtAt w v xs) (hl : xs.length ≤ 1099511627775) :
    Calls Tryd.prog 18 #[v] w fun e w' => ∃ C, e = .returned (.pointer (some ⟨C, 0, none⟩)) ∧ Cur w' C (fun j => w.heap.size ≤ j) ⟨xs, 0⟩ ∧ Below w.heap.size w w' := by
  have K := Lib.hid (clone_bytes h (by omega))
  clear h
  go_enter Tryd.func18, Tryd.ntmps18
  go_wp2_with fail
  refine K.out.mono ?_
  rintro e w1 ⟨u, rfl, ho, hb, _⟩
  have HO := Lib.hid ho
  have HB := Lib.hid hb
  clear ho hb K
  rcases HO.out.form with ⟨rfl, rfl⟩ | ⟨g, c, rfl, hn, hc⟩
  · go_wp2
    go_ret
    have hA := below_alloc (Below.refl _ w1) (.cells #[.slice none 0 0, .nilIface] 78)
    exact ⟨w1.heap.size, rfl, ⟨HB.out.size, fun h => absurd rfl h, hl, none, 0, 0, World.alloc_heap_new w1 _, .inr ⟨rfl, none, 0, rfl, fun _ => rfl⟩, Nat.le_refl _, fun p hp => by cases hp⟩, HB.out.trans (hA.mono HB.out.size)⟩
  · have HC := Lib.hid hn
    have HL := Lib.hid hl
    clear hn hc hl
    go_wp2
    go_ret
    have hA := below_alloc (Below.refl _ w1) (.cells #[.slice (some ⟨g, 0, none⟩) xs.length c, .nilIface] 78)
    refine ⟨w1.heap.size, rfl, ⟨HB.out.size, fun h => absurd rfl h, HL.out, some ⟨g, 0, none⟩, xs.length, c, World.alloc_heap_new w1 _, HO.out.at.below hA, HC.out, fun p hp => ?_⟩, HB.out.trans (hA.mono HB.out.size)⟩
    cases hp
    have h1 := ownBlock_lt HO.out (g := g) rfl
    have h2 := HO.out.blockGe (g := g) rfl
    exact ⟨by show g ≠ w1.heap.size; omega, h2, Nat.lt_of_lt_of_le h1 hA.size⟩
theorem or_128 : ∀ x : Nat, x < 256 → x ||| 128 = x % 128 + 128 := by decide +kernel
theorem or_more (u : Nat) : bits BinOp.or IntKind.u8 ((u : Int) % 256) 128 = ((u % 128 + 128 : Nat) : Int) := by
  have h := u8_or_nat (u % 256) 128 (by omega) (by decide)
  rw [or_128 _ (by omega), show u % 256 % 128 = u % 128 by omega] at h
  rw [show (u : Int) % 256 = ((u % 256 : Nat) : Int) by omega]
  exact h
theorem byte_txt {w : World} {b : Nat} {x : Int} {T : TypeId} (hb : w.heap[b]? = some (.cells #[.int .u8 x] T (0, 0))) (h : 0 ≤ x ∧ x ≤ 255) : TxtAt w (.slice (some ⟨b, 0, none⟩) 1 1) [x] := by
  refine .inl ⟨b, 0, 1, rfl, by simp, ⟨fun k hk => ?_, fun k hk => ?_, fun k hk => ?_, by simp⟩⟩ <;> (obtain rfl : k = 0 := by simpa using hk)
  · exact cell_of_block hb rfl
  · exact h.1
  · exact h.2
set_option maxRecDepth 100000 in
theorem lay64_any {w : World} {B : Nat} {v : Value} {xs : List Int} (h : OwnTxt w B v xs) (hB : B ≤ w.heap.size) (hl : xs.length ≤ 1099511627776) {n : Int} (hn : -9223372036854775808 ≤ n ∧ n ≤ 9223372036854775807) :
    Calls Tryd.prog 50 #[v, .int .i64 n] w fun e w' => ∃ u, e = .returned u ∧ OwnTxt w' B u (xs ++ putI n) ∧ Below B w w' := by
  have K := Lib.hid (fold_any hn w)
  have h64 := fold_lt hn
  have hlen := putI_len hn
  have HO := Lib.hid h
  clear h
  unfold putI at *
  generalize foldF n = u0 at *
  go_enter Tryd.func50, Tryd.ntmps50
  go_wp2_with fail
  refine K.out.mono ?_
  rintro e w' ⟨rfl, rfl⟩
  have HL := Lib.hid hlen
  clear hlen
  go_wp2_with fail
  go_loopw [0, 5] (fun b r wr => ∃ (v' : Value) (acc : List Int) (u : Nat), b = v' ∧ r = .int .u64 (u : Int) ∧ u < 18446744073709551616 ∧ acc ++ putU u = putU u0 ∧ OwnTxt wr B v' (xs ++ acc) ∧ Below B w wr) (fun _ r _ => (intOf r).toNat)
  case atStart => exact ⟨v, [], u0, rfl, rfl, h64, rfl, by rw [List.append_nil]; exact HO.out, Below.refl _ _⟩
  case round =>
    clear HO
    obtain ⟨v', acc, u, rfl, rfl, hu, hacc, ho, hb⟩ := hrel
    have HA := Lib.hid hacc
    have HB := Lib.hid hb
    have hal : acc.length + (putU u).length ≤ 10 := by
      have := HL.out
      rw [← hacc, List.length_append] at this
      exact this
    clear hacc hb
    by_cases h128 : u < 128
    · have hq : decide ((u : Int) ≥ 128) = false := decide_eq_false (by omega)
      have hw : IntKind.u8.wrap (u : Int) = (u : Int) := by rw [IntKind.wrap_u8']; omega
      have hA1 := below_alloc (Below.refl _ wr) (.cells #[.int .u8 (u : Int)] 5)
      have HO1 := Lib.hid (ho.below hA1)
      have HT1 := Lib.hid (byte_txt (World.alloc_heap_new wr (.cells #[.int .u8 (u : Int)] 5)) (by omega))
      have HA1 := Lib.hid hA1
      rw [putU_lt h128] at HA
      have h9 : (xs ++ acc).length + 1 ≤ 140737488355328 := by
        have := putU_len u
        simp; omega
      have hBA : B ≤ (wr.alloc (.cells #[.int .u8 (u : Int)] 5)).heap.size := Nat.le_trans hB (Nat.le_trans HB.out.size HA1.out.size)
      have HF := Lib.hid (HB.out.trans (HA1.out.mono (Nat.le_trans hB HB.out.size)))
      clear ho hA1 hal h128
      go_wp2_with (at_builtin; go_loud (refine wpList_append_txt (by rfl) _ _ (by rfl) B u0 (xs ++ acc) (by rfl) HO1.out _ [(u : Int)] (by rfl) HT1.out (by simpa using h9) hBA ?_; intro ad n' c' w1 o1 b1 g1; have O1 := Lib.hid o1; have B1 := Lib.hid b1; clear o1 b1 g1))
      go_ret
      refine ⟨_, rfl, ?_, HF.out.trans B1.out⟩
      rw [← HA.out, ← List.append_assoc]
      exact O1.out
    · have hq : decide ((u : Int) ≥ 128) = true := decide_eq_true (by omega)
      have hor := or_more u
      have hA1 := below_alloc (Below.refl _ wr) (.cells #[.int .u8 ((u % 128 + 128 : Nat) : Int)] 5)
      have HO1 := Lib.hid (ho.below hA1)
      have HT1 := Lib.hid (byte_txt (World.alloc_heap_new wr (.cells #[.int .u8 ((u % 128 + 128 : Nat) : Int)] 5)) (by omega))
      have HA1 := Lib.hid hA1
      rw [putU_ge h128] at HA
      have h9 : (xs ++ acc).length + 1 ≤ 140737488355328 := by simp; omega
      have hBA : B ≤ (wr.alloc (.cells #[.int .u8 ((u % 128 + 128 : Nat) : Int)] 5)).heap.size := Nat.le_trans hB (Nat.le_trans HB.out.size HA1.out.size)
      have HF := Lib.hid (HB.out.trans (HA1.out.mono (Nat.le_trans hB HB.out.size)))
      have HM := Lib.hid (show u / 128 < u ∧ u / 128 < 18446744073709551616 by omega)
      generalize u % 128 + 128 = y at *
      clear ho hA1 hal h128
      go_wp2_with (at_builtin; go_loud (refine wpList_append_txt (by rfl) _ _ (by rfl) B u0 (xs ++ acc) (by rfl) HO1.out _ [(y : Int)] (by rfl) HT1.out (by simpa using h9) hBA ?_; intro ad n' c' w1 o1 b1 g1; have O1 := Lib.hid o1; have B1 := Lib.hid b1; clear o1 b1 g1))
      go_roundw
      case rel => exact ⟨_, acc ++ [(y : Int)], u / 128, rfl, by rw [Int.natCast_ediv]; rfl, HM.out.2, by rw [List.append_assoc]; exact HA.out, by rw [← List.append_assoc]; exact O1.out, HF.out.trans B1.out⟩
      case measure => have := HM.out.1; simp [intOf]; omega
/-- a number behind bytes -/
theorem putint_any {w : World} {v : Value} {xs : List Int} (h : TxtAt w v xs) (hl : xs.length ≤ 1099511627776) {n : Int} (hn : -9223372036854775808 ≤ n ∧ n ≤ 9223372036854775807) :
    Calls Tryd.prog 27 #[v, .int .i64 n] w fun e w' => ∃ u, e = .returned u ∧ OwnTxt w' w.heap.size u (xs ++ putI n) ∧ Below w.heap.size w w' := by
  have K := Lib.hid (clone_bytes h (by omega))
  clear h
  go_enter Tryd.func27, Tryd.ntmps27
  go_wp2_with fail
  refine K.out.mono ?_
  rintro e w1 ⟨u, rfl, ho, hb, _⟩
  have KL := Lib.hid (lay64_any ho hb.size hl hn)
  have HB := Lib.hid hb
  clear ho hb K
  go_wp2_with fail
  refine KL.out.mono ?_
  rintro e w2 ⟨u2, rfl, ho2, hb2⟩
  have HO2 := Lib.hid ho2
  have HB2 := Lib.hid (HB.out.trans hb2)
  clear ho2 hb2
  go_wp2
  go_ret
  exact ⟨_, rfl, HO2.out, HB2.out⟩
end Go.Proofs.YtgeldpfojmkdbaaDoor
namespace Go.Proofs.YtgeldpfojmkdbaaDoor
set_option linter.unusedVariables false
open Go.ChangeShapes Go.WideShapes Go.ChangeAt Go.RowKit

theorem infoI64 : (Tryd.prog.info? 2).map (fun i => (i.zero, i.size, i.bytes)) = some (some (.int .i64 0), 1, 8) := by kernel_rfl
/-- a row of int64s of the call's own, from block B on -/
def OwnL (w : World) (B : Nat) (v : Value) (l : List Int) : Prop := w.ownsRow B 2 1 v l.length (l.map (Value.int .i64))
theorem OwnL.below {w w' : World} {B : Nat} {v : Value} {l : List Int} (h : OwnL w B v l) (hb : Below w.heap.size w w') : OwnL w' B v l := by
  refine ⟨h.1, ?_⟩
  rcases h.2 with hn | ⟨g, cap, cur, hv, hB, hg, rest⟩
  · exact .inl hn
  · refine .inr ⟨g, cap, cur, hv, hB, ?_, rest⟩
    rw [hb.block g (Array.getElem?_eq_some_iff.1 hg).1]; exact hg
theorem OwnL.nil {w : World} {B : Nat} : OwnL w B (.slice none 0 0) [] := ⟨rfl, .inl ⟨rfl, rfl⟩⟩
theorem OwnL.mono {w : World} {B B' : Nat} {v : Value} {l : List Int} (h : OwnL w B v l) (hb : B' ≤ B) : OwnL w B' v l := by
  refine ⟨h.1, ?_⟩
  rcases h.2 with hn | ⟨g, cap, cur, hv, hB, rest⟩
  · exact .inl hn
  · exact .inr ⟨g, cap, cur, hv, by omega, rest⟩
/-- a row of int64s that may be read -/
def ReadsL (w : World) (v : Value) (l : List Int) : Prop :=
  (l = [] ∧ ∃ a c, v = .slice a 0 c) ∨ (0 < l.length ∧ l.length ≤ 9223372036854775807 ∧ ∃ g o c, v = .slice (some ⟨g, o, none⟩) l.length c ∧ l.length ≤ c ∧ ∀ k, k < l.length → w.cell? ⟨g, o + k, none⟩ = some (.int .i64 (l.getD k 0)))
theorem ReadsL.below {w w' : World} {v : Value} {l : List Int} (h : ReadsL w v l) (hb : Below w.heap.size w w') : ReadsL w' v l := by
  rcases h with h | ⟨h0, h1, g, o, c, hv, hcap, hc⟩
  · exact .inl h
  · exact .inr ⟨h0, h1, g, o, c, hv, hcap, fun k hk => (hb.cell (p := ⟨g, o + k, none⟩) (World.block_lt_of_cell? w _ (hc k hk))).trans (hc k hk)⟩
theorem OwnL.ints {w : World} {B : Nat} {v : Value} {l : List Int} (h : OwnL w B v l) : ReadsL w v l := by
  rcases h.2 with ⟨hv, h0⟩ | ⟨g, cap, cur, rfl, hB, hg, hn, hm, hz, ht⟩
  · exact .inl ⟨List.length_eq_zero_iff.1 h0, none, 0, hv⟩
  · by_cases hl : l = []
    · subst hl; exact .inl ⟨rfl, _, _, rfl⟩
    · have hpos : 0 < l.length := by cases l with | nil => exact absurd rfl hl | cons _ _ => simp
      refine .inr ⟨hpos, by unfold maxLen at hm; omega, g, 0, cap, rfl, hn, fun k hk => ?_⟩
      have := h.cells (g := g) rfl k (.int .i64 (l.getD k 0)) (by simp [List.getD, List.getElem?_eq_getElem hk])
      have hadd : (⟨g, 0, none⟩ : Addr).add k = ⟨g, k, none⟩ := by unfold Addr.add; split <;> simp_all
      rw [hadd] at this
      rw [Nat.zero_add]; exact this
section
variable {ops : Array Oper} {rest : List Oper} {o : Oper} {a : Act} {w : World} {Q : Exit → Act → World → Prop}
/-- APPEND of one int -/
theorem wpList_append_intL (T : TypeId) (hT : Tryd.prog.underlying T = some (.slice 2)) (hgd : o.guard = none) (s x : Operand)
    (ho : o.op = .call { callee := .builtin .append, args := #[s, x], argTypes := #[T, T] })
    (B : Nat) (v : Value) (l : List Int) (hs : a.eval s = v) (hown : OwnL w B v l) (g c : Nat) (n : Int) (hx : a.eval x = .slice (some ⟨g, 0, none⟩) 1 c)
    (c0 : w.cell? ⟨g, 0, none⟩ = some (.int .i64 n)) (h63 : l.length + 1 ≤ 1099511627776) (hB : B ≤ w.heap.size)
    (h : ∀ (v' : Value) (w' : World), OwnL w' B v' (l ++ [n]) → Below B w w' → wpList Tryd.prog ops Q rest (a.put o.dst v') w') : wpList Tryd.prog ops Q (o :: rest) a w := by
  obtain ⟨i0, hi, hz0, hz1, hz2⟩ := info_parts infoI64
  have hblk : ∀ k, v.ownBlock = some k → B ≤ k := fun k hk => by
    rcases hown.2 with ⟨rfl, _⟩ | ⟨g, cap, cur, rfl, hg, _⟩
    · cases hk
    · simp only [Value.ownBlock, Option.some.injEq] at hk; omega
  refine wpList_append_own _ hgd s x T ho B 2 i0 (.int .i64 0) 1 8 hT hi hz0 hz1 hz2 rfl (by decide) v l.length (l.map (Value.int .i64)) hs hown
      ⟨g, 0, none⟩ 1 c [.int .i64 n] hx rfl (fun j u hj => ?_) (fun u hu => ?_) (by unfold maxLen; omega) (by omega) hB (fun v' w' h1 h2 _ => ?_)
  · match j, hj with
    | 0, hj => simp at hj; subst hj; simpa [Addr.add] using c0
    | j + 1, hj => simp at hj
  · simp at hu
    subst hu; rfl
  · exact h v' w' (by unfold OwnL; rw [List.length_append, List.map_append]; exact h1) (Below.grown (Below.refl _ _) h2 hB hblk)
theorem append_typesL (T T2 ty : TypeId) (hT : Tryd.prog.underlying T = some (.slice 2)) (hT2 : Tryd.prog.underlying T2 = some (.slice 2)) (args : Array Value) :
    (Builtin.append_ #[T, T2] ty args).run Tryd.prog w = (Builtin.append_ #[T, T] ty args).run Tryd.prog w := by
  unfold Builtin.append_
  simp only [List.getElem?_toArray, List.getElem?_cons_zero, List.getElem?_cons_succ]
  cases h0 : args[0]? with
  | none => rfl
  | some s =>
    cases h1 : args[1]? with
    | none => rfl
    | some x => cases s <;> simp only [Sem.run_bind, run_underlying hT, run_underlying hT2, Result.andThen_ok, Sem.run_pure]
theorem append_nilL (T ty : TypeId) (hT : Tryd.prog.underlying T = some (.slice 2)) (i : TypeInfo) (hi : Tryd.prog.info? 2 = some i) (v : Value) (n B : Nat) (xs : List Value) (hown : w.ownsRow B 2 1 v n xs) (c : Nat) :
    (Builtin.append_ #[T, T] ty #[v, .slice none 0 c]).run Tryd.prog w = .ok v w := by
  rcases hown.2 with ⟨rfl, rfl⟩ | ⟨g, cap, cur, rfl, _, _, hnc, _⟩
  · simp [Builtin.append_, run_underlying hT, sizeOf, typeInfo, hi, Builtin.lenOf, Builtin.firstCells]
  · simp [Builtin.append_, run_underlying hT, sizeOf, typeInfo, hi, Builtin.lenOf, Builtin.firstCells, hnc, storeCells]
/-- what an append of a row that may be read comes to -/
theorem run_append_readL (T T2 ty : TypeId) (hT : Tryd.prog.underlying T = some (.slice 2)) (hT2 : Tryd.prog.underlying T2 = some (.slice 2)) (B : Nat) (v : Value) (l : List Int) (hown : OwnL w B v l) (vx : Value) (l2 : List Int) (hr : ReadsL w vx l2)
    (h63 : l.length + l2.length ≤ 1099511627776) (hB : B ≤ w.heap.size) :
    ∃ v' w', (Builtin.append_ #[T, T2] ty #[v, vx]).run Tryd.prog w = .ok v' w' ∧ OwnL w' B v' (l ++ l2) ∧ Below B w w' := by
  obtain ⟨i0, hi, hz0, hz1, hz2⟩ := info_parts infoI64
  have hblk : ∀ k, v.ownBlock = some k → B ≤ k := fun k hk => by
    rcases hown.2 with ⟨rfl, _⟩ | ⟨g, cap, cur, rfl, hg, _⟩
    · cases hk
    · simp only [Value.ownBlock, Option.some.injEq] at hk; omega
  have key : ∀ (ad : Addr) (c : Nat), vx = .slice (some ad) l2.length c → (∀ j u, (l2.map (Value.int .i64))[j]? = some u → w.cell? (ad.add j) = some u) →
      ∃ v' w', (Builtin.append_ #[T, T2] ty #[v, vx]).run Tryd.prog w = .ok v' w' ∧ OwnL w' B v' (l ++ l2) ∧ Below B w w' := by
    rintro ad c rfl hc
    rw [append_typesL T T2 ty hT hT2]
    obtain ⟨v', w', h0, h1, h2, _⟩ := run_append_own (P := Tryd.prog) w B T ty 2 i0 (.int .i64 0) 1 8 hT hi hz0 hz1 hz2 rfl (by decide) v l.length (l.map (Value.int .i64)) hown
      ad l2.length c (l2.map (Value.int .i64)) (by simp) hc (fun u hu => by obtain ⟨y, _, rfl⟩ := List.mem_map.1 hu; rfl) (by unfold maxLen; omega) (by omega) hB
    exact ⟨v', w', h0, by unfold OwnL; rw [List.length_append, List.map_append]; exact h1, Below.grown (Below.refl _ _) h2 hB hblk⟩
  rcases hr with ⟨rfl, a, c, rfl⟩ | ⟨h0, h1, g, o, c, rfl, _, hc⟩
  · cases a with
    | none =>
      refine ⟨v, w, ?_, by rw [List.append_nil]; exact hown, Below.refl _ _⟩
      rw [append_typesL T T2 ty hT hT2]
      exact append_nilL T ty hT i0 hi v l.length B _ hown c
    | some ad => exact key ad c rfl (fun j u hj => by simp at hj)
  · refine key ⟨g, o, none⟩ c rfl (fun j u hj => ?_)
    rw [List.getElem?_map] at hj
    cases hj2 : l2[j]? with
    | none => rw [hj2] at hj; cases hj
    | some y =>
      rw [hj2] at hj; cases hj
      obtain ⟨hlt, _⟩ := List.getElem?_eq_some_iff.1 hj2
      have hadd : (⟨g, o, none⟩ : Addr).add j = ⟨g, o + j, none⟩ := by unfold Addr.add; split <;> simp_all
      rw [hadd, hc j hlt]
      simp [List.getD, hj2]
/-- APPEND of a row of int64s that may be read -/
theorem wpList_append_readL (T T2 : TypeId) (hT : Tryd.prog.underlying T = some (.slice 2)) (hT2 : Tryd.prog.underlying T2 = some (.slice 2)) (hgd : o.guard = none) (s x : Operand)
    (ho : o.op = .call { callee := .builtin .append, args := #[s, x], argTypes := #[T, T2] })
    (B : Nat) (v : Value) (l : List Int) (hs : a.eval s = v) (hown : OwnL w B v l) (vx : Value) (l2 : List Int) (hx : a.eval x = vx) (hr : ReadsL w vx l2) (h63 : l.length + l2.length ≤ 1099511627776) (hB : B ≤ w.heap.size)
    (h : ∀ (v' : Value) (w' : World), OwnL w' B v' (l ++ l2) → Below B w w' → wpList Tryd.prog ops Q rest (a.put o.dst v') w') : wpList Tryd.prog ops Q (o :: rest) a w := by
  obtain ⟨v', w', hrun, h1, h2⟩ := run_append_readL (w := w) T T2 o.type hT hT2 B v l hown vx l2 hr h63 hB
  refine wpList_plain hgd fun K hK => ?_
  unfold Oper.wp execOp
  simp only [ho, resolve, invoke, builtin, Sem.run_bind, Sem.run_pure, Result.andThen_ok, List.map_toArray, List.map_cons, List.map_nil, hs, hx, hrun]
  exact hK _ _ (h v' w' h1 h2)
end
theorem OwnL.form {w : World} {B : Nat} {v : Value} {l : List Int} (h : OwnL w B v l) : ∃ a c, v = .slice a l.length c := by
  rcases h.2 with ⟨hv, h0⟩ | ⟨g, cap, cur, hv, _⟩
  · exact ⟨none, 0, by rw [hv, h0]⟩
  · exact ⟨_, cap, hv⟩
/-- a row that was just made, empty -/
theorem OwnL.made (w : World) : OwnL (w.alloc (.cells #[] 2)) w.heap.size (.slice (some ⟨w.heap.size, 0, none⟩) 0 0) [] :=
  ⟨rfl, .inr ⟨w.heap.size, 0, #[], rfl, Nat.le_refl _, World.alloc_heap_new w _, Nat.le_refl _, Nat.zero_le _, rfl, rfl⟩⟩
/-- ints that came in -/
theorem readsL_open {H : Type} {enc : TypeId × Value → H} {W : World} {a : Option Addr} {len cap : Nat} {d : DataW H} {p : List MemPlace}
    (h : DataW.Trod enc Tryd.prog W 0 (fun _ => true) true 62 (.slice a len cap) d p) : ∃ zs : List Int, ReadsL W (.slice a len cap) zs ∧ zs.length = len ∧ len ≤ cap ∧ ∀ x ∈ zs, -9223372036854775808 ≤ x ∧ x ≤ 9223372036854775807 := by
  obtain ⟨fuel, hf⟩ := h
  rcases open_ints Tryd.underlying62 Tryd.underlying2 (by kernel_rfl) hf with ⟨hcs, _⟩ | ⟨x, l, c, zs, hcs, _, hl, hm, hz, hd, hcell, hwz⟩
  · simp [Value.cells] at hcs
    obtain ⟨rfl, rfl, rfl⟩ := hcs
    exact ⟨[], .inl ⟨rfl, _, _, rfl⟩, rfl, Nat.le_refl _, fun x hx => by cases hx⟩
  · simp [Value.cells] at hcs
    obtain ⟨rfl, rfl, rfl⟩ := hcs
    have hz' : zs.length = cap := by simpa using hz
    have htl : (zs.take len).length = len := by simp; omega
    by_cases h0 : len = 0
    · subst h0
      exact ⟨[], .inl ⟨rfl, _, _, rfl⟩, rfl, Nat.zero_le _, fun x hx => by cases hx⟩
    · obtain ⟨b, off, spot⟩ := x
      have hc := hcell 0 (by omega)
      have hspot : spot = none := by simpa [Addr.add] using World.cell?_spot hc
      subst hspot
      refine ⟨zs.take len, .inr ⟨by omega, by rw [htl]; unfold maxLen at hm; omega, b, off, cap, by rw [htl], by omega, fun k hk => ?_⟩, htl, by omega, fun x hx => by
        have := hwz x (List.mem_of_mem_take hx)
        simpa [Lit.wf, IntKind.min, IntKind.max, IntKind.signed, IntKind.bits] using this⟩
      rw [htl] at hk
      have hg : (zs.take len).getD k 0 = zs.getD k 0 := by simp [List.getD, List.getElem?_take, hk]
      have hplain : (⟨b, off, none⟩ : Addr).add k = ⟨b, off + k, none⟩ := by unfold Addr.add; split <;> simp_all
      rw [hg, ← hplain]
      exact hcell k (by omega)
/-- so many of the first -/
theorem ReadsL.take {w : World} {a : Option Addr} {len c : Nat} {l : List Int} (h : ReadsL w (.slice a len c) l) (hl : l.length = len) {n : Nat} (hn : n ≤ len) (c' : Nat) (hc' : n ≤ c') : ReadsL w (.slice a n c') (l.take n) := by
  by_cases h0 : n = 0
  · subst h0; exact .inl ⟨rfl, _, _, rfl⟩
  · rcases h with ⟨rfl, _⟩ | ⟨h1, h2, g, o, c2, hv, _, hc⟩
    · simp at hl; omega
    · cases hv
      have ht : (l.take n).length = n := by rw [List.length_take]; omega
      refine .inr ⟨by omega, by omega, g, o, c', by rw [ht], by omega, fun k hk => ?_⟩
      rw [ht] at hk
      rw [hc k (by omega)]
      simp [List.getD, List.getElem?_take_of_lt hk]
/-- a call made a row of int64s of its own -/
def GivesL (w : World) (l : List Int) (e : Ending) (w' : World) : Prop := ∃ v, e = .returned v ∧ OwnL w' w.heap.size v l ∧ Below w.heap.size w w'
end Go.Proofs.YtgeldpfojmkdbaaDoor
namespace Go.Proofs.YtgeldpfojmkdbaaDoor
set_option linter.unusedVariables false
open Go.ChangeShapes Go.WideShapes Go.ChangeAt Go.RowKit
attribute [local go_sem ↓] Go.wp_at_zero Go.wp_at_succ comesTo_value_eq comesTo_skip_eq comesTo_enter_eq

theorem Cur.apart {w : World} {C : Nat} {F : Nat → Prop} {st : CS} (h : Cur w C F st) (hE : ErrAt w) : C ≠ 0 := by
  rintro rfl
  obtain ⟨_, _, _, ad, n, c, hb, _⟩ := h
  have h1 := cell_of_block (o := 0) hb rfl
  unfold ErrAt at hE
  rw [h1] at hE
  cases hE
theorem ErrAt.fr {w w' : World} {G : Nat → Prop} (h : ErrAt w) (hf : Fr G w w') (hg : ¬ G 0) : ErrAt w' := by
  unfold ErrAt at h ⊢
  have hlt := World.block_lt_of_cell? w _ h
  have := hf.block _ hlt hg
  simp only [World.cell?, this] at h ⊢
  exact h
theorem ErrAt.below {w w' : World} (h : ErrAt w) (hb : Below w.heap.size w w') : ErrAt w' := h.fr (G := fun _ => False) (Fr.of_below hb) (fun h => h)
theorem intF_bad (st : CS) : (intF st).1.bad = 0 ∨ (intF st).2 = 0 ∧ (st.bad = 0 → (intF st).1.xs = []) := by
  unfold intF
  split
  · rcases scan_bad 0 0 st.xs with h | h
    · exact .inl h
    · exact .inr ⟨h.2, fun _ => h.1⟩
  · rename_i h
    exact .inr ⟨rfl, fun h' => absurd h' h⟩
def CS.bytes (st : CS) : Prop := ∀ x ∈ st.xs, 0 ≤ x ∧ x ≤ 255
theorem Cur.bytes {w : World} {C : Nat} {F : Nat → Prop} {st : CS} (h : Cur w C F st) : st.bytes := by
  obtain ⟨_, _, _, ad, n, c, _, ht, _⟩ := h
  intro x hx
  rcases ht.form.2 with ⟨_, e⟩ | ⟨e, _⟩ | ⟨b, o, _, _, hr⟩
  · rw [e] at hx; cases hx
  · rw [e] at hx; cases hx
  · obtain ⟨k, hk, rfl⟩ := List.mem_iff_getElem.1 hx
    have h1 := hr.lo k hk
    have h2 := hr.hi k hk
    simp [List.getD, List.getElem?_eq_getElem hk] at h1 h2
    exact ⟨h1, h2⟩
theorem intF_in {st : CS} (h : st.bytes) : -9223372036854775808 ≤ (intF st).2 ∧ (intF st).2 ≤ 9223372036854775807 := by
  unfold intF
  split
  · exact scan_in st.xs 0 0 h (Nat.zero_le 9) Nat.one_pos
  · show -9223372036854775808 ≤ (0 : Int) ∧ (0 : Int) ≤ 9223372036854775807
    omega
/-- a small number that is read -/
def smallF (st : CS) (most : Int) : CS × Int := if (intF st).2 < 0 ∨ most < (intF st).2 then (failF (intF st).1 2, 0) else intF st
set_option maxRecDepth 100000 in
theorem small_cur {w : World} {C : Nat} {F : Nat → Prop} {st : CS} (h : Cur w C F st) (most : Int) :
    Calls Tryd.prog 22 #[.pointer (some ⟨C, 0, none⟩), .int .i64 most] w fun r w' => r = .returned (.int .i64 (smallF st most).2) ∧ Cur w' C F (smallF st most).1 ∧ Fr (fun j => j = C) w w' := by
  have K := Lib.hid (int_cur h)
  have hin := intF_in h.bytes
  unfold smallF
  clear h
  generalize intF st = p at *
  obtain ⟨st1, v⟩ := p
  simp only at *
  have hw : IntKind.i64.wrap v = v := IntWalk.i64_in v hin
  rcases (by omega : v < 0 ∨ ¬ v < 0 ∧ most < v ∨ ¬ v < 0 ∧ ¬ most < v) with h1 | ⟨h1, h2⟩ | ⟨h1, h2⟩
  · rw [if_pos (Or.inl h1)]
    have hd1 : decide (v < 0) = true := decide_eq_true h1
    clear hin
    go_enter Tryd.func22, Tryd.ntmps22
    go_wp2_with fail
    refine K.out.mono ?_
    rintro e w1 ⟨rfl, hc, hf⟩
    have KF := Lib.hid (fail_cur hc 2 (by decide))
    have HF := Lib.hid hf
    clear hc hf K
    go_wp2_with fail
    refine KF.out.mono ?_
    rintro e w2 ⟨rfl, hc2, hf2⟩
    have HC := Lib.hid hc2
    have HF2 := Lib.hid (HF.out.trans hf2 (fun j hj => .inl hj))
    clear hc2 hf2
    go_wp2
    go_ret
    exact ⟨rfl, HC.out, HF2.out⟩
  · rw [if_pos (Or.inr h2)]
    have hd1 : decide (v < 0) = false := decide_eq_false h1
    have hd2 : decide (v > most) = true := decide_eq_true h2
    clear hin
    go_enter Tryd.func22, Tryd.ntmps22
    go_wp2_with fail
    refine K.out.mono ?_
    rintro e w1 ⟨rfl, hc, hf⟩
    have KF := Lib.hid (fail_cur hc 2 (by decide))
    have HF := Lib.hid hf
    clear hc hf K
    go_wp2_with fail
    refine KF.out.mono ?_
    rintro e w2 ⟨rfl, hc2, hf2⟩
    have HC := Lib.hid hc2
    have HF2 := Lib.hid (HF.out.trans hf2 (fun j hj => .inl hj))
    clear hc2 hf2
    go_wp2
    go_ret
    exact ⟨rfl, HC.out, HF2.out⟩
  · rw [if_neg (by omega)]
    have hd1 : decide (v < 0) = false := decide_eq_false h1
    have hd2 : decide (v > most) = false := decide_eq_false h2
    clear hin
    go_enter Tryd.func22, Tryd.ntmps22
    go_wp2_with fail
    refine K.out.mono ?_
    rintro e w1 ⟨rfl, hc, hf⟩
    have HC := Lib.hid hc
    have HF2 := Lib.hid hf
    clear hc hf K
    go_wp2
    go_ret
    exact ⟨rfl, HC.out, HF2.out⟩
/-- what is wrong in the end -/
def endF (st : CS) : Int := if st.bad = 0 ∧ 0 < st.xs.length then 11 else st.bad
/-- a text that is read -/
def textF (st : CS) : CS × List Int :=
  if ((smallF st 65536).1.xs.length : Int) < (smallF st 65536).2 then (failF (smallF st 65536).1 10, [])
  else (⟨(smallF st 65536).1.xs.drop (smallF st 65536).2.toNat, (smallF st 65536).1.bad⟩, (smallF st 65536).1.xs.take (smallF st 65536).2.toNat)
theorem smallF_in {st : CS} {most : Int} (hm : 0 ≤ most) : 0 ≤ (smallF st most).2 ∧ (smallF st most).2 ≤ most := by
  unfold smallF
  split
  · exact ⟨Int.le_refl _, hm⟩
  · omega
theorem smallF_bad {st : CS} {most : Int} (h : (smallF st most).1.bad ≠ 0) : (smallF st most).2 = 0 := by
  unfold smallF at *
  split
  · rfl
  · rename_i hn
    rw [if_neg hn] at h
    rcases intF_bad st with h1 | h1
    · exact absurd h1 h
    · exact h1.1
end Go.Proofs.YtgeldpfojmkdbaaDoor
namespace Go.Proofs.YtgeldpfojmkdbaaDoor
set_option linter.unusedVariables false
open Go.ChangeShapes Go.WideShapes Go.ChangeAt Go.RowKit
attribute [local go_sem ↓] Go.wp_at_zero Go.wp_at_succ comesTo_value_eq comesTo_skip_eq comesTo_enter_eq

theorem OwnL.fr {w w' : World} {B : Nat} {v : Value} {l : List Int} {G : Nat → Prop} (h : OwnL w B v l) (hf : Fr G w w') (hG : ∀ j, B ≤ j → ¬ G j) : OwnL w' B v l := by
  refine ⟨h.1, ?_⟩
  rcases h.2 with hn | ⟨g, cap, cur, hv, hB, hg, rest⟩
  · exact .inl hn
  · refine .inr ⟨g, cap, cur, hv, hB, ?_, rest⟩
    rw [hf.block g (Array.getElem?_eq_some_iff.1 hg).1 (hG g hB)]; exact hg
theorem scan_less (xs : List Int) : ∀ (i u : Nat), (scan i u xs).2.1 = 0 → (scan i u xs).1.length < xs.length := by
  induction xs with
  | nil => intro i u h; simp [scan] at h
  | cons x xs ih =>
    intro i u h
    unfold scan at h ⊢
    split
    · rename_i h1; rw [if_pos h1] at h; simp at h
    · rename_i h1
      rw [if_neg h1] at h
      split
      · rename_i h2
        rw [if_pos h2] at h
        have := ih _ _ h
        simp; omega
      · rename_i h2
        rw [if_neg h2] at h
        split
        · rename_i h3; rw [if_pos h3] at h; simp at h
        · simp
theorem intF_less {st : CS} (h : st.bad = 0) (h' : (intF st).1.bad = 0) : (intF st).1.xs.length < st.xs.length := by
  unfold intF at *
  rw [if_pos h] at *
  exact scan_less _ _ _ h'
/-- so many numbers that are read, as long as nothing is wrong -/
def readN : Nat → CS → CS × List Int
  | 0, st => (st, [])
  | k + 1, st => if st.bad = 0 then ((readN k (intF st).1).1, (intF st).2 :: (readN k (intF st).1).2) else (st, [])
def intsF (st : CS) (most : Int) : CS × List Int :=
  if (readN (smallF st most).2.toNat (smallF st most).1).1.bad = 0 then readN (smallF st most).2.toNat (smallF st most).1 else ((readN (smallF st most).2.toNat (smallF st most).1).1, [])
theorem readN_succ (k : Nat) (st : CS) : readN (k + 1) st = if st.bad = 0 then ((readN k (intF st).1).1, (intF st).2 :: (readN k (intF st).1).2) else (st, []) := rfl
theorem readN_bad {st : CS} (h : st.bad ≠ 0) (k : Nat) : readN k st = (st, []) := by
  cases k with
  | zero => rfl
  | succ k => unfold readN; rw [if_neg h]
/-! ### a cursor that is nil -/
theorem rest_nil (w : World) : Calls Tryd.prog 24 #[.pointer none] w fun r w' => r = .returned (.int .i64 0) ∧ w = w' := by
  go_enter Tryd.func24, Tryd.ntmps24
  go_wp2
  go_ret
  exact ⟨rfl, rfl⟩
theorem bad_nil (w : World) : Calls Tryd.prog 23 #[.pointer none] w fun r w' => r = .returned (.int .i64 0) ∧ Below w.heap.size w w' := by
  have hA := below_alloc (Below.refl _ w) (.cells #[.int .i64 0] 28)
  go_enter Tryd.func23, Tryd.ntmps23
  go_wp2
  go_ret
  exact ⟨rfl, hA⟩
theorem int_nil (w : World) : Calls Tryd.prog 20 #[.pointer none] w fun r w' => r = .returned (.int .i64 0) ∧ w = w' := by
  go_enter Tryd.func20, Tryd.ntmps20
  go_wp2
  go_ret
  exact ⟨rfl, rfl⟩
theorem fail_nil (e : Int) (w : World) : Calls Tryd.prog 42 #[.pointer none, .int .i64 e] w fun r w' => r = .returned (.int .i64 0) ∧ w = w' := by
  go_enter Tryd.func42, Tryd.ntmps42
  go_wp2
  go_ret
  exact ⟨rfl, rfl⟩
theorem small_nil (most : Int) (w : World) : Calls Tryd.prog 22 #[.pointer none, .int .i64 most] w fun r w' => r = .returned (.int .i64 0) ∧ w = w' := by
  have KI := Lib.hid (int_nil w)
  have KF := Lib.hid (fail_nil 2 w)
  by_cases h : most < 0
  · have hd : decide ((0 : Int) > most) = true := decide_eq_true h
    go_enter Tryd.func22, Tryd.ntmps22
    go_wp2_with fail
    refine KI.out.mono ?_
    rintro e w' ⟨rfl, rfl⟩
    go_wp2_with fail
    refine KF.out.mono ?_
    rintro e w' ⟨rfl, rfl⟩
    go_wp2
    go_ret
    exact ⟨rfl, rfl⟩
  · have hd : decide ((0 : Int) > most) = false := decide_eq_false h
    go_enter Tryd.func22, Tryd.ntmps22
    go_wp2_with fail
    refine KI.out.mono ?_
    rintro e w' ⟨rfl, rfl⟩
    go_wp2
    go_ret
    exact ⟨rfl, rfl⟩
end Go.Proofs.YtgeldpfojmkdbaaDoor
namespace Go.Proofs.YtgeldpfojmkdbaaDoor
set_option linter.unusedVariables false
open Go.ChangeShapes Go.WideShapes Go.ChangeAt Go.RowKit Go.Lib
attribute [local go_sem ↓] Go.wp_at_zero Go.wp_at_succ comesTo_value_eq comesTo_skip_eq comesTo_enter_eq

theorem strCells_bytes (s : ByteArray) : strCells s = cellsOf8 (bytesOf s) := by
  unfold strCells cellsOf8 bytesOf
  simp
theorem bytesOf_in (s : ByteArray) : ∀ x ∈ bytesOf s, 0 ≤ x ∧ x ≤ 255 := by
  intro x hx
  obtain ⟨y, _, rfl⟩ := List.mem_map.1 hx
  have := y.toNat_lt
  omega
theorem getD_in {xs : List Int} (h : ∀ x ∈ xs, 0 ≤ x ∧ x ≤ 255) (k : Nat) (hk : k < xs.length) : 0 ≤ xs.getD k 0 ∧ xs.getD k 0 ≤ 255 := by
  have := h _ (List.getElem_mem hk)
  simpa [List.getD, List.getElem?_eq_getElem hk] using this
theorem OwnTxt.mem {w : World} {B : Nat} {v : Value} {xs : List Int} (h : OwnTxt w B v xs) : ∀ x ∈ xs, 0 ≤ x ∧ x ≤ 255 := by
  intro x hx
  obtain ⟨k, hk, rfl⟩ := List.mem_iff_getElem.1 hx
  have h1 := h.lo k hk
  have h2 := h.hi k hk
  simp [List.getD, List.getElem?_eq_getElem hk] at h1 h2
  exact ⟨h1, h2⟩
theorem flat_len : ∀ (m : List Int), (∀ x ∈ m, -9223372036854775808 ≤ x ∧ x ≤ 9223372036854775807) → (m.flatMap putI).length ≤ 10 * m.length
  | [], _ => by simp
  | x :: m, hm => by
    have h1 := flat_len m fun y hy => hm y (List.mem_cons_of_mem _ hy)
    have h2 := putI_len (hm x List.mem_cons_self)
    simp only [List.flatMap_cons, List.length_append, List.length_cons]
    omega
end Go.Proofs.YtgeldpfojmkdbaaDoor
namespace Go.Proofs.YtgeldpfojmkdbaaDoor
set_option linter.unusedVariables false
open Go.ChangeShapes Go.WideShapes Go.ChangeAt Go.RowKit Go.Lib
attribute [local go_sem ↓] Go.wp_at_zero Go.wp_at_succ comesTo_value_eq comesTo_skip_eq comesTo_enter_eq

theorem put_m1 : putI (-1) = [1] := by unfold putI; rw [show foldF (-1) = 1 from by decide, putU_lt (by decide)]; rfl
theorem put_64 : putI 64 = [128, 1] := by unfold putI; rw [show foldF 64 = 128 from by decide, putU_ge (by decide), putU_lt (by decide)]; rfl
theorem one_i1 : intF ⟨[1, 128, 1], 0⟩ = (⟨[128, 1], 0⟩, -1) := by rfl
theorem one_i2 : intF ⟨[128, 1], 0⟩ = (⟨[], 0⟩, 64) := by rfl
end Go.Proofs.YtgeldpfojmkdbaaDoor
namespace Go.Proofs.YtgeldpfojmkdbaaDoor
set_option linter.unusedVariables false
open Go Go.RowKit

theorem intF_put {v : Int} (h : -9223372036854775808 ≤ v ∧ v ≤ 9223372036854775807) (ys : List Int) : intF ⟨putI v ++ ys, 0⟩ = (⟨ys, 0⟩, v) := by
  unfold intF
  rw [if_pos rfl]
  simp only [scan_putI h]
theorem smallF_put {n most : Int} (h0 : 0 ≤ n) (h1 : n ≤ most) (h2 : n ≤ 9223372036854775807) (ys : List Int) : smallF ⟨putI n ++ ys, 0⟩ most = (⟨ys, 0⟩, n) := by
  unfold smallF
  rw [intF_put (by omega)]
  rw [if_neg (by simp only; omega)]
theorem textF_put {bs : List Int} (h : bs.length ≤ 65536) (ys : List Int) : textF ⟨putT bs ++ ys, 0⟩ = (⟨ys, 0⟩, bs) := by
  unfold textF putT
  rw [List.append_assoc, smallF_put (by omega) (by omega) (by omega)]
  simp only
  rw [if_neg (by simp; omega)]
  simp
theorem readN_put : ∀ (l : List Int) (j : Nat) (ys : List Int), (∀ x ∈ l, -9223372036854775808 ≤ x ∧ x ≤ 9223372036854775807) → readN (l.length + j) ⟨l.flatMap putI ++ ys, 0⟩ = ((readN j ⟨ys, 0⟩).1, l ++ (readN j ⟨ys, 0⟩).2)
  | [], j, ys, _ => by simp
  | x :: l, j, ys, h => by
    rw [show (x :: l).length + j = (l.length + j) + 1 by simp; omega, readN_succ, if_pos rfl, List.flatMap_cons, List.append_assoc, intF_put (h x List.mem_cons_self)]
    simp only
    rw [readN_put l j ys fun y hy => h y (List.mem_cons_of_mem _ hy)]
    simp
theorem intsF_put {l : List Int} (hl : ∀ x ∈ l, -9223372036854775808 ≤ x ∧ x ≤ 9223372036854775807) {most : Int} (h : (l.length : Int) ≤ most) (h2 : (l.length : Int) ≤ 9223372036854775807) (ys : List Int) : intsF ⟨putL l ++ ys, 0⟩ most = (⟨ys, 0⟩, l) := by
  have h1 := smallF_put (n := (l.length : Int)) (most := most) (by omega) h h2 (l.flatMap putI ++ ys)
  have h3 := readN_put l 0 ys hl
  unfold intsF putL
  rw [List.append_assoc, h1]
  simp only [Int.toNat_natCast]
  rw [Nat.add_zero] at h3
  rw [h3]
  simp [readN]
theorem intF_cut {v : Int} (h : -9223372036854775808 ≤ v ∧ v ≤ 9223372036854775807) {k : Nat} (hk : k < (putI v).length) : intF ⟨(putI v).take k, 0⟩ = (⟨[], 10⟩, 0) := by
  unfold intF
  rw [if_pos rfl]
  have := scan_cut (foldF v) 0 0 k (by decide) (by simpa using fold_lt h) hk
  simp only [show (putI v).take k = (putU (foldF v)).take k from rfl, this]
theorem smallF_cut {v : Int} (h : -9223372036854775808 ≤ v ∧ v ≤ 9223372036854775807) {k : Nat} (hk : k < (putI v).length) (most : Int) : smallF ⟨(putI v).take k, 0⟩ most = (⟨[], 10⟩, 0) := by
  unfold smallF
  rw [intF_cut h hk]
  split <;> rfl
theorem putI_pos (v : Int) : 1 ≤ (putI v).length := putU_len _
theorem intsF_cut {l : List Int} (hl : ∀ x ∈ l, -9223372036854775808 ≤ x ∧ x ≤ 9223372036854775807) {most : Int} (h : (l.length : Int) ≤ most) (h2 : (l.length : Int) ≤ 9223372036854775807) : intsF ⟨(putL l).take ((putL l).length - 1), 0⟩ most = (⟨[], 10⟩, []) := by
  rcases List.eq_nil_or_concat l with rfl | ⟨i, x, rfl⟩
  · have e : putL [] = putI 0 := by unfold putL; simp
    rw [e]
    unfold intsF
    rw [smallF_cut (by decide) (by have := putI_pos 0; omega)]
    rfl
  · rw [List.concat_eq_append] at *
    have hx : -9223372036854775808 ≤ x ∧ x ≤ 9223372036854775807 := hl x (by simp)
    have hi : ∀ y ∈ i, -9223372036854775808 ≤ y ∧ y ≤ 9223372036854775807 := fun y hy => hl y (by simp [hy])
    have hp := putI_pos x
    have e : (putL (i ++ [x])).take ((putL (i ++ [x])).length - 1) = putI ((i ++ [x]).length : Int) ++ (i.flatMap putI ++ (putI x).take ((putI x).length - 1)) := by
      unfold putL
      rw [List.flatMap_append, show [x].flatMap putI = putI x by simp, ← List.append_assoc, ← List.append_assoc]
      generalize putI ((i ++ [x]).length : Int) ++ i.flatMap putI = A
      rw [List.take_append, List.length_append, List.take_of_length_le (by omega), show A.length + (putI x).length - 1 - A.length = (putI x).length - 1 by omega]
    have h1 := smallF_put (n := ((i ++ [x]).length : Int)) (most := most) (by omega) h h2 (i.flatMap putI ++ (putI x).take ((putI x).length - 1))
    have h3 := readN_put i 1 ((putI x).take ((putI x).length - 1)) hi
    have hc : readN 1 ⟨(putI x).take ((putI x).length - 1), 0⟩ = (⟨[], 10⟩, [0]) := by
      rw [readN_succ, if_pos rfl, intF_cut hx (by omega)]
      rfl
    rw [hc] at h3
    unfold intsF
    rw [e, h1]
    simp only [Int.toNat_natCast]
    rw [show (i ++ [x]).length = i.length + 1 by simp, h3]
    simp
theorem str_bytes (s : ByteArray) : strOfNums (bytesOf s) = s := by
  refine bytesOf_inj ?_
  have := bytesOf_in s
  exact bytesOf_str _ (fun k hk => (getD_in this k hk).1) (fun k hk => (getD_in this k hk).2)
theorem putI_mem (v : Int) : ∀ x ∈ putI v, 0 ≤ x ∧ x ≤ 255 := putU_bytes _
theorem strOf_inj {xs ys : List Int} (hx : ∀ x ∈ xs, 0 ≤ x ∧ x ≤ 255) (hy : ∀ x ∈ ys, 0 ≤ x ∧ x ≤ 255) (h : strOfNums xs = strOfNums ys) : xs = ys := by
  have h1 := bytesOf_str xs (fun k hk => (getD_in hx k hk).1) (fun k hk => (getD_in hx k hk).2)
  have h2 := bytesOf_str ys (fun k hk => (getD_in hy k hk).1) (fun k hk => (getD_in hy k hk).2)
  rw [← h1, h, h2]
end Go.Proofs.YtgeldpfojmkdbaaDoor
namespace Go.Proofs.YtgeldpfojmkdbaaDoor
set_option linter.unusedVariables false
open Go.ChangeShapes Go.WideShapes Go.ChangeAt Go.RowKit

/-- the numbers of two rows, one behind the other, are bytes -/
theorem bytes_both {xs ys : List Int} (hx : ∀ k, k < xs.length → 0 ≤ xs.getD k 0) (hx2 : ∀ k, k < xs.length → xs.getD k 0 ≤ 255) (hy : ∀ k, k < ys.length → 0 ≤ ys.getD k 0) (hy2 : ∀ k, k < ys.length → ys.getD k 0 ≤ 255) :
    (∀ k, k < (xs ++ ys).length → 0 ≤ (xs ++ ys).getD k 0) ∧ (∀ k, k < (xs ++ ys).length → (xs ++ ys).getD k 0 ≤ 255) := by
  refine ⟨fun k hk => ?_, fun k hk => ?_⟩
  all_goals
    rw [List.length_append] at hk
    by_cases hlt : k < xs.length
    · rw [show (xs ++ ys).getD k 0 = xs.getD k 0 by simp [List.getD, List.getElem?_append_left, hlt]]
      first | exact hx k hlt | exact hx2 k hlt
    · rw [show (xs ++ ys).getD k 0 = ys.getD (k - xs.length) 0 by simp [List.getD, List.getElem?_append_right (Nat.le_of_not_lt hlt)]]
      first | exact hy _ (by omega) | exact hy2 _ (by omega)
theorem TxtAt.bytes {w : World} {v : Value} {zs : List Int} (h : TxtAt w v zs) : (∀ k, k < zs.length → 0 ≤ zs.getD k 0) ∧ (∀ k, k < zs.length → zs.getD k 0 ≤ 255) := by
  rcases h with ⟨_, _, _, _, _, hr⟩ | ⟨rfl, _⟩
  · exact ⟨hr.lo, hr.hi⟩
  · exact ⟨fun k hk => by simp at hk, fun k hk => by simp at hk⟩
theorem OwnTxt.form'' {w : World} {B : Nat} {v : Value} {xs : List Int} (h : OwnTxt w B v xs) : (v = .slice none 0 0 ∧ xs = []) ∨ ∃ g c, v = .slice (some ⟨g, 0, none⟩) xs.length c ∧ xs.length ≤ c := by
  rcases h.own.2 with ⟨rfl, h0⟩ | ⟨g, cap, cur, rfl, _, _, h1, h2, _⟩
  · exact .inl ⟨rfl, List.eq_nil_of_length_eq_zero h0⟩
  · exact .inr ⟨g, cap, rfl, h1⟩
theorem OwnTxt.form' {w : World} {B : Nat} {v : Value} {xs : List Int} (h : OwnTxt w B v xs) : (v = .slice none 0 0 ∧ xs = []) ∨ ∃ g c, v = .slice (some ⟨g, 0, none⟩) xs.length c := by
  rcases h.form'' with h | ⟨g, c, h, _⟩
  · exact .inl h
  · exact .inr ⟨g, c, h⟩
theorem OwnTxt.base' {w : World} {B B' : Nat} {v : Value} {xs : List Int} (h : OwnTxt w B v xs) (hB : B' ≤ B) : OwnTxt w B' v xs := by
  refine ⟨⟨h.own.1, ?_⟩, h.lo, h.hi⟩
  rcases h.own.2 with hn | ⟨g, cap, cur, rfl, hB, hg, rest⟩
  · exact .inl hn
  · exact .inr ⟨g, cap, cur, rfl, by omega, hg, rest⟩
theorem OwnTxt.blockGe' {w : World} {B : Nat} {v : Value} {xs : List Int} (h : OwnTxt w B v xs) {g : Nat} (hg : v.ownBlock = some g) : B ≤ g := by
  rcases h.own.2 with ⟨rfl, _⟩ | ⟨g', cap, cur, rfl, hB, _⟩
  · cases hg
  · simp only [Value.ownBlock, Option.some.injEq] at hg; omega
section
variable {ops : Array Oper} {rest : List Oper} {o : Oper} {a : Act} {w : World} {Q : Exit → Act → World → Prop}
theorem wpList_append_txt2 (hgd : o.guard = none) (s x : Operand)
    (ho : o.op = .call { callee := .builtin .append, args := #[s, x], argTypes := #[27, 27] })
    (B : Nat) (v : Value) (xs : List Int) (hs : a.eval s = v) (hown : OwnTxt w B v xs) (u : Value) (ys : List Int) (hx : a.eval x = u) (ht : TxtAt w u ys)
    (h63 : xs.length + ys.length ≤ 140737488355328) (hB : B ≤ w.heap.size)
    (h' : ∀ (ad : Option Addr) (n c : Nat) (w' : World), OwnTxt w' B (.slice ad n c) (xs ++ ys) → w.grownBy w' v.ownBlock → (∀ g, (Value.slice ad n c).ownBlock = some g → v.ownBlock = some g ∨ w.heap.size ≤ g) → wpList Tryd.prog ops Q rest (a.put o.dst (.slice ad n c)) w') : wpList Tryd.prog ops Q (o :: rest) a w := by
  obtain ⟨i0, hi, hz0, hz1, hz2⟩ := info_parts info_u8
  have hbb := bytes_both hown.lo hown.hi ht.bytes.1 ht.bytes.2
  have hlen : (cellsOf8 (xs ++ ys)).length = (xs ++ ys).length := by simp [cellsOf8]
  have hc8 : ∀ b off, BytesRow w b off ys → ∀ (j : Nat) (u : Value), (cellsOf8 ys)[j]? = some u → w.cell? ((⟨b, off, none⟩ : Addr).add j) = some u := fun b off hr j u hj => by
    have hjl : j < ys.length := by
      rcases Nat.lt_or_ge j ys.length with h | h
      · exact h
      · rw [List.getElem?_eq_none (by simpa [cellsOf8] using h)] at hj; cases hj
    have hplain : (⟨b, off, none⟩ : Addr).add j = ⟨b, off + j, none⟩ := by unfold Addr.add; split <;> simp_all
    rw [hplain, hr.cell j hjl]
    simp [cellsOf8, hjl] at hj
    simp [List.getD, hjl, hj]
  have h1c : ∀ u ∈ cellsOf8 ys, u.oneCell' = true := fun u hu => by
    simp [cellsOf8] at hu
    obtain ⟨n, _, rfl⟩ := hu
    rfl
  have same : ys = [] → wpList Tryd.prog ops Q rest (a.put o.dst v) w := fun hy => by
    subst hy
    rcases hown.form' with ⟨rfl, rfl⟩ | ⟨g, c, rfl⟩
    · exact h' none 0 0 w hown (World.grownBy.refl _ _) (fun g hg => by cases hg)
    · exact h' _ _ _ w (by rw [List.append_nil]; exact hown) (World.grownBy.refl _ _) (fun g hg => .inl hg)
  have fresh : ∀ v' w', w'.ownsRow w.heap.size 5 1 v' (xs.length + ys.length) (cellsOf8 xs ++ cellsOf8 ys) → w.grownBy w' none → wpList Tryd.prog ops Q rest (a.put o.dst v') w' := fun v' w' h1 h2 => by
    have ho : OwnTxt w' w.heap.size v' (xs ++ ys) := ⟨by rw [List.length_append, cellsOf8_append]; exact h1, hbb.1, hbb.2⟩
    have hg : w.grownBy w' v.ownBlock := ⟨h2.os, h2.tape, h2.output, h2.size, fun k hk _ => h2.block k hk (by simp)⟩
    rcases ho.form' with ⟨rfl, _⟩ | ⟨g, c, rfl⟩
    · exact h' none 0 0 w' (ho.base' hB) hg (fun g hg => by cases hg)
    · exact h' _ _ _ w' (ho.base' hB) hg (fun g' hg' => .inr (ho.blockGe' hg'))
  rcases hown.form'' with ⟨rfl, rfl⟩ | ⟨g, c, rfl, hcap⟩
  · -- nothing yet
    rcases ht with ⟨b, off, cap, rfl, h0, hr⟩ | ⟨rfl, ad, cap, rfl, hnil⟩
    · exact wpList_append_own _ hgd s x 27 ho w.heap.size 5 i0 (.int .u8 0) 1 1 Tryd.underlying27 hi hz0 hz1 hz2 rfl (by decide) (.slice none 0 0) 0 [] hs (World.ownsRow_nil _ _ _ _)
        ⟨b, off, none⟩ ys.length cap (cellsOf8 ys) hx (by simp [cellsOf8]) (hc8 b off hr) h1c (by unfold maxLen; omega) (by simpa using h63) (Nat.le_refl _)
        (fun v' w' h1 h2 _ => fresh v' w' (by simpa [cellsOf8] using h1) h2)
    · cases ad with
      | none =>
        obtain rfl := hnil rfl
        exact wpList_append_own_none hgd s x 27 ho B 5 i0 1 Tryd.underlying27 hi (.slice none 0 0) 0 [] hs (World.ownsRow_nil _ _ _ _) hx (same rfl)
      | some ad =>
        exact wpList_append_own _ hgd s x 27 ho w.heap.size 5 i0 (.int .u8 0) 1 1 Tryd.underlying27 hi hz0 hz1 hz2 rfl (by decide) (.slice none 0 0) 0 [] hs (World.ownsRow_nil _ _ _ _)
          ad 0 cap [] hx rfl (fun j u hj => by cases hj) (fun u hu => by cases hu) (by unfold maxLen; omega) (by omega) (Nat.le_refl _)
          (fun v' w' h1 h2 _ => fresh v' w' (by simpa [cellsOf8] using h1) h2)
  · rcases ht with ⟨b, off, cap, rfl, h0, hr⟩ | ⟨rfl, ad, cap, rfl, hnil⟩
    · by_cases hroom : xs.length + ys.length ≤ c
      · exact wpList_append_fits w hgd s x 27 ho B 5 i0 1 Tryd.underlying27 hi hz1 g xs.length c (cellsOf8 xs) hs hown.own ⟨b, off, none⟩ ys.length cap (cellsOf8 ys) hx (by simp [cellsOf8]) (hc8 b off hr) h1c hroom
          (fun w' h1 h2 => h' _ _ _ w' ⟨by rw [List.length_append, cellsOf8_append]; exact h1, hbb.1, hbb.2⟩ h2 (fun g' hg' => .inl hg'))
      · exact wpList_append_grows w hgd s x 27 ho 5 i0 (.int .u8 0) 1 1 Tryd.underlying27 hi hz0 hz1 hz2 rfl (by decide) (some ⟨g, 0, none⟩) xs.length c (cellsOf8 xs) hs (fun h => by cases h) (by simp [cellsOf8])
          (fun b' hb' j u hj => by cases hb'; exact hown.own.cells (g := g) rfl j u hj)
          ⟨b, off, none⟩ ys.length cap (cellsOf8 ys) hx (by simp [cellsOf8]) (hc8 b off hr) h1c (by omega) (by unfold maxLen; omega) (by omega) fresh
    · cases ad with
      | none =>
        obtain rfl := hnil rfl
        exact wpList_append_own_none hgd s x 27 ho B 5 i0 1 Tryd.underlying27 hi _ xs.length (cellsOf8 xs) hs hown.own hx (same rfl)
      | some ad =>
        exact wpList_append_fits w hgd s x 27 ho B 5 i0 1 Tryd.underlying27 hi hz1 g xs.length c (cellsOf8 xs) hs hown.own ad 0 cap [] hx rfl (fun j u hj => by cases hj) (fun u hu => by cases hu) (by simpa using hcap)
          (fun w' h1 h2 => h' _ _ _ w' (by rw [List.append_nil]; exact ⟨by simpa using h1, hown.lo, hown.hi⟩) h2 (fun g' hg' => .inl hg'))
end
end Go.Proofs.YtgeldpfojmkdbaaDoor
namespace Go.Proofs.YtgeldpfojmkdbaaDoor
set_option linter.unusedVariables false
open Go.ChangeShapes Go.WideShapes Go.ChangeAt Go.RowKit
attribute [local go_sem ↓] Go.wp_at_zero Go.wp_at_succ comesTo_value_eq comesTo_skip_eq comesTo_enter_eq Rl.comesToR_value_eq Rl.comesToR_skip_eq Rl.comesToR_enter_eq

/-- what is laid of a job -/
def jobN (j : JobV) : List Int := [j.id, j.user, j.part, j.width, j.limit, j.nice, j.after, holdN j.hold, j.state, j.sent, j.plan, j.promise, j.tries, wrap64 (nv j.black), wrap64 (nv j.nodes), j.start, j.fin]
def putJ (j : JobV) : List Int := (jobN j).flatMap putI
theorem wrap64_in (x : Int) : -9223372036854775808 ≤ wrap64 x ∧ wrap64 x ≤ 9223372036854775807 := by unfold wrap64; omega
theorem jobN_in {j : JobV} (h : j.Ok) : ∀ x ∈ jobN j, -9223372036854775808 ≤ x ∧ x ≤ 9223372036854775807 := by
  have hi := h.inb
  unfold JobV.ints at hi
  simp only [List.mem_cons, List.not_mem_nil, or_false, forall_eq_or_imp, forall_eq] at hi
  obtain ⟨h0, h1, h2, h3, h4, h5, h6, h8, h9, h10, h11, h12, h15, h16⟩ := hi
  unfold jobN
  simp only [List.mem_cons, List.not_mem_nil, or_false, forall_eq_or_imp, forall_eq]
  exact ⟨h0, h1, h2, h3, h4, h5, h6, by unfold holdN; split <;> omega, h8, h9, h10, h11, h12, wrap64_in _, wrap64_in _, h15, h16⟩
theorem flat_le : ∀ (l : List Int), (∀ x ∈ l, -9223372036854775808 ≤ x ∧ x ≤ 9223372036854775807) → (l.flatMap putI).length ≤ 10 * l.length
  | [], _ => by simp
  | x :: l, h => by
    have h1 := putI_len (h x List.mem_cons_self)
    have h2 := flat_le l (fun y hy => h y (List.mem_cons_of_mem _ hy))
    rw [List.flatMap_cons, List.length_append, List.length_cons]
    omega
theorem putJ_len {j : JobV} (h : j.Ok) : (putJ j).length ≤ 170 := flat_le (jobN j) (jobN_in h)
set_option maxHeartbeats 4000000 in
theorem index17 (x0 x1 x2 x3 x4 x5 x6 x7 x8 x9 x10 x11 x12 x13 x14 x15 x16 : Int) (k : Nat) (hk : k < 17) (w : World) : (Instr.index 58 (.agg #[.int .i64 x0, .int .i64 x1, .int .i64 x2, .int .i64 x3, .int .i64 x4, .int .i64 x5, .int .i64 x6, .int .i64 x7, .int .i64 x8, .int .i64 x9, .int .i64 x10, .int .i64 x11, .int .i64 x12, .int .i64 x13, .int .i64 x14, .int .i64 x15, .int .i64 x16]) (.int .i64 (k : Int))).run Tryd.prog w = .ok (.int .i64 ([x0, x1, x2, x3, x4, x5, x6, x7, x8, x9, x10, x11, x12, x13, x14, x15, x16].getD k 0)) w := by
  rcases (show k = 0 ∨ k = 1 ∨ k = 2 ∨ k = 3 ∨ k = 4 ∨ k = 5 ∨ k = 6 ∨ k = 7 ∨ k = 8 ∨ k = 9 ∨ k = 10 ∨ k = 11 ∨ k = 12 ∨ k = 13 ∨ k = 14 ∨ k = 15 ∨ k = 16 by omega) with rfl | rfl | rfl | rfl | rfl | rfl | rfl | rfl | rfl | rfl | rfl | rfl | rfl | rfl | rfl | rfl | rfl <;> kernel_rfl
/-- an own row of no bytes, with room -/
theorem OwnTxt.slice {w : World} {B : Nat} {v : Value} {xs : List Int} (h : OwnTxt w B v xs) : ∃ au m cu, v = .slice au m cu ∧ m = xs.length := by
  rcases h.form'' with ⟨rfl, h0⟩ | ⟨g, cc, rfl, _⟩
  · exact ⟨none, 0, 0, rfl, by rw [h0]; rfl⟩
  · exact ⟨_, _, _, rfl, rfl⟩
theorem OwnTxt.make {w : World} {B : Nat} {v : Value} (h : w.ownsRow B 5 1 v 0 []) : OwnTxt w B v [] := ⟨h, fun k hk => by simp at hk, fun k hk => by simp at hk⟩
set_option maxRecDepth 100000 in
set_option maxHeartbeats 4000000 in
theorem put_any (j : JobV) (hj : j.Ok) {ad : Option Addr} {n c : Nat} {xs : List Int} {w : World} (h : TxtAt w (.slice ad n c) xs) (hl : xs.length ≤ 1099511627776) : Calls Tryd.prog 7 #[.slice ad n c, .agg (jobC j).toArray] w fun e w' => ∃ u, e = .returned u ∧ OwnTxt w' w.heap.size u (xs ++ putJ j) ∧ Below w.heap.size w w' := by
  have HN := Lib.hid (h.form.1)
  have HT := Lib.hid h
  have HL := Lib.hid hl
  clear h hl
  have HIN := Lib.hid (jobN_in hj)
  have HPJ := Lib.hid (show putJ j = (jobN j).flatMap putI from rfl)
  have HIX := Lib.hid (fun (hd : Int) (e : hd = holdN j.hold) (k : Nat) (hk : k < 17) (W : World) => show (Instr.index 58 (.agg #[.int .i64 j.id, .int .i64 j.user, .int .i64 j.part, .int .i64 j.width, .int .i64 j.limit, .int .i64 j.nice, .int .i64 j.after, .int .i64 hd, .int .i64 j.state, .int .i64 j.sent, .int .i64 j.plan, .int .i64 j.promise, .int .i64 j.tries, .int .i64 (wrap64 (nv j.black)), .int .i64 (wrap64 (nv j.nodes)), .int .i64 j.start, .int .i64 j.fin]) (.int .i64 (k : Int))).run Tryd.prog W = .ok (.int .i64 ((jobN j).getD k 0)) W from e ▸ index17 j.id j.user j.part j.width j.limit j.nice j.after (holdN j.hold) j.state j.sent j.plan j.promise j.tries (wrap64 (nv j.black)) (wrap64 (nv j.nodes)) j.start j.fin k hk W)
  have hts : (jobN j).length = 17 := rfl
  have HTL := Lib.hid hts
  clear hts
  generalize jobN j = ts at *
  have hmx : Tryd.prog.follows .mixedOrders = true := by kernel_rfl
  have HLEN := Lib.hid (jobC_len j)
  have k0 : (jobC j).toArray[0]? = some (.int .i64 j.id) := rfl
  have k1 : (jobC j).toArray[1]? = some (.int .i64 j.user) := rfl
  have k2 : (jobC j).toArray[2]? = some (.int .i64 j.part) := rfl
  have k3 : (jobC j).toArray[3]? = some (.int .i64 j.width) := rfl
  have k4 : (jobC j).toArray[4]? = some (.int .i64 j.limit) := rfl
  have k5 : (jobC j).toArray[5]? = some (.int .i64 j.nice) := rfl
  have k6 : (jobC j).toArray[6]? = some (.int .i64 j.after) := rfl
  have k7 : (jobC j).toArray[7]? = some (.bool j.hold) := rfl
  have k8 : (jobC j).toArray[8]? = some (.int .i64 j.state) := rfl
  have k9 : (jobC j).toArray[9]? = some (.int .i64 j.sent) := rfl
  have k10 : (jobC j).toArray[10]? = some (.int .i64 j.plan) := rfl
  have k11 : (jobC j).toArray[11]? = some (.int .i64 j.promise) := rfl
  have k12 : (jobC j).toArray[12]? = some (.int .i64 j.tries) := rfl
  have k13 : (jobC j).toArray[13]? = some (.int .u64 (nv j.black)) := rfl
  have k14 : (jobC j).toArray[14]? = some (.int .u64 (nv j.nodes)) := rfl
  have k15 : (jobC j).toArray[15]? = some (.int .i64 j.start) := rfl
  have k16 : (jobC j).toArray[16]? = some (.int .i64 j.fin) := rfl
  generalize hl : jobC j = l at *
  clear hl
  go_enter Tryd.func7, Tryd.ntmps7
  go_upto_region 2 with fail
  have hC := World.alloc_heap_new w (.cells l.toArray 26)
  have HB := Lib.hid (below_alloc (Below.refl _ w) (.cells l.toArray 26))
  have l0 : w.heap.size < (w.alloc (.cells l.toArray 26)).heap.size := by simp
  generalize w.alloc (.cells l.toArray 26) = U at *
  have c0 := cell_of_block (o := 0) hC k0
  have c1 := cell_of_block (o := 1) hC k1
  have c2 := cell_of_block (o := 2) hC k2
  have c3 := cell_of_block (o := 3) hC k3
  have c4 := cell_of_block (o := 4) hC k4
  have c5 := cell_of_block (o := 5) hC k5
  have c6 := cell_of_block (o := 6) hC k6
  have c7 := cell_of_block (o := 7) hC k7
  have c8 := cell_of_block (o := 8) hC k8
  have c9 := cell_of_block (o := 9) hC k9
  have c10 := cell_of_block (o := 10) hC k10
  have c11 := cell_of_block (o := 11) hC k11
  have c12 := cell_of_block (o := 12) hC k12
  have c13 := cell_of_block (o := 13) hC k13
  have c14 := cell_of_block (o := 14) hC k14
  have c15 := cell_of_block (o := 15) hC k15
  have c16 := cell_of_block (o := 16) hC k16
  have HC := Lib.hid hC
  have L0 := Lib.hid l0
  have HK0 := Lib.hid k0
  have HK1 := Lib.hid k1
  have HK2 := Lib.hid k2
  have HK3 := Lib.hid k3
  have HK4 := Lib.hid k4
  have HK5 := Lib.hid k5
  have HK6 := Lib.hid k6
  have HK7 := Lib.hid k7
  have HK8 := Lib.hid k8
  have HK9 := Lib.hid k9
  have HK10 := Lib.hid k10
  have HK11 := Lib.hid k11
  have HK12 := Lib.hid k12
  have HK13 := Lib.hid k13
  have HK14 := Lib.hid k14
  have HK15 := Lib.hid k15
  have HK16 := Lib.hid k16
  clear hC k0 k1 k2 k3 k4 k5 k6 k7 k8 k9 k10 k11 k12 k13 k14 k15 k16
  have hb := HB.out
  cases hh : j.hold with
  | false =>
    rw [hh] at c7 HIX
    have HIY := Lib.hid (HIX.out 0 rfl)
    clear HIX hb
    go_wp2_with fail
    go_loopw [6, 47] (fun b i wr => ∃ (k : Nat) (au : Option Addr) (m cu : Nat), k ≤ 17 ∧ b = .slice au m cu ∧ i = .int .i64 k ∧ OwnTxt wr w.heap.size (.slice au m cu) ((ts.take k).flatMap putI) ∧ Below w.heap.size w wr) (fun _ i _ => 17 - (intOf i).toNat)
    case atStart => exact ⟨0, none, 0, 0, Nat.zero_le _, rfl, rfl, OwnTxt.nil, HB.out⟩
    case round =>
      obtain ⟨k, au, m, cu, hk, rfl, rfl, ho, hb⟩ := hrel
      have HO := Lib.hid ho
      have HB2 := Lib.hid hb
      clear ho hb
      by_cases hlt : k < 17
      · have hd : decide ((k : Int) < 17) = true := decide_eq_true (by omega)
        have hkl : k < ts.length := by rw [HTL.out]; exact hlt
        have htk : ts.take (k + 1) = ts.take k ++ [ts.getD k 0] := by
          rw [List.take_add_one]; simp [List.getD, hkl]
        have hmem : ts.getD k 0 ∈ ts := by simp [List.getD, hkl]
        have hix := HIY.out k hlt wr
        have hlen : ((ts.take k).flatMap putI).length ≤ 1099511627776 := by
          have := flat_le (ts.take k) (fun x hx => HIN.out x (List.mem_of_mem_take hx))
          have h2 : (ts.take k).length ≤ 17 := by simp; omega
          omega
        have KP := Lib.hid (putint_any HO.out.at hlen (HIN.out _ hmem))
        have HTK := Lib.hid (show (ts.take (k + 1)).flatMap putI = (ts.take k).flatMap putI ++ putI (ts.getD k 0) by rw [htk, List.flatMap_append]; simp)
        clear htk hlen hkl hmem
        generalize ts.getD k 0 = x at *
        go_wp2_with fail
        ((with_reducible refine KP.out.mono ?_))
        rintro e w4 ⟨u4, rfl, ho4, hb4⟩
        obtain ⟨au4, m4, cu4, rfl, hm4⟩ := ho4.slice
        clear hm4
        have HO4 := Lib.hid ho4
        have HB4 := Lib.hid (below_next HB2.out hb4)
        clear ho4 hb4 hix
        go_wp2_with fail
        go_roundw
        case rel => exact ⟨k + 1, au4, m4, cu4, by omega, rfl, by go_num, by rw [HTK.out]; exact HO4.out.base' HB2.out.size, HB4.out⟩
        case measure => simp [intOf]; omega
      · have hd : decide ((k : Int) < 17) = false := decide_eq_false (by omega)
        have HE := Lib.hid (show (ts.take k).flatMap putI = putJ j by rw [List.take_of_length_le (by rw [HTL.out]; omega), HPJ.out])
        have HLJ := Lib.hid (show (putJ j).length ≤ 170 from putJ_len hj)
        have HO2 := Lib.hid (HE.out ▸ HO.out)
        have HT2 := Lib.hid (HT.out.below HB2.out)
        have hnn : n ≤ 1099511627776 := by rw [HN.out]; exact HL.out
        have HNN := Lib.hid hnn
        clear HIY HIN HO hk hlt
        go_upto_region 10 with fail
        obtain ⟨i0, hi, hz0, hz1, hz2⟩ := info_parts info_u8
        obtain ⟨_, _, _, he1, hm⟩ := HO2.out.slice
        cases he1
        have hml : m ≤ 170 := by rw [hm]; exact HLJ.out
        have HM := Lib.hid hm
        clear hm
        have hwr : IntKind.i64.wrap ((n : Int) + (m : Int)) = (n : Int) + (m : Int) := by rw [IntKind.wrap_i64]; omega
        refine wp_region_lit ?_
        refine wpList_yield (w' := wr) (v := .slice ad n c) rfl (by first | (go_simp; done) | (go_simp; rfl)) ?_
        refine wpList_yield (w' := wr) (v := .int .i64 (n : Int)) rfl (by first | (go_simp; done) | (go_simp; rfl)) ?_
        refine wpList_yield (w' := wr) (v := .slice au m cu) rfl (by first | (go_simp; done) | (go_simp; rfl)) ?_
        refine wpList_yield (w' := wr) (v := .int .i64 (m : Int)) rfl (by first | (go_simp; done) | (go_simp; rfl)) ?_
        refine wpList_yield (w' := wr) (v := .int .i64 ((n : Int) + (m : Int))) rfl (by first | (go_simp; done) | (go_simp; rfl)) ?_
        refine wpList_make_own wr rfl _ _ 27 rfl wr.heap.size 5 i0 (.int .u8 0) 1 Tryd.underlying27 hi hz0 hz1 .i64 .i64 ((n : Int) + (m : Int)) (n + m) (by go_simp) (by go_simp) (by omega) (by rw [hz2]; omega) (by unfold maxLen; omega) (Nat.le_refl _) ?_
        intro w5 ho5 hg5
        have hb25 : Below wr.heap.size wr w5 := Below.grown (Below.refl _ _) hg5 (Nat.le_refl _) (fun k hk => by cases hk)
        have HT5 := Lib.hid (HT2.out.below hb25)
        have HB25 := Lib.hid hb25
        have HR5 := Lib.hid (OwnTxt.make ho5)
        clear hb25 ho5 hg5
        refine wpList_yield (w' := w5) (v := .slice ad n c) rfl (by first | (go_simp; done) | (go_simp; rfl)) ?_
        refine wpList_append_txt rfl _ _ rfl wr.heap.size _ [] (by go_simp) HR5.out _ xs (by go_simp) HT5.out (by have := HL.out; simp; omega) HB25.out.size ?_
        intro ad6 n6 c6 w6 ho6 hb6 hg6
        have HB26 := Lib.hid (HB25.out.trans hb6)
        have HO6 := Lib.hid ho6
        have HU6 := Lib.hid (HO2.out.at.below HB26.out)
        clear ho6 hb6 hg6
        refine wpList_yield (w' := w6) (v := .slice au m cu) rfl (by first | (go_simp; done) | (go_simp; rfl)) ?_
        refine wpList_append_txt rfl _ _ rfl wr.heap.size _ xs (by go_simp) HO6.out _ (putJ j) (by go_simp) HU6.out (by have := HL.out; have := HLJ.out; omega) HB26.out.size ?_
        intro ad7 n7 c7' w7 ho7 hb7 hg7
        have HO7 := Lib.hid (ho7.base' HB2.out.size)
        have HB7 := Lib.hid (below_next HB2.out (HB26.out.trans hb7))
        clear ho7 hb7 hg7
        go_wp2
        go_ret
        exact ⟨_, rfl, HO7.out, HB7.out⟩
  | true =>
    rw [hh] at c7 HIX
    have HIY := Lib.hid (HIX.out 1 rfl)
    clear HIX hb
    go_wp2_with fail
    go_loopw [6, 47] (fun b i wr => ∃ (k : Nat) (au : Option Addr) (m cu : Nat), k ≤ 17 ∧ b = .slice au m cu ∧ i = .int .i64 k ∧ OwnTxt wr w.heap.size (.slice au m cu) ((ts.take k).flatMap putI) ∧ Below w.heap.size w wr) (fun _ i _ => 17 - (intOf i).toNat)
    case atStart => exact ⟨0, none, 0, 0, Nat.zero_le _, rfl, rfl, OwnTxt.nil, HB.out⟩
    case round =>
      obtain ⟨k, au, m, cu, hk, rfl, rfl, ho, hb⟩ := hrel
      have HO := Lib.hid ho
      have HB2 := Lib.hid hb
      clear ho hb
      by_cases hlt : k < 17
      · have hd : decide ((k : Int) < 17) = true := decide_eq_true (by omega)
        have hkl : k < ts.length := by rw [HTL.out]; exact hlt
        have htk : ts.take (k + 1) = ts.take k ++ [ts.getD k 0] := by
          rw [List.take_add_one]; simp [List.getD, hkl]
        have hmem : ts.getD k 0 ∈ ts := by simp [List.getD, hkl]
        have hix := HIY.out k hlt wr
        have hlen : ((ts.take k).flatMap putI).length ≤ 1099511627776 := by
          have := flat_le (ts.take k) (fun x hx => HIN.out x (List.mem_of_mem_take hx))
          have h2 : (ts.take k).length ≤ 17 := by simp; omega
          omega
        have KP := Lib.hid (putint_any HO.out.at hlen (HIN.out _ hmem))
        have HTK := Lib.hid (show (ts.take (k + 1)).flatMap putI = (ts.take k).flatMap putI ++ putI (ts.getD k 0) by rw [htk, List.flatMap_append]; simp)
        clear htk hlen hkl hmem
        generalize ts.getD k 0 = x at *
        go_wp2_with fail
        ((with_reducible refine KP.out.mono ?_))
        rintro e w4 ⟨u4, rfl, ho4, hb4⟩
        obtain ⟨au4, m4, cu4, rfl, hm4⟩ := ho4.slice
        clear hm4
        have HO4 := Lib.hid ho4
        have HB4 := Lib.hid (below_next HB2.out hb4)
        clear ho4 hb4 hix
        go_wp2_with fail
        go_roundw
        case rel => exact ⟨k + 1, au4, m4, cu4, by omega, rfl, by go_num, by rw [HTK.out]; exact HO4.out.base' HB2.out.size, HB4.out⟩
        case measure => simp [intOf]; omega
      · have hd : decide ((k : Int) < 17) = false := decide_eq_false (by omega)
        have HE := Lib.hid (show (ts.take k).flatMap putI = putJ j by rw [List.take_of_length_le (by rw [HTL.out]; omega), HPJ.out])
        have HLJ := Lib.hid (show (putJ j).length ≤ 170 from putJ_len hj)
        have HO2 := Lib.hid (HE.out ▸ HO.out)
        have HT2 := Lib.hid (HT.out.below HB2.out)
        have hnn : n ≤ 1099511627776 := by rw [HN.out]; exact HL.out
        have HNN := Lib.hid hnn
        clear HIY HIN HO hk hlt
        go_upto_region 10 with fail
        obtain ⟨i0, hi, hz0, hz1, hz2⟩ := info_parts info_u8
        obtain ⟨_, _, _, he1, hm⟩ := HO2.out.slice
        cases he1
        have hml : m ≤ 170 := by rw [hm]; exact HLJ.out
        have HM := Lib.hid hm
        clear hm
        have hwr : IntKind.i64.wrap ((n : Int) + (m : Int)) = (n : Int) + (m : Int) := by rw [IntKind.wrap_i64]; omega
        refine wp_region_lit ?_
        refine wpList_yield (w' := wr) (v := .slice ad n c) rfl (by first | (go_simp; done) | (go_simp; rfl)) ?_
        refine wpList_yield (w' := wr) (v := .int .i64 (n : Int)) rfl (by first | (go_simp; done) | (go_simp; rfl)) ?_
        refine wpList_yield (w' := wr) (v := .slice au m cu) rfl (by first | (go_simp; done) | (go_simp; rfl)) ?_
        refine wpList_yield (w' := wr) (v := .int .i64 (m : Int)) rfl (by first | (go_simp; done) | (go_simp; rfl)) ?_
        refine wpList_yield (w' := wr) (v := .int .i64 ((n : Int) + (m : Int))) rfl (by first | (go_simp; done) | (go_simp; rfl)) ?_
        refine wpList_make_own wr rfl _ _ 27 rfl wr.heap.size 5 i0 (.int .u8 0) 1 Tryd.underlying27 hi hz0 hz1 .i64 .i64 ((n : Int) + (m : Int)) (n + m) (by go_simp) (by go_simp) (by omega) (by rw [hz2]; omega) (by unfold maxLen; omega) (Nat.le_refl _) ?_
        intro w5 ho5 hg5
        have hb25 : Below wr.heap.size wr w5 := Below.grown (Below.refl _ _) hg5 (Nat.le_refl _) (fun k hk => by cases hk)
        have HT5 := Lib.hid (HT2.out.below hb25)
        have HB25 := Lib.hid hb25
        have HR5 := Lib.hid (OwnTxt.make ho5)
        clear hb25 ho5 hg5
        refine wpList_yield (w' := w5) (v := .slice ad n c) rfl (by first | (go_simp; done) | (go_simp; rfl)) ?_
        refine wpList_append_txt rfl _ _ rfl wr.heap.size _ [] (by go_simp) HR5.out _ xs (by go_simp) HT5.out (by have := HL.out; simp; omega) HB25.out.size ?_
        intro ad6 n6 c6 w6 ho6 hb6 hg6
        have HB26 := Lib.hid (HB25.out.trans hb6)
        have HO6 := Lib.hid ho6
        have HU6 := Lib.hid (HO2.out.at.below HB26.out)
        clear ho6 hb6 hg6
        refine wpList_yield (w' := w6) (v := .slice au m cu) rfl (by first | (go_simp; done) | (go_simp; rfl)) ?_
        refine wpList_append_txt rfl _ _ rfl wr.heap.size _ xs (by go_simp) HO6.out _ (putJ j) (by go_simp) HU6.out (by have := HL.out; have := HLJ.out; omega) HB26.out.size ?_
        intro ad7 n7 c7' w7 ho7 hb7 hg7
        have HO7 := Lib.hid (ho7.base' HB2.out.size)
        have HB7 := Lib.hid (below_next HB2.out (HB26.out.trans hb7))
        clear ho7 hb7 hg7
        go_wp2
        go_ret
        exact ⟨_, rfl, HO7.out, HB7.out⟩
end Go.Proofs.YtgeldpfojmkdbaaDoor
namespace Go.Proofs.YtgeldpfojmkdbaaDoor
set_option linter.unusedVariables false
open Go Go.RowKit
section
variable {P : Program} {ops : Array Oper} {Q : Exit → Act → World → Prop} {md : Region.Mode} {S : World → Prop} {fuel : Nat} {listed : Array Bool} {a : Act} {w : World}
theorem anyH_call {i : Nat} {oi : Oper} {f : FuncId} {args : Array Value} {R : Ending → World → Prop} (hr : Region.ready md ops listed = [i]) (hi : ops[i]? = some oi) (hw : Region.wanted oi (yielded ops a.tmps) = true)
    (h : (execOp a.eval oi).run P w = .ok (.enter f args) w) (hc : Calls P f args w R) (hR : ∀ e w', R e w' → ∃ v, e = .returned v ∧ S w' ∧ wpAnyH P md ops Q S fuel (listed.setIfInBounds i true) (a.put oi.dst v) w') :
    wpAnyH P md ops Q S (fuel + 1) listed a w := by
  refine wpAnyH_all hr (by simp) fun k hk => ?_
  obtain rfl : k = i := by simpa using hk
  unfold wpOp
  simp only [hi, hw, if_true]
  refine .inl ?_
  unfold Oper.wp
  rw [h]
  exact hc.mono fun e w' hRe => by
    obtain ⟨v, rfl, h⟩ := hR e w' hRe
    exact h
theorem anyH_store {i : Nat} {oi : Oper} {w' : World} (hr : Region.ready md ops listed = [i]) (hi : ops[i]? = some oi) (hw : Region.wanted oi (yielded ops a.tmps) = true)
    (h : (execOp a.eval oi).run P w = .ok .skip w') (hS : S w') (hR : wpAnyH P md ops Q S fuel (listed.setIfInBounds i true) (a.put oi.dst undef) w') :
    wpAnyH P md ops Q S (fuel + 1) listed a w := by
  refine wpAnyH_all hr (by simp) fun k hk => ?_
  obtain rfl : k = i := by simpa using hk
  unfold wpOp
  simp only [hi, hw, if_true]
  refine .inl ?_
  unfold Oper.wp
  rw [h]
  exact ⟨hS, hR⟩
end
end Go.Proofs.YtgeldpfojmkdbaaDoor
