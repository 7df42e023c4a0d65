/- The document's answers of layer 2: a cursor's readings. No condition but the numbers' bounds. -/
import Derived.Test.YtomhfnaekjmjnaaDoorCodRef
namespace Go.Proofs.YtomhfnaekjmjnaaDoor
set_option linter.unusedVariables false
open Go.ChangeShapes Go.WideShapes Go.ChangeAt Go.RowKit Go.Lib
attribute [local go_sem ↓] Go.wp_at_zero Go.wp_at_succ comesTo_value_eq comesTo_skip_eq comesTo_enter_eq

theorem res_cell_tmp {P : Program} {fn : Func} {p t : Tmp} {ty : TypeId} {tmps : Array Value} {w : World} {ad : Addr} {x y : Value} (h : fn.results = #[.cell p ty, .tmp t]) (hp : tmps.getD p undef = .pointer (some ad)) (ht : tmps.getD t undef = y)
    (hl : (loadVar ty ad).run P w = .ok x w) : (results fn tmps).run P w = .ok (.tuple #[x, y]) w := by
  have hp' : tmps[p]?.getD undef = .pointer (some ad) := by simpa using hp
  have ht' : tmps[t]?.getD undef = y := by simpa using ht
  simp [results, h, hp', ht', asAddr, hl]
theorem res_cell {P : Program} {fn : Func} {p : Tmp} {ty : TypeId} {tmps : Array Value} {w : World} {ad : Addr} {x : Value} (h : fn.results = #[.cell p ty]) (hp : tmps.getD p undef = .pointer (some ad))
    (hl : (loadVar ty ad).run P w = .ok x w) : (results fn tmps).run P w = .ok x w := by
  have hp' : tmps[p]?.getD undef = .pointer (some ad) := by simpa using hp
  simp [results, h, hp', asAddr, hl]
theorem str_extract (xs : List Int) (a b : Nat) : (strOfNums xs).extract a b = strOfNums ((xs.drop a).take (b - a)) := by
  apply ByteArray.ext
  simp [strOfNums, ByteArray.data_extract, List.map_drop, List.map_take, List.extract_eq_take_drop]
theorem str_get (xs : List Int) (k : Nat) (hk : k < (strOfNums xs).size) (h : ∀ x ∈ xs, 0 ≤ x ∧ x ≤ 255) : (((strOfNums xs)[k]'hk).toNat : Int) = xs.getD k 0 := by
  have hk' : k < xs.length := by rw [size_str] at hk; exact hk
  have hb := getD_in h k hk'
  have e : (strOfNums xs)[k]'hk = UInt8.ofNat (xs.getD k 0).toNat := by
    show (strOfNums xs).data[k] = _
    simp [strOfNums, List.getD, List.getElem?_eq_getElem hk']
  rw [e]
  generalize xs.getD k 0 = y at *
  rw [UInt8.toNat_ofNat']
  omega
theorem runfold_any {u : Nat} (hu : u < 18446744073709551616) (w : World) : Calls Tryd.prog 68 #[.int .u64 (u : Int)] w fun e w' => e = .returned (.int .i64 (unfoldF u)) ∧ w = w' := by
  by_cases h : u % 2 = 1
  · have hd : ((u : Int) % 2 == 1) = true := by rw [beq_iff_eq]; omega
    go_enter Tryd.func68, Tryd.ntmps68
    go_wp2
    go_ret
    refine ⟨?_, rfl⟩
    have e : unfoldF u = -((u : Int) / 2) - 1 := by unfold unfoldF; rw [if_pos h]; omega
    rw [e]
    rfl
  · have hd : ((u : Int) % 2 == 1) = false := by rw [beq_eq_false_iff_ne]; omega
    go_enter Tryd.func68, Tryd.ntmps68
    go_wp2
    go_ret
    refine ⟨?_, rfl⟩
    have e : unfoldF u = (u : Int) / 2 := by unfold unfoldF; rw [if_neg h]; omega
    rw [e]
    rfl
theorem radd_step {u m k : Nat} (hu : u < 2 ^ (7 * k)) (hk : k ≤ 9) (hm : m ≤ 255) (hA : ¬ (k = 9 ∧ 1 < m)) :
    IntKind.u64.wrap ((u : Int) + IntKind.u64.wrap ((m : Int) % 128 * 2 ^ (7 * k))) = ((u + m % 128 * 2 ^ (7 * k) : Nat) : Int) := by
  have hlt := or_lt hu hk hm hA
  have e : ((m : Int) % 128) * 2 ^ (7 * k) = ((m % 128 * 2 ^ (7 * k) : Nat) : Int) := by
    rw [show (m : Int) % 128 = ((m % 128 : Nat) : Int) by omega]
    simp [Int.natCast_mul, Int.natCast_pow]
  rw [e, IntKind.wrap_u64 ((m % 128 * 2 ^ (7 * k) : Nat) : Int), show ((m % 128 * 2 ^ (7 * k) : Nat) : Int) % 18446744073709551616 = ((m % 128 * 2 ^ (7 * k) : Nat) : Int) by omega, IntKind.wrap_u64]
  omega
theorem rc_load {W : World} {b : Nat} {x y : Value} (h : W.heap[b]? = some (.cells #[x, y] 101 (0, 0))) : (loadVar 101 ⟨b, 0, none⟩).run Tryd.prog W = .ok (.agg #[x, y]) W := by
  have c0 := cell_of_block (o := 0) h rfl
  have c1 := cell_of_block (o := 1) h rfl
  go_simp
/-- a cursor's value -/
def RC (st : CS) : Value := .agg #[.string (strOfNums st.xs), .int .i64 st.bad]
theorem rwrong_any (S : ByteArray) (b e : Int) (w : World) : Calls Tryd.prog 67 #[.agg #[.string S, .int .i64 b], .int .i64 e] w fun r w' => r = .returned (.agg #[.string ⟨#[]⟩, .int .i64 e]) ∧ Below w.heap.size w w' := by
  have hA := below_alloc (below_alloc (Below.refl _ w) (.cells #[.string S, .int .i64 b] 101)) (.cells #[.string .empty, .int .i64 0] 101)
  go_enter Tryd.func67, Tryd.ntmps67
  go_wp2
  exact bodyPost_ret (v := .agg #[.string ⟨#[]⟩, .int .i64 e]) (by simp [results, Tryd.results67, go_sem]) rfl ⟨rfl, (by repeat (first | exact Below.refl _ _ | assumption | refine below_drewN ?_ _ | refine Below.drew ?_ | refine below_alloc ?_ _ | refine Below.alloc ?_ (by first | omega | (simp; done) | (simp; omega)) _ | refine Below.setCell ?_ (Below.size (by assumption)) _ | refine Below.setCell ?_ (by first | omega | (simp; done) | (simp; omega)) _ | (refine Below.trans ?_ (Below.mono (by assumption) (by first | omega | (simp; done) | (simp; omega)))) | refine below_next ?_ (by assumption)))⟩
set_option maxRecDepth 100000 in
set_option maxHeartbeats 4000000 in
theorem rint_any (st : CS) (hx : ∀ x ∈ st.xs, 0 ≤ x ∧ x ≤ 255) (hl : st.xs.length ≤ 1099511627776) (w : World) :
    Calls Tryd.prog 46 #[RC st] w fun e w' => e = .returned (.tuple #[RC (intF st).1, .int .i64 (intF st).2]) ∧ Below w.heap.size w w' := by
  have hmx : Tryd.prog.follows .mixedOrders = true := by kernel_rfl
  obtain ⟨xs, bd⟩ := st
  simp only at hx hl
  have hA := below_alloc (below_alloc (Below.refl _ w) (.cells #[.string (strOfNums xs), .int .i64 bd] 101)) (.cells #[.string ⟨#[]⟩, .int .i64 0] 101)
  have hN2 := World.alloc_heap_new (w.alloc (.cells #[.string (strOfNums xs), .int .i64 bd] 101)) (.cells #[.string ⟨#[]⟩, .int .i64 0] 101)
  have hN1 : ((w.alloc (.cells #[.string (strOfNums xs), .int .i64 bd] 101)).alloc (.cells #[.string ⟨#[]⟩, .int .i64 0] 101)).heap[w.heap.size]? = some (.cells #[.string (strOfNums xs), .int .i64 bd] 101 (0, 0)) :=
    ((below_alloc (Below.refl _ _) _).block _ (by simp)).trans (World.alloc_heap_new w _)
  rw [show (w.alloc (.cells #[.string (strOfNums xs), .int .i64 bd] 101)).heap.size = w.heap.size + 1 by simp] at hN2
  unfold RC
  by_cases h0 : bd = 0
  · subst h0
    unfold intF
    rw [if_pos rfl]
    simp only
    have c0 := cell_of_block (o := 0) hN1 rfl
    have c1 := cell_of_block (o := 1) hN1 rfl
    have r0 := cell_of_block (o := 0) hN2 rfl
    have r1 := cell_of_block (o := 1) hN2 rfl
    have f0 := free_of_block 0 hN2
    have f1 := free_of_block 1 hN2
    have KW := Lib.hid (fun (e : Int) (W : World) => rwrong_any (strOfNums xs) 0 e W)
    have hsz := size_str xs
    have HG := Lib.hid (fun (k : Nat) (hk : k < (strOfNums xs).size) => str_get xs k hk hx)
    have HX := Lib.hid (fun (k : Nat) (hk : k < xs.length) => getD_in hx k hk)
    have HXT := Lib.hid (fun (k : Nat) => show (strOfNums xs).extract k xs.length = strOfNums (xs.drop k) by rw [str_extract, List.take_of_length_le (by simp)])
    have HA := Lib.hid hA
    have HN1 := Lib.hid hN1
    have HN2 := Lib.hid hN2
    generalize hS : strOfNums xs = S at *
    obtain ⟨n, hn⟩ : ∃ n, xs.length = n := ⟨_, rfl⟩
    rw [hn] at hsz HX HXT hl
    have HNn := Lib.hid hn
    clear hA hN1 hN2 hx hS hn
    go_enter Tryd.func46, Tryd.ntmps46
    go_wp2_with fail
    generalize (w.alloc (.cells #[.string S, .int .i64 0] 101)).alloc (.cells #[.string ⟨#[]⟩, .int .i64 0] 101) = W1 at *
    go_loop [4, 5, 6] (fun v i _ => ∃ k u : Nat, k ≤ n ∧ k ≤ 9 ∧ u < 2 ^ (7 * k) ∧ i = .int .i64 k ∧ v = .int .u64 (u : Int) ∧ scan k u (xs.drop k) = scan 0 0 xs) (fun _ i _ => 10 - (intOf i).toNat)
    case atStart => exact ⟨0, 0, Nat.zero_le _, Nat.zero_le _, by decide, rfl, rfl, rfl⟩
    case round =>
      obtain ⟨k, u, hk, hk9, hu, rfl, rfl, hsc⟩ := hrel
      have HS := Lib.hid hsc
      have HU := Lib.hid hu
      have h10 : decide ((k : Int) < 10) = true := decide_eq_true (by omega)
      clear hsc hu
      by_cases hlt : k < n
      · have hd1 : decide ((k : Int) ≥ (n : Int)) = false := decide_eq_false (by omega)
        have hkS : k < S.size := by rw [hsz]; exact hlt
        have hb := HG.out k hkS
        have hxb := HX.out k hlt
        have hdr : xs.drop k = xs.getD k 0 :: xs.drop (k + 1) := by
          have hl : k < xs.length := by have := HNn.out; omega
          rw [List.drop_eq_getElem_cons hl]; simp [List.getD, List.getElem?_eq_getElem hl]
        have HS2 := Lib.hid (hdr ▸ HS.out)
        clear hdr HS
        generalize xs.getD k 0 = x at *
        obtain ⟨m, rfl⟩ : ∃ m : Nat, x = (m : Int) := ⟨x.toNat, by omega⟩
        have hm : m ≤ 255 := by omega
        have hgm : (S[k]'hkS).toNat = m := by omega
        clear hb hxb
        by_cases hA : k = 9 ∧ 1 < m
        · have q1 : ((k : Int) == 9) = true := by rw [beq_iff_eq]; omega
          have q2 : decide ((m : Int) > 1) = true := decide_eq_true (by omega)
          have q3 : 1 < m := hA.2
          have HSC := Lib.hid (show scan 0 0 xs = ([], 11, 0) by rw [← HS2.out]; unfold scan; rw [if_pos ⟨hA.1, by omega⟩])
          clear hA
          go_wp2_with fail
          refine (KW.out 11 W1).mono ?_
          rintro e w2 ⟨rfl, hb⟩
          have HB := Lib.hid (below_next HA.out hb)
          have g2 := (hb.block _ (Array.getElem?_eq_some_iff.1 HN2.out).1).trans HN2.out
          have s0 := cell_of_block (o := 0) g2 rfl
          have s1 := cell_of_block (o := 1) g2 rfl
          have t0 := free_of_block 0 g2
          have t1 := free_of_block 1 g2
          have G2 := Lib.hid g2
          clear hb g2
          go_wp2
          refine bodyPost_ret (v := .tuple #[.agg #[.string ⟨#[]⟩, .int .i64 11], .int .i64 0]) (res_cell_tmp Tryd.results46 rfl rfl (rc_load (((wrote_refl G2.out).set 0 (.string ⟨#[]⟩)).set 1 (.int .i64 11)).there)) rfl ?_; rw [HSC.out]; exact ⟨rfl, (by repeat (first | exact Below.refl _ _ | assumption | refine below_drewN ?_ _ | refine Below.drew ?_ | refine below_alloc ?_ _ | refine Below.alloc ?_ (by first | omega | (simp; done) | (simp; omega)) _ | refine Below.setCell ?_ (Below.size (by assumption)) _ | refine Below.setCell ?_ (by first | omega | (simp; done) | (simp; omega)) _ | (refine Below.trans ?_ (Below.mono (by assumption) (by first | omega | (simp; done) | (simp; omega)))) | refine below_next ?_ (by assumption)))⟩
        · obtain ⟨u2, hu2⟩ : ∃ u2, u2 = u + m % 128 * 2 ^ (7 * k) := ⟨_, rfl⟩
          have hor := radd_step HU.out hk9 hm hA
          rw [← hu2] at hor
          have HOR := Lib.hid hor
          have h64 := or_lt HU.out hk9 hm hA
          rw [← hu2] at h64
          have hcase : (((k : Int) == 9) = true ∧ decide ((m : Int) > 1) = false ∧ ¬ 1 < m) ∨ ((k : Int) == 9) = false := by
            by_cases h9 : k = 9
            · exact .inl ⟨by rw [beq_iff_eq]; omega, decide_eq_false (by omega), by omega⟩
            · exact .inr (by rw [beq_eq_false_iff_ne]; omega)
          have hna : ¬ (k = 9 ∧ 1 < (m : Int)) := by omega
          clear hor
          by_cases h128 : 128 ≤ m
          · have hs : scan (k + 1) u2 (xs.drop (k + 1)) = scan 0 0 xs := by
              rw [← HS2.out]
              conv => rhs; unfold scan
              rw [if_neg hna, if_pos (by omega), show ((m : Int) - 128).toNat = m % 128 by omega, ← hu2]
            have hk8 : k ≤ 8 := by omega
            have hu3 : u2 < 2 ^ (7 * (k + 1)) := by
              have := HU.out
              rw [hu2, show 7 * (k + 1) = 7 + 7 * k by omega, Nat.pow_add]
              have : m % 128 * 2 ^ (7 * k) ≤ 127 * 2 ^ (7 * k) := Nat.mul_le_mul_right _ (by omega)
              omega
            have HS3 := Lib.hid hs
            have HU3 := Lib.hid hu3
            have hl128 : decide ((m : Int) < 128) = false := decide_eq_false (by omega)
            have hnl : ¬ m < 128 := by omega
            clear hs hu3 HS2 HU hu2 hna hA h64
            rcases hcase with ⟨q1, q2⟩ | q1
            · rw [beq_iff_eq] at q1; omega
            · go_wp2_with fail
              go_round
              case rel => exact ⟨k + 1, u2, by omega, by omega, HU3.out, by go_num, by rw [HOR.out], HS3.out⟩
              case measure => simp [intOf]; omega
          · have hl128 : decide ((m : Int) < 128) = true := decide_eq_true (by omega)
            have hnl : m < 128 := by omega
            by_cases hz : 0 < k ∧ m = 0
            · have hkz : decide ((k : Int) > 0) = true := decide_eq_true (by omega)
              have hmz : ((m : Int) == 0) = true := by rw [beq_iff_eq]; omega
              have hk0 : 0 < k := hz.1
              have HSC := Lib.hid (show scan 0 0 xs = ([], 11, 0) by rw [← HS2.out]; unfold scan; rw [if_neg hna, if_neg (by omega), if_pos (by omega)])
              clear HS2 HU hu2 hna hA h128 h64 hz
              rcases hcase with ⟨q1, q2, q3⟩ | q1
              · go_wp2_with fail
                refine (KW.out 11 W1).mono ?_
                rintro e w2 ⟨rfl, hb⟩
                have HB := Lib.hid (below_next HA.out hb)
                have g2 := (hb.block _ (Array.getElem?_eq_some_iff.1 HN2.out).1).trans HN2.out
                have s0 := cell_of_block (o := 0) g2 rfl
                have s1 := cell_of_block (o := 1) g2 rfl
                have t0 := free_of_block 0 g2
                have t1 := free_of_block 1 g2
                have G2 := Lib.hid g2
                clear hb g2
                go_wp2
                refine bodyPost_ret (v := .tuple #[.agg #[.string ⟨#[]⟩, .int .i64 11], .int .i64 0]) (res_cell_tmp Tryd.results46 rfl rfl (rc_load (((wrote_refl G2.out).set 0 (.string ⟨#[]⟩)).set 1 (.int .i64 11)).there)) rfl ?_; rw [HSC.out]; exact ⟨rfl, (by repeat (first | exact Below.refl _ _ | assumption | refine below_drewN ?_ _ | refine Below.drew ?_ | refine below_alloc ?_ _ | refine Below.alloc ?_ (by first | omega | (simp; done) | (simp; omega)) _ | refine Below.setCell ?_ (Below.size (by assumption)) _ | refine Below.setCell ?_ (by first | omega | (simp; done) | (simp; omega)) _ | (refine Below.trans ?_ (Below.mono (by assumption) (by first | omega | (simp; done) | (simp; omega)))) | refine below_next ?_ (by assumption)))⟩
              · go_wp2_with fail
                refine (KW.out 11 W1).mono ?_
                rintro e w2 ⟨rfl, hb⟩
                have HB := Lib.hid (below_next HA.out hb)
                have g2 := (hb.block _ (Array.getElem?_eq_some_iff.1 HN2.out).1).trans HN2.out
                have s0 := cell_of_block (o := 0) g2 rfl
                have s1 := cell_of_block (o := 1) g2 rfl
                have t0 := free_of_block 0 g2
                have t1 := free_of_block 1 g2
                have G2 := Lib.hid g2
                clear hb g2
                go_wp2
                refine bodyPost_ret (v := .tuple #[.agg #[.string ⟨#[]⟩, .int .i64 11], .int .i64 0]) (res_cell_tmp Tryd.results46 rfl rfl (rc_load (((wrote_refl G2.out).set 0 (.string ⟨#[]⟩)).set 1 (.int .i64 11)).there)) rfl ?_; rw [HSC.out]; exact ⟨rfl, (by repeat (first | exact Below.refl _ _ | assumption | refine below_drewN ?_ _ | refine Below.drew ?_ | refine below_alloc ?_ _ | refine Below.alloc ?_ (by first | omega | (simp; done) | (simp; omega)) _ | refine Below.setCell ?_ (Below.size (by assumption)) _ | refine Below.setCell ?_ (by first | omega | (simp; done) | (simp; omega)) _ | (refine Below.trans ?_ (Below.mono (by assumption) (by first | omega | (simp; done) | (simp; omega)))) | refine below_next ?_ (by assumption)))⟩
            · have HSC := Lib.hid (show scan 0 0 xs = (xs.drop (k + 1), 0, unfoldF u2) by
                rw [← HS2.out]; unfold scan; rw [if_neg hna, if_neg (by omega), if_neg (by omega), show ((m : Int)).toNat = m % 128 by omega, ← hu2])
              have hz2 : ((m : Int) == 0) = false ∨ ((m : Int) == 0) = true ∧ decide ((k : Int) > 0) = false ∧ ¬ 0 < k := by
                by_cases h : m = 0
                · exact .inr ⟨by rw [beq_iff_eq]; omega, decide_eq_false (by omega), by omega⟩
                · exact .inl (by rw [beq_eq_false_iff_ne]; omega)
              have KU := Lib.hid (fun W => runfold_any h64 W)
              have hxt := HXT.out (k + 1)
              have hk1 : IntKind.i64.wrap ((k : Int) + 1) = ((k + 1 : Nat) : Int) := by rw [IntWalk.i64_in _ (by omega)]; simp
              have hor := HOR.out
              have hp1 : (0 : Int) ≤ (k : Int) + 1 := by omega
              have hp2 : (k : Int) + 1 ≤ (n : Int) := by omega
              have hc0 : (W1.drew).cell? ⟨w.heap.size, 0, none⟩ = some (.string S) := c0
              clear HS2 HU hu2 hna hA h128
              have g2 : W1.drew.heap[w.heap.size + 1]? = some (.cells #[.string ⟨#[]⟩, .int .i64 0] 101 (0, 0)) := HN2.out
              have s0 := cell_of_block (o := 0) g2 rfl
              have s1 := cell_of_block (o := 1) g2 rfl
              have t0 := free_of_block 0 g2
              have t1 := free_of_block 1 g2
              have G2 := Lib.hid g2
              have HB := Lib.hid HA.out.drew
              clear g2
              rcases hcase with ⟨q1, q2, q3⟩ | q1 <;> rcases hz2 with z1 | ⟨z1, z2, z3⟩ <;> (
              go_wp2_with fail
              refine wp_region_grow_tail 8 (fun w' => w' = W1.drew) hmx (by kernel_rfl) rfl ?_
              iterate 7 (refine textS_run ?_ ?_ (fun W hS => ?_) ?_; rotate_left; (focus go_simp); (focus (subst hS; go_simp; all_goals (first | exact ⟨rfl, rfl⟩ | rfl | (refine ⟨?_, rfl⟩; rfl)))); (try go_simp))
              (refine textS_run ?_ ?_ (fun W hS => ?_) ?_; rotate_left; (focus go_simp); (focus (subst hS; go_simp; refine (KU.out W1.drew).mono ?_; rintro e w1 ⟨rfl, rfl⟩; refine ⟨?_, ?_⟩; (focus rfl); (focus rfl))); (try go_simp))
              refine textS_nil ?_
              go_wp2
              refine bodyPost_ret (v := .tuple #[.agg #[.string (strOfNums (xs.drop (k + 1))), .int .i64 0], .int .i64 (unfoldF u2)]) (res_cell_tmp Tryd.results46 rfl rfl (rc_load (((wrote_refl G2.out).set 0 (.string (strOfNums (xs.drop (k + 1))))).set 1 (.int .i64 0)).there)) rfl ?_
              rw [HSC.out]
              exact ⟨rfl, (by repeat (first | exact Below.refl _ _ | assumption | refine below_drewN ?_ _ | refine Below.drew ?_ | refine below_alloc ?_ _ | refine Below.alloc ?_ (by first | omega | (simp; done) | (simp; omega)) _ | refine Below.setCell ?_ (Below.size (by assumption)) _ | refine Below.setCell ?_ (by first | omega | (simp; done) | (simp; omega)) _ | (refine Below.trans ?_ (Below.mono (by assumption) (by first | omega | (simp; done) | (simp; omega)))) | refine below_next ?_ (by assumption)))⟩)
      · obtain rfl : k = n := by omega
        have hd1 : decide ((k : Int) ≥ (k : Int)) = true := decide_eq_true (by omega)
        have HSC := Lib.hid (show scan 0 0 xs = ([], 10, 0) by
          rw [← HS.out, List.drop_eq_nil_of_le (by have := HNn.out; omega)]
          cases k <;> rfl)
        clear hlt
        go_wp2_with fail
        refine (KW.out 10 W1).mono ?_
        rintro e w2 ⟨rfl, hb⟩
        have HB := Lib.hid (below_next HA.out hb)
        have g2 := (hb.block _ (Array.getElem?_eq_some_iff.1 HN2.out).1).trans HN2.out
        have s0 := cell_of_block (o := 0) g2 rfl
        have s1 := cell_of_block (o := 1) g2 rfl
        have t0 := free_of_block 0 g2
        have t1 := free_of_block 1 g2
        have G2 := Lib.hid g2
        clear hb g2
        go_wp2
        refine bodyPost_ret (v := .tuple #[.agg #[.string ⟨#[]⟩, .int .i64 10], .int .i64 0]) (res_cell_tmp Tryd.results46 rfl rfl (rc_load (((wrote_refl G2.out).set 0 (.string ⟨#[]⟩)).set 1 (.int .i64 10)).there)) rfl ?_; rw [HSC.out]; exact ⟨rfl, (by repeat (first | exact Below.refl _ _ | assumption | refine below_drewN ?_ _ | refine Below.drew ?_ | refine below_alloc ?_ _ | refine Below.alloc ?_ (by first | omega | (simp; done) | (simp; omega)) _ | refine Below.setCell ?_ (Below.size (by assumption)) _ | refine Below.setCell ?_ (by first | omega | (simp; done) | (simp; omega)) _ | (refine Below.trans ?_ (Below.mono (by assumption) (by first | omega | (simp; done) | (simp; omega)))) | refine below_next ?_ (by assumption)))⟩
  · have hq : (bd != 0) = true := by simp [h0]
    unfold intF
    rw [if_neg h0]
    simp only
    have HA := Lib.hid hA
    clear hA hN1 hN2
    go_enter Tryd.func46, Tryd.ntmps46
    go_wp2
    exact bodyPost_ret (v := .tuple #[.agg #[.string (strOfNums xs), .int .i64 bd], .int .i64 0]) (by simp [results, Tryd.results46, go_sem]) rfl ⟨rfl, (by repeat (first | exact Below.refl _ _ | assumption | refine below_drewN ?_ _ | refine Below.drew ?_ | refine below_alloc ?_ _ | refine Below.alloc ?_ (by first | omega | (simp; done) | (simp; omega)) _ | refine Below.setCell ?_ (Below.size (by assumption)) _ | refine Below.setCell ?_ (by first | omega | (simp; done) | (simp; omega)) _ | (refine Below.trans ?_ (Below.mono (by assumption) (by first | omega | (simp; done) | (simp; omega)))) | refine below_next ?_ (by assumption)))⟩
end Go.Proofs.YtomhfnaekjmjnaaDoor
