/- Texts and lists of numbers laid behind bytes. No condition but the lengths' bound. -/
import Derived.Test.YtnlfighfkmlmaaaDoorCurL
import Derived.Lib.AppendStr
namespace Go.Proofs.YtnlfighfkmlmaaaDoor
set_option linter.unusedVariables false
open Go.ChangeShapes Go.WideShapes Go.ChangeAt Go.RowKit Go.Lib
attribute [local go_sem ↓] Go.wp_at_zero Go.wp_at_succ comesTo_value_eq comesTo_skip_eq comesTo_enter_eq

set_option maxRecDepth 100000 in
theorem layInt_any {w : World} {B : Nat} {v : Value} {xs : List Int} (h : OwnTxt w B v xs) (hB : B ≤ w.heap.size) (hl : xs.length ≤ 1099511627776) {n : Int} (hn : -9223372036854775808 ≤ n ∧ n ≤ 9223372036854775807) :
    Calls Tryd.prog 50 #[v, .int .i64 n] w fun e w' => ∃ u, e = .returned u ∧ OwnTxt w' B u (xs ++ putI n) ∧ Below B w w' := by
  have K := Lib.hid (fold_any hn w)
  have h64 := fold_lt hn
  have hlen := putI_len hn
  have HO := Lib.hid h
  clear h
  unfold putI at *
  generalize foldF n = u0 at *
  go_enter Tryd.func50, Tryd.ntmps50
  go_wp2_with fail
  refine K.out.mono ?_
  rintro e w' ⟨rfl, rfl⟩
  have HL := Lib.hid hlen
  clear hlen
  go_wp2_with fail
  go_loopw [0, 5] (fun b r wr => ∃ (v' : Value) (acc : List Int) (u : Nat), b = v' ∧ r = .int .u64 (u : Int) ∧ u < 18446744073709551616 ∧ acc ++ putU u = putU u0 ∧ OwnTxt wr B v' (xs ++ acc) ∧ Below B w wr) (fun _ r _ => (intOf r).toNat)
  case atStart => exact ⟨v, [], u0, rfl, rfl, h64, rfl, by rw [List.append_nil]; exact HO.out, Below.refl _ _⟩
  case round =>
    clear HO
    obtain ⟨v', acc, u, rfl, rfl, hu, hacc, ho, hb⟩ := hrel
    have HA := Lib.hid hacc
    have HB := Lib.hid hb
    have hal : acc.length + (putU u).length ≤ 10 := by
      have := HL.out
      rw [← hacc, List.length_append] at this
      exact this
    clear hacc hb
    by_cases h128 : u < 128
    · have hq : decide ((u : Int) ≥ 128) = false := decide_eq_false (by omega)
      have hw : IntKind.u8.wrap (u : Int) = (u : Int) := by rw [IntKind.wrap_u8']; omega
      have hA1 := below_alloc (Below.refl _ wr) (.cells #[.int .u8 (u : Int)] 5)
      have HO1 := Lib.hid (ho.below hA1)
      have HT1 := Lib.hid (byte_txt (World.alloc_heap_new wr (.cells #[.int .u8 (u : Int)] 5)) (by omega))
      have HA1 := Lib.hid hA1
      rw [putU_lt h128] at HA
      have h9 : (xs ++ acc).length + 1 ≤ 140737488355328 := by
        have := putU_len u
        simp; omega
      have hBA : B ≤ (wr.alloc (.cells #[.int .u8 (u : Int)] 5)).heap.size := Nat.le_trans hB (Nat.le_trans HB.out.size HA1.out.size)
      have HF := Lib.hid (HB.out.trans (HA1.out.mono (Nat.le_trans hB HB.out.size)))
      clear ho hA1 hal h128
      go_wp2_with (at_builtin; go_loud (refine wpList_append_txt (by rfl) _ _ (by rfl) B u0 (xs ++ acc) (by rfl) HO1.out _ [(u : Int)] (by rfl) HT1.out (by simpa using h9) hBA ?_; intro ad n' c' w1 o1 b1 g1; have O1 := Lib.hid o1; have B1 := Lib.hid b1; clear o1 b1 g1))
      go_ret
      refine ⟨_, rfl, ?_, HF.out.trans B1.out⟩
      rw [← HA.out, ← List.append_assoc]
      exact O1.out
    · have hq : decide ((u : Int) ≥ 128) = true := decide_eq_true (by omega)
      have hor := or_more u
      have hA1 := below_alloc (Below.refl _ wr) (.cells #[.int .u8 ((u % 128 + 128 : Nat) : Int)] 5)
      have HO1 := Lib.hid (ho.below hA1)
      have HT1 := Lib.hid (byte_txt (World.alloc_heap_new wr (.cells #[.int .u8 ((u % 128 + 128 : Nat) : Int)] 5)) (by omega))
      have HA1 := Lib.hid hA1
      rw [putU_ge h128] at HA
      have h9 : (xs ++ acc).length + 1 ≤ 140737488355328 := by simp; omega
      have hBA : B ≤ (wr.alloc (.cells #[.int .u8 ((u % 128 + 128 : Nat) : Int)] 5)).heap.size := Nat.le_trans hB (Nat.le_trans HB.out.size HA1.out.size)
      have HF := Lib.hid (HB.out.trans (HA1.out.mono (Nat.le_trans hB HB.out.size)))
      have HM := Lib.hid (show u / 128 < u ∧ u / 128 < 18446744073709551616 by omega)
      generalize u % 128 + 128 = y at *
      clear ho hA1 hal h128
      go_wp2_with (at_builtin; go_loud (refine wpList_append_txt (by rfl) _ _ (by rfl) B u0 (xs ++ acc) (by rfl) HO1.out _ [(y : Int)] (by rfl) HT1.out (by simpa using h9) hBA ?_; intro ad n' c' w1 o1 b1 g1; have O1 := Lib.hid o1; have B1 := Lib.hid b1; clear o1 b1 g1))
      go_roundw
      case rel => exact ⟨_, acc ++ [(y : Int)], u / 128, rfl, by rw [Int.natCast_ediv]; rfl, HM.out.2, by rw [List.append_assoc]; exact HA.out, by rw [← List.append_assoc]; exact O1.out, HF.out.trans B1.out⟩
      case measure => have := HM.out.1; simp [intOf]; omega

theorem strCells_bytes (s : ByteArray) : strCells s = cellsOf8 (bytesOf s) := by
  unfold strCells cellsOf8 bytesOf
  simp
theorem bytesOf_in (s : ByteArray) : ∀ x ∈ bytesOf s, 0 ≤ x ∧ x ≤ 255 := by
  intro x hx
  obtain ⟨y, _, rfl⟩ := List.mem_map.1 hx
  have := y.toNat_lt
  omega
theorem getD_in {xs : List Int} (h : ∀ x ∈ xs, 0 ≤ x ∧ x ≤ 255) (k : Nat) (hk : k < xs.length) : 0 ≤ xs.getD k 0 ∧ xs.getD k 0 ≤ 255 := by
  have := h _ (List.getElem_mem hk)
  simpa [List.getD, List.getElem?_eq_getElem hk] using this
theorem OwnTxt.mem {w : World} {B : Nat} {v : Value} {xs : List Int} (h : OwnTxt w B v xs) : ∀ x ∈ xs, 0 ≤ x ∧ x ≤ 255 := by
  intro x hx
  obtain ⟨k, hk, rfl⟩ := List.mem_iff_getElem.1 hx
  have h1 := h.lo k hk
  have h2 := h.hi k hk
  simp [List.getD, List.getElem?_eq_getElem hk] at h1 h2
  exact ⟨h1, h2⟩
/-- a text behind bytes -/
theorem puttext_any {w : World} {v : Value} {xs : List Int} (h : TxtAt w v xs) (hl : xs.length ≤ 1099511627776) (s : ByteArray) (hs : s.size ≤ 1099511627776) :
    Calls Tryd.prog 15 #[v, .string s] w fun e w' => ∃ u, e = .returned u ∧ OwnTxt w' w.heap.size u (xs ++ putT (bytesOf s)) ∧ Below w.heap.size w w' := by
  have K := Lib.hid (clone_bytes h (by omega))
  clear h
  obtain ⟨i0, hi, hz0, hz1, hz2⟩ := info_parts info_u8
  have HI := Lib.hid hi
  clear hi
  go_enter Tryd.func15, Tryd.ntmps15
  go_wp2_with fail
  refine K.out.mono ?_
  rintro e w1 ⟨u, rfl, ho, hb, _⟩
  have KL := Lib.hid (layInt_any (n := (s.size : Int)) ho hb.size hl (by omega))
  have HB := Lib.hid hb
  clear ho hb K
  go_wp2_with fail
  refine KL.out.mono ?_
  rintro e w2 ⟨u2, rfl, ho2, hb2⟩
  have HO2 := Lib.hid ho2
  have HB2 := Lib.hid (HB.out.trans hb2)
  have hlen := putI_len (v := (s.size : Int)) (by omega)
  have h63 : (xs ++ putI s.size).length + s.size ≤ 140737488355328 := by simp; omega
  have h64 : (xs ++ putI s.size).length + s.size ≤ maxLen := by unfold maxLen; omega
  have hsz := hb2.size
  have hsz2 := HB.out.size
  have hby : ∀ x ∈ (xs ++ putI s.size) ++ bytesOf s, 0 ≤ x ∧ x ≤ 255 := fun x hx => by
    rcases List.mem_append.1 hx with hx | hx
    · exact ho2.mem x hx
    · exact bytesOf_in s x hx
  have HBY := Lib.hid hby
  clear ho2 hb2 hlen hby
  go_wp2_with (at_builtin; go_loud (refine Lib.wpList_append_own_string _ (by rfl) _ _ 22 9 (by rfl) w.heap.size 5 i0 Tryd.underlying22 Tryd.underlying9 HI.out hz0 hz1 hz2 u2 _ _ (by rfl) HO2.out.own s (by rfl) h64 h63 (by omega) ?_; intro v5 w5 o5 b5 _; have O5 := Lib.hid o5; have B5 := Lib.hid b5; clear o5 b5))
  go_ret
  have e : xs ++ putT (bytesOf s) = xs ++ putI s.size ++ bytesOf s := by unfold putT; rw [bytesOf_length, List.append_assoc]
  rw [e]
  refine ⟨_, rfl, ⟨?_, fun k hk => (getD_in HBY.out k hk).1, fun k hk => (getD_in HBY.out k hk).2⟩, HB2.out.trans (Below.grown (Below.refl _ _) B5.out (by have := hsz; have := hsz2; omega) fun k hk => HO2.out.blockGe hk)⟩
  have o := O5.out
  rw [strCells_bytes, ← cellsOf8_append] at o
  have el : (xs ++ putI s.size ++ bytesOf s).length = (xs ++ putI s.size).length + s.size := by simp [bytesOf_length, Nat.add_assoc]
  rw [el]
  exact o
theorem flat_len : ∀ (m : List Int), (∀ x ∈ m, -9223372036854775808 ≤ x ∧ x ≤ 9223372036854775807) → (m.flatMap putI).length ≤ 10 * m.length
  | [], _ => by simp
  | x :: m, hm => by
    have h1 := flat_len m fun y hy => hm y (List.mem_cons_of_mem _ hy)
    have h2 := putI_len (hm x List.mem_cons_self)
    simp only [List.flatMap_cons, List.length_append, List.length_cons]
    omega
set_option maxRecDepth 100000 in
/-- numbers behind bytes -/
theorem putints_any {w : World} {v : Value} {xs : List Int} (h : TxtAt w v xs) (hl : xs.length ≤ 1099511627) {la : Option Addr} {ll lc : Nat} {l : List Int} (hL : ReadsL w (.slice la ll lc) l) (hln : l.length = ll) (hll : ll ≤ 1099511627) (hin : ∀ x ∈ l, -9223372036854775808 ≤ x ∧ x ≤ 9223372036854775807) :
    Calls Tryd.prog 17 #[v, .slice la ll lc] w fun e w' => ∃ u, e = .returned u ∧ OwnTxt w' w.heap.size u (xs ++ putL l) ∧ Below w.heap.size w w' := by
  have K := Lib.hid (clone_bytes h (by omega))
  have HL := Lib.hid hL
  have HLN := Lib.hid hln
  have HIN := Lib.hid hin
  clear h hL hln hin
  have hlen := putI_len (v := (ll : Int)) (by omega)
  go_enter Tryd.func17, Tryd.ntmps17
  go_wp2_with fail
  refine K.out.mono ?_
  rintro e w1 ⟨u, rfl, ho, hb, _⟩
  have KL := Lib.hid (layInt_any (n := (ll : Int)) ho hb.size (by omega) (by omega))
  have HB := Lib.hid hb
  clear ho hb K
  go_wp2_with fail
  refine KL.out.mono ?_
  rintro e w2 ⟨u2, rfl, ho2, hb2⟩
  have HO2 := Lib.hid ho2
  have HB2 := Lib.hid (HB.out.trans hb2)
  clear ho2 hb2 KL
  go_wp2_with fail
  go_loopw [0, 14] (fun b i wr => ∃ (k : Nat) (v' : Value), k ≤ ll ∧ b = v' ∧ i = .int .i64 k ∧ OwnTxt wr w.heap.size v' (xs ++ putI ll ++ (l.take k).flatMap putI) ∧ Below w.heap.size w wr) (fun _ i _ => ll - (intOf i).toNat)
  case atStart => exact ⟨0, _, Nat.zero_le _, rfl, rfl, by simpa using HO2.out, HB2.out⟩
  case round =>
    clear HO2 HB2
    obtain ⟨k, v', hk, rfl, rfl, ho, hb⟩ := hrel
    have HO := Lib.hid ho
    have HBB := Lib.hid hb
    clear ho hb
    by_cases hlt : k < ll
    · have hd1 : decide ((k : Int) < (ll : Int)) = true := decide_eq_true (by omega)
      obtain ⟨g, o, rfl, hc⟩ : ∃ g o, la = some ⟨g, o, none⟩ ∧ wr.cell? ⟨g, o + k, none⟩ = some (.int .i64 (l.getD k 0)) := by
        have hL := HL.out.below HBB.out
        have hln := HLN.out
        rcases hL with ⟨rfl, _⟩ | ⟨_, _, g, o, c, e, _, hc⟩
        · simp at hln; omega
        · cases e; exact ⟨g, o, rfl, hc k (by omega)⟩
      have hxm : l.getD k 0 ∈ l := by
        have hk' : k < l.length := by have := HLN.out; omega
        simp [List.getD, List.getElem?_eq_getElem hk']
      have htk : (l.take (k + 1)).flatMap putI = (l.take k).flatMap putI ++ putI (l.getD k 0) := by
        have hk' : k < l.length := by have := HLN.out; omega
        rw [List.take_succ_eq_append_getElem hk', List.flatMap_append]
        simp [List.getD, List.getElem?_eq_getElem hk']
      have hfl : ((l.take k).flatMap putI).length ≤ 10 * k := by
        have := flat_len (l.take k) fun x hx => HIN.out x (List.mem_of_mem_take hx)
        rw [List.length_take] at this
        have h9 := HLN.out
        omega
      have KI := Lib.hid (lay64_any (n := l.getD k 0) HO.out HBB.out.size (by simp only [List.length_append]; omega) (HIN.out _ hxm))
      have HTK := Lib.hid htk
      generalize l.getD k 0 = x at *
      clear htk hfl hxm
      go_wp2_with fail
      refine KI.out.mono ?_
      rintro e w3 ⟨u3, rfl, ho3, hb3⟩
      have HO3 := Lib.hid ho3
      have HB3 := Lib.hid (HBB.out.trans hb3)
      clear ho3 hb3 KI
      go_wp2
      go_roundw
      case rel => exact ⟨k + 1, _, by omega, rfl, by go_num, by rw [HTK.out, ← List.append_assoc]; exact HO3.out, HB3.out⟩
      case measure => simp [intOf]; omega
    · have hd1 : decide ((k : Int) < (ll : Int)) = false := decide_eq_false (by omega)
      obtain rfl : k = ll := by omega
      have ht : l.take k = l := List.take_of_length_le (by have := HLN.out; omega)
      have HT := Lib.hid ht
      clear ht
      go_wp2
      go_ret
      refine ⟨_, rfl, ?_, HBB.out⟩
      have := HO.out
      rw [HT.out] at this
      unfold putL
      rw [HLN.out, ← List.append_assoc]
      exact this
end Go.Proofs.YtnlfighfkmlmaaaDoor
