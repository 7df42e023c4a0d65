/- Levels (layer 10): whether two have the same; Forget. Condition: the lengths' bound. -/
import Derived.Test.YthdljigcfhjikaaUsm
import Derived.Test.YthdljigcfhjikaaUsp
namespace Go.Proofs.Ythdljigcfhjikaa
set_option linter.unusedVariables false
open Go.ChangeShapes Go.WideShapes Go.ChangeAt Go.RowKit
attribute [local go_sem ↓] Go.wp_at_zero Go.wp_at_succ comesTo_value_eq comesTo_skip_eq comesTo_enter_eq

theorem take_same {L M : List (Int × Int)} {k : Nat} (hk : k < L.length) (hm : k < M.length) (h : L.take k = M.take k) (e : L.getD k (0, 0) = M.getD k (0, 0)) : L.take (k + 1) = M.take (k + 1) := by
  rw [List.take_add_one (l := L), List.take_add_one (l := M), h, List.getElem?_eq_getElem hk, List.getElem?_eq_getElem hm]
  rw [List.getD_eq_getElem?_getD, List.getD_eq_getElem?_getD, List.getElem?_eq_getElem hk, List.getElem?_eq_getElem hm] at e
  have e' : L[k] = M[k] := e
  rw [e']
set_option maxRecDepth 100000 in
set_option maxHeartbeats 2000000 in
theorem equal_rows {w : World} {g c h d : Nat} {L M : List (Int × Int)} (hL : URow w g L) (hM : URow w h M) (hl : L.length ≤ 1099511627776) (hm : M.length ≤ 1099511627776) :
    Calls Try.prog 69 #[.slice (some ⟨g, 0, none⟩) L.length c, .slice (some ⟨h, 0, none⟩) M.length d] w fun e w' => e = .returned (.bool (decide (L = M))) ∧ Below w.heap.size w w' := by
  have hmx : Try.prog.follows .mixedOrders = true := by kernel_rfl
  by_cases hln : L.length = M.length
  case neg =>
    have E := Lib.hid (show decide (L = M) = false from decide_eq_false fun e => hln (by rw [e]))
    have hd : ((L.length : Int) != (M.length : Int)) = true := by rw [bne_iff_ne]; omega
    go_enter Try.func69, Try.ntmps69
    go_wp2
    go_ret
    exact ⟨by rw [E.out]; rfl, Below.refl _ _⟩
  case pos =>
  have HL := Lib.hid hL
  have HM := Lib.hid hM
  clear hL hM
  obtain ⟨n, hn⟩ : ∃ n, n = L.length := ⟨_, rfl⟩
  have hn2 : n = M.length := by omega
  rw [← hn, ← hn2]
  have HN := Lib.hid (And.intro hn hn2)
  have hnl : n ≤ 1099511627776 := by omega
  clear hn hn2 hln hl hm
  go_enter Try.func69, Try.ntmps69
  go_wp2_with fail
  go_loopw [13] (fun i wr => ∃ k : Nat, k ≤ n ∧ i = .int .i64 k ∧ Below w.heap.size w wr ∧ L.take k = M.take k ∧ URow wr g L ∧ URow wr h M) (fun i _ => n - (intOf i).toNat)
  case atStart => exact ⟨0, Nat.zero_le _, rfl, Below.refl _ _, rfl, HL.out, HM.out⟩
  case round =>
    obtain ⟨k, hk, rfl, hb, ht, hL, hM⟩ := hrel
    have HT := Lib.hid ht
    have HB := Lib.hid hb
    clear ht hb HL HM
    by_cases hlt : k < n
    · have hd : decide (k < n) = true := decide_eq_true hlt
      have hkl : (k : Int) < (n : Int) := by omega
      have hw1 : IntKind.i64.wrap ((k : Int) + 1) = (k : Int) + 1 := by rw [IntKind.wrap_i64]; omega
      have l0 := (hL k (by have := HN.out; omega)).1
      have l1 := (hL k (by have := HN.out; omega)).2
      have m0 := (hM k (by have := HN.out; omega)).1
      have m1 := (hM k (by have := HN.out; omega)).2
      have HL := Lib.hid hL
      have HM := Lib.hid hM
      have HEQ := Lib.hid (show L.getD k (0, 0) = M.getD k (0, 0) ↔ (L.getD k (0, 0)).1 = (M.getD k (0, 0)).1 ∧ (L.getD k (0, 0)).2 = (M.getD k (0, 0)).2 from ⟨fun e => by rw [e]; exact ⟨rfl, rfl⟩, fun ⟨a, b⟩ => Prod.ext a b⟩)
      clear hL hM
      have HX := Lib.hid (fun (e : L.getD k (0, 0) = M.getD k (0, 0)) => take_same (by have := HN.out; omega) (by have := HN.out; omega) HT.out e)
      have HNE := Lib.hid (fun (e : L = M) => show L.getD k (0, 0) = M.getD k (0, 0) by rw [e])
      generalize (L.getD k (0, 0)).1 = a1 at *
      generalize (L.getD k (0, 0)).2 = a2 at *
      generalize (M.getD k (0, 0)).1 = b1 at *
      generalize (M.getD k (0, 0)).2 = b2 at *
      by_cases he1 : a1 = b1
      · by_cases he2 : a2 = b2
        · have hee := HX.out (HEQ.out.2 ⟨he1, he2⟩)
          have HE := Lib.hid hee
          clear hee
          go_upto_region 6 with fail
          go_region
          go_wp2_with fail
          go_roundw
          case rel => exact ⟨k + 1, by omega, by go_num, HB.out.drew, HE.out, fun j hj => HL.out j hj, fun j hj => HM.out j hj⟩
          case measure => simp [intOf]; omega
        · have E := Lib.hid (show decide (L = M) = false from decide_eq_false fun e => he2 (HEQ.out.1 (HNE.out e)).2)
          go_upto_region 6 with fail
          go_region
          go_wp2_with fail
          go_ret
          exact ⟨by rw [E.out]; rfl, HB.out.drew⟩
      · have E := Lib.hid (show decide (L = M) = false from decide_eq_false fun e => he1 (HEQ.out.1 (HNE.out e)).1)
        go_upto_region 6 with fail
        go_region
        go_wp2_with fail
        go_ret
        exact ⟨by rw [E.out]; rfl, HB.out.drew⟩
    · obtain rfl : k = n := by omega
      have E := Lib.hid (show decide (L = M) = true from decide_eq_true (by have h1 := HT.out; have h2 := HN.out; rw [List.take_of_length_le (by omega), List.take_of_length_le (by omega)] at h1; exact h1))
      have hd : decide (k < k) = false := decide_eq_false (by omega)
      go_wp2_with fail
      go_ret
      exact ⟨by rw [E.out]; rfl, HB.out⟩
set_option maxRecDepth 100000 in
set_option maxHeartbeats 2000000 in
theorem same_any {w : World} {S R : Nat} {L M : List (Int × Int)} (h : USt w S L) (k : USt w R M) :
    Calls Try.prog 27 #[.pointer (some ⟨S, 0, none⟩), .pointer (some ⟨R, 0, none⟩)] w fun e w' => e = .returned (.bool (decide (L = M))) ∧ Below w.heap.size w w' := by
  have KL := Lib.hid (list_any h)
  have KM := Lib.hid (fun W (hb : Below w.heap.size w W) => list_any (k.below hb))
  have hl := h.len
  have hm := k.len
  clear h k
  go_enter Try.func27, Try.ntmps27
  go_wp2_with fail
  refine KL.out.mono ?_
  rintro e w1 ⟨g, c, rfl, g1, g2, g3, g4, hb1⟩
  go_wp2_with fail
  refine (KM.out _ hb1).mono ?_
  rintro e w2 ⟨h, d, rfl, h1, h2, h3, h4, hb2⟩
  have KE := Lib.hid (equal_rows (c := c) (d := d) (g4.mono (hb2.block _ g2)) h4 hl hm)
  have HB := Lib.hid (below_next hb1 hb2)
  clear g4 h4 hb1 hb2
  go_wp2_with fail
  refine KE.out.mono ?_
  rintro e w3 ⟨rfl, hb3⟩
  have HB3 := Lib.hid (below_next HB.out hb3)
  clear hb3
  go_wp2_with fail
  go_ret
  exact ⟨rfl, HB3.out⟩
end Go.Proofs.Ythdljigcfhjikaa
