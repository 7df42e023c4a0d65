/- The document's Due (layer 17). No condition but the length. -/
import Derived.Test.YtfakejfpicjedaaTmT
namespace Go.Proofs.Ytfakejfpicjedaa
set_option linter.unusedVariables false
open Go.ChangeShapes Go.WideShapes Go.ChangeAt Go.RowKit Tm
attribute [local go_sem ↓] Go.wp_at_zero Go.wp_at_succ comesTo_value_eq comesTo_skip_eq comesTo_enter_eq

/-- what a row is cut into, read -/
theorem RC.cut {w : World} {g o n cap k : Nat} {L : List AL} (h : RCat w g o L) (hn : n = L.length) (hc : n ≤ cap) (hm : cap ≤ maxLen) (hk : k ≤ n) :
    RC w (.slice (some ⟨g, o, none⟩) k cap) (L.take k) ∧ (cap = k → RC w (.slice (some ⟨g, o, none⟩) 0 0) (L.drop k)) ∧ (¬ cap = k → RC w (.slice (some ⟨g, o + k * 2, none⟩) (n - k) (cap - k)) (L.drop k)) := by
  have hl1 : k = (L.take k).length := by rw [List.length_take]; omega
  have hl2 : n - k = (L.drop k).length := by rw [List.length_drop, hn]
  refine ⟨.inr ⟨g, o, cap, by rw [← hl1], by omega, hm, h.take (by omega)⟩, ?_⟩
  refine ⟨fun hck => ?_, fun hck => .inr ⟨g, o + k * 2, cap - k, by rw [← hl2], by omega, by omega, h.drop k⟩⟩
  have h0 : L.drop k = [] := List.eq_nil_of_length_eq_zero (by rw [← hl2]; omega)
  rw [h0]
  refine .inr ⟨g, o, 0, rfl, Nat.le_refl _, Nat.zero_le _, h.lt, fun j hj => ?_⟩
  exact absurd hj (Nat.not_lt_zero _)
set_option maxRecDepth 100000 in
set_option maxHeartbeats 4000000 in
theorem rdue {w : World} {v : Value} {L : List AL} (h : RC w v L) (hl : L.length ≤ 4096) (t : Int) :
    Calls Try.prog 13 #[v, .int .i64 t] w fun e w' => ∃ u1 u2, e = .returned (.tuple #[u1, u2]) ∧ RC w' u1 (restR L t) ∧ RC w' u2 (dueR L t) ∧ Below w.heap.size w w' ∧ (∀ g, u1.ownBlock = some g → v.ownBlock = some g) ∧ (∀ g, u2.ownBlock = some g → v.ownBlock = some g) := by
  rcases h with ⟨rfl, rfl⟩ | ⟨g, off, cap, rfl, hc, hm, hR⟩
  · clear hl
    go_enter Try.func13, Try.ntmps13
    go_wp2_with fail
    go_loopw [6] (fun i wr => i = .int .i64 0 ∧ wr = w) (fun _ _ => 0)
    case atStart => exact ⟨rfl, rfl⟩
    case round =>
      obtain ⟨rfl, rfl⟩ := hrel
      go_upto_region 4 with fail
      go_quiet (fail)
      have HBq := Lib.hid (below_drewN (Below.refl wr.heap.size wr) nq)
      go_wp2_with fail
      all_goals (
        go_ret2
        exact ⟨.slice none 0 0, .slice none 0 0, rfl, .inl ⟨rfl, rfl⟩, .inl ⟨rfl, rfl⟩, HBq.out, (fun g h => h), fun g h => h⟩)
  · have HRR := Lib.hid hR
    have HC := Lib.hid (And.intro hc (And.intro hm hl))
    obtain ⟨n, hn⟩ : ∃ n, n = L.length := ⟨_, rfl⟩
    rw [← hn] at HC ⊢
    have HN := Lib.hid hn
    clear hc hm hl hR hn
    go_enter Try.func13, Try.ntmps13
    go_wp2_with fail
    go_loopw [6] (fun i wr => ∃ k : Nat, k ≤ n ∧ i = .int .i64 (k : Int) ∧ wr = w ∧ ∀ j, j < k → (gA L j).1 ≤ t) (fun i _ => n - (intOf i).toNat)
    case atStart => exact ⟨0, Nat.zero_le _, rfl, rfl, fun j hj => absurd hj (Nat.not_lt_zero _)⟩
    case round =>
      obtain ⟨k, hk, rfl, rfl, hall⟩ := hrel
      have HALL := Lib.hid hall
      clear hall
      have hs1 : (k : Int) ≤ (cap : Int) := by have := HC.out.1; omega
      have hs2 : (k : Int) ≤ (n : Int) := by omega
      have hnc : n ≤ cap := HC.out.1
      have HCUT := Lib.hid (RC.cut HRR.out HN.out hnc HC.out.2.1 hk)
      by_cases hlt : k < n
      case pos =>
        obtain ⟨y0, y1⟩ := HRR.out.cells k (by rw [← HN.out]; exact hlt)
        have hkI : (k : Int) < (n : Int) := by omega
        have hw1 : IntKind.i64.wrap ((k : Int) + 1) = (k : Int) + 1 := by have := HC.out; rw [IntKind.wrap_i64]; omega
        by_cases hd : (gA L k).1 ≤ t
        case pos =>
          have HALL2 := Lib.hid (show ∀ j, j < k + 1 → (gA L j).1 ≤ t from fun j hj => by
            rcases Nat.lt_or_ge j k with h | h
            · exact HALL.out j h
            · rw [show j = k by omega]; exact hd)
          generalize (gA L k).1 = y at *
          have HKK := Lib.hid hlt
          clear hlt hk
          go_wp2_with fail
          go_roundw
          case rel => exact ⟨k + 1, by have := HKK.out; omega, by go_num, trivial, HALL2.out⟩
          case measure => have := HKK.out; simp [intOf]; omega
        case neg =>
          have HDU := Lib.hid (due_at L t k (by rw [← HN.out]; exact hk) HALL.out (fun _ => hd))
          generalize (gA L k).1 = y at *
          have hck : ¬ cap = k := by omega
          go_upto_region 4 with fail
          clear y0 y1
          go_quiet (fail)
          have HBq := Lib.hid (below_drewN (Below.refl wr.heap.size wr) nq)
          have HRq := Lib.hid (And.intro (HCUT.out.1.below HBq.out) ((HCUT.out.2.2 hck).below HBq.out))
          go_wp2_with fail
          go_ret2
          refine ⟨.slice (some ⟨g, off + k * 2, none⟩) (n - k) (cap - k), .slice (some ⟨g, off, none⟩) k cap, rfl, ?_, ?_, HBq.out, (fun b hb => hb), fun b hb => hb⟩
          · rw [HDU.out.2]; exact HRq.out.2
          · rw [HDU.out.1]; exact HRq.out.1
      case neg =>
        have HDU := Lib.hid (due_at L t k (by rw [← HN.out]; exact hk) HALL.out (fun h => absurd h (by rw [← HN.out]; exact hlt)))
        have hkI : ¬ (k : Int) < (n : Int) := by omega
        by_cases hck : cap = k
        · have hc3 := HCUT.out.2.1 hck
          have hc1 := HCUT.out.1
          subst hck
          have HCC := Lib.hid (And.intro hc1 hc3)
          clear hc1 hc3
          go_upto_region 4 with fail
          go_quiet (fail)
          have HBq := Lib.hid (below_drewN (Below.refl wr.heap.size wr) nq)
          have HRq := Lib.hid (And.intro (HCC.out.1.below HBq.out) (HCC.out.2.below HBq.out))
          go_wp2_with fail
          go_ret2
          refine ⟨.slice (some ⟨g, off, none⟩) 0 0, .slice (some ⟨g, off, none⟩) cap cap, rfl, ?_, ?_, HBq.out, (fun b hb => hb), fun b hb => hb⟩
          · rw [HDU.out.2]; exact HRq.out.2
          · rw [HDU.out.1]; exact HRq.out.1
        · have HCC := Lib.hid (And.intro HCUT.out.1 (HCUT.out.2.2 hck))
          go_upto_region 4 with fail
          go_quiet (fail)
          have HBq := Lib.hid (below_drewN (Below.refl wr.heap.size wr) nq)
          have HRq := Lib.hid (And.intro (HCC.out.1.below HBq.out) (HCC.out.2.below HBq.out))
          go_wp2_with fail
          go_ret2
          refine ⟨.slice (some ⟨g, off + k * 2, none⟩) (n - k) (cap - k), .slice (some ⟨g, off, none⟩) k cap, rfl, ?_, ?_, HBq.out, (fun b hb => hb), fun b hb => hb⟩
          · rw [HDU.out.2]; exact HRq.out.2
          · rw [HDU.out.1]; exact HRq.out.1
end Go.Proofs.Ytfakejfpicjedaa
