/- PickChooses walked. Condition: math/bits' table of trailing zeros lies as its text lays it. -/
import Derived.Test.YtkllhnfnkgkelaaDoorPickRef
import Derived.Test.YtkllhnfnkgkelaaDoorPickN
namespace Go.Proofs.YtkllhnfnkgkelaaDoor
set_option linter.unusedVariables false
open Go.ChangeShapes Go.WideShapes Go.ChangeAt Go.RowKit Go.Shelf
attribute [local go_sem ↓] Go.wp_at_zero Go.wp_at_succ

theorem sets_open2 {H : Type} {enc : TypeId × Value → H} {W : World} {a : Option Addr} {len cap : Nat} {d : DataW H} {p : List MemPlace}
    (h : DataW.Trod enc Tryd.prog W 0 (fun _ => true) true 47 (.slice a len cap) d p) : ∃ zs : List NSet, SetsAt W a len cap zs ∧ len ≤ cap := by
  obtain ⟨zs, hz⟩ := sets_open h
  refine ⟨zs, hz, ?_⟩
  obtain ⟨fuel, hf⟩ := h
  rcases open_ints Tryd.underlying47 Tryd.underlying23 (by kernel_rfl) hf with ⟨hcs, _⟩ | ⟨x, l, c, zs, hcs, _, hl, _⟩
  · simp [Value.cells] at hcs
    obtain ⟨rfl, rfl, rfl⟩ := hcs
    exact Nat.le_refl _
  · simp [Value.cells] at hcs
    obtain ⟨rfl, rfl, rfl⟩ := hcs
    exact hl
set_option maxRecDepth 100000 in
set_option maxHeartbeats 4000000 in
theorem chooses_short (may : NSet) (m : Int) (a : Option Addr) (len cap : Nat) (zs : List NSet) (w : World) (hT : TabZ w) (hS : SetsAt w a len cap zs) (hcap : len ≤ cap) (hlen : len ≤ 6) :
    Calls Tryd.prog 8 #[.int .u64 (nv may), .int .i64 m, .slice a len cap] w fun e w' => e = .returned (.bool true) ∧ Below w.heap.size w w' := by
  have hlb : decide ((6 : Int) < (len : Int)) = false := by simp; omega
  have HZ := Lib.hid hS.same
  have hl6 : zs.length ≤ 6 := by have := hS.same; omega
  have HT := Lib.hid hT
  clear hT
  go_enter Tryd.func8, Tryd.ntmps8
  go_wp2_with fail
  go_loopw [7, 8] (fun r i wr => ∃ (k : Nat) (u : Value), k ≤ len ∧ i = .int .i64 k ∧ r = u ∧ OwnU wr w.heap.size u ((zs.take k).map nv) ∧ Below w.heap.size w wr) (fun _ i _ => len - (intOf i).toNat)
  case atStart => exact ⟨0, _, Nat.zero_le _, rfl, rfl, OwnU.nil, Below.refl _ _⟩
  case round =>
    obtain ⟨k, u, hk, rfl, rfl, hO, hB⟩ := hrel
    by_cases hlt : k < len
    · obtain ⟨b, off, rfl, hc⟩ := (hS.below hB).cell (by omega)
      have hcell := hc k hlt
      have hkl : k < zs.length := by have := HZ.out; omega
      have HE := Lib.hid (show (zs.take (k + 1)).map nv = (zs.take k).map nv ++ [nv (zs.getD k 0#64)] by
        rw [List.take_succ_eq_append_getElem hkl, List.map_append]; simp [List.getD, hkl])
      have hlen2 : ((zs.take k).map nv).length ≤ 6 := by rw [List.length_map, List.length_take]; omega
      have hlt' : (k : Int) < (len : Int) := by omega
      clear hc
      generalize zs.getD k 0#64 = p at *
      go_wp2_with (at_builtin; refine wpList_append_u64 48 Tryd.underlying48 rfl _ _ rfl w.heap.size _ _ rfl (hO.below (below_alloc (Below.refl _ wr) _)) wr.heap.size 1 (nv p) rfl (by simp) (by omega) (by simp; have := hB.size; omega) ?_; intro v' w' hO' hB')
      go_roundw
      case rel => exact ⟨k + 1, _, by omega, by go_num, rfl, by rw [HE.out]; exact hO', hB.trans ((Below.alloc (Below.refl _ _) hB.size _).trans hB')⟩
      case measure => simp [intOf]; omega
    · obtain rfl : k = len := by omega
      have hO2 := hO
      rw [show zs.take k = zs by rw [← HZ.out, List.take_length]] at hO2
      obtain ⟨au, cu, hu⟩ := hO2.form
      rw [List.length_map, HZ.out] at hu
      subst hu
      have hR := hO2.ints
      have hSr := hS.below hB
      have hTr := HT.out.below hB
      have K1 := Lib.hid (fun W h => pone_yes W (HT.out.below h))
      by_cases hok : 0 ≤ m ∧ m ≤ (card may : Int)
      · have KC := Lib.hid (choose_yes may m a k cap zs wr hTr hSr hok.1 hok.2 (by omega))
        have KR := Lib.hid (fun W (h : Below wr.heap.size wr W) => rchoose_yes may m au k cu zs W (hR.below h) HZ.out hok.1 hok.2 (by omega))
        clear hok hO hO2 hR hSr hTr hlt
        generalize chF may m zs 0#64 = R at *
        go_wp2_with fail
        refine KC.out.mono ?_
        rintro e w2 ⟨rfl, hb2⟩
        have HB2 := Lib.hid (below_next hB hb2)
        have HX2 := Lib.hid hb2
        clear hb2
        go_wp2_with fail
        refine (KR.out _ HX2.out).mono ?_
        rintro e w3 ⟨rfl, hb3⟩
        have HB3 := Lib.hid (below_next HB2.out hb3)
        clear hb3
        go_wp2_with fail
        refine (K1.out _ HB3.out).mono ?_
        rintro e w4 ⟨rfl, hb4⟩
        have HB4 := Lib.hid (below_next HB3.out hb4)
        clear hb4
        go_wp2_with fail
        go_ret
        exact ⟨rfl, HB4.out⟩
      · have KC := Lib.hid (choose_no may m (.slice a k cap) wr (by omega))
        have KR := Lib.hid (fun W => rchoose_no may m (.slice au k cu) W (by omega))
        clear hok hO hO2 hR hSr hTr hlt
        go_wp2_with fail
        refine KC.out.mono ?_
        rintro e w2 ⟨rfl, hb2⟩
        have HB2 := Lib.hid (below_next hB hb2)
        have HX2 := Lib.hid hb2
        clear hb2
        go_wp2_with fail
        refine (KR.out _).mono ?_
        rintro e w3 ⟨rfl, hb3⟩
        have HB3 := Lib.hid (below_next HB2.out hb3)
        clear hb3
        go_wp2_with fail
        refine (K1.out _ HB3.out).mono ?_
        rintro e w4 ⟨rfl, hb4⟩
        have HB4 := Lib.hid (below_next HB3.out hb4)
        clear hb4
        go_wp2_with fail
        go_ret
        exact ⟨rfl, HB4.out⟩
set_option maxRecDepth 100000 in
set_option maxHeartbeats 4000000 in
theorem chooses_long (may : NSet) (m : Int) (a : Option Addr) (len cap : Nat) (zs : List NSet) (w : World) (hT : TabZ w) (hS : SetsAt w a len cap zs) (hcap : len ≤ cap) (hlen : 6 < len) :
    Calls Tryd.prog 8 #[.int .u64 (nv may), .int .i64 m, .slice a len cap] w fun e w' => e = .returned (.bool true) ∧ Below w.heap.size w w' := by
  have hlb : decide ((6 : Int) < (len : Int)) = true := by simp; omega
  have hS2 := hS.take (n := 6) (c := cap) (by omega)
  clear hS
  have hS := hS2
  clear hS2
  generalize zs.take 6 = zs at *
  have hcap2 : 6 ≤ cap := by omega
  have HZ := Lib.hid hS.same
  have hl6 : zs.length ≤ 6 := by have := hS.same; omega
  have HT := Lib.hid hT
  clear hT
  go_enter Tryd.func8, Tryd.ntmps8
  go_wp2_with fail
  go_loopw [7, 8] (fun r i wr => ∃ (k : Nat) (u : Value), k ≤ 6 ∧ i = .int .i64 k ∧ r = u ∧ OwnU wr w.heap.size u ((zs.take k).map nv) ∧ Below w.heap.size w wr) (fun _ i _ => 6 - (intOf i).toNat)
  case atStart => exact ⟨0, _, Nat.zero_le _, rfl, rfl, OwnU.nil, Below.refl _ _⟩
  case round =>
    obtain ⟨k, u, hk, rfl, rfl, hO, hB⟩ := hrel
    by_cases hlt : k < 6
    · obtain ⟨b, off, rfl, hc⟩ := (hS.below hB).cell (by omega)
      have hcell := hc k hlt
      have hkl : k < zs.length := by have := HZ.out; omega
      have HE := Lib.hid (show (zs.take (k + 1)).map nv = (zs.take k).map nv ++ [nv (zs.getD k 0#64)] by
        rw [List.take_succ_eq_append_getElem hkl, List.map_append]; simp [List.getD, hkl])
      have hlen2 : ((zs.take k).map nv).length ≤ 6 := by rw [List.length_map, List.length_take]; omega
      have hlt' : (k : Int) < (6 : Int) := by omega
      clear hc
      generalize zs.getD k 0#64 = p at *
      go_wp2_with (at_builtin; refine wpList_append_u64 48 Tryd.underlying48 rfl _ _ rfl w.heap.size _ _ rfl (hO.below (below_alloc (Below.refl _ wr) _)) wr.heap.size 1 (nv p) rfl (by simp) (by omega) (by simp; have := hB.size; omega) ?_; intro v' w' hO' hB')
      go_roundw
      case rel => exact ⟨k + 1, _, by omega, by go_num, rfl, by rw [HE.out]; exact hO', hB.trans ((Below.alloc (Below.refl _ _) hB.size _).trans hB')⟩
      case measure => simp [intOf]; omega
    · obtain rfl : k = 6 := by omega
      have hO2 := hO
      rw [show zs.take 6 = zs by rw [← HZ.out, List.take_length]] at hO2
      obtain ⟨au, cu, hu⟩ := hO2.form
      rw [List.length_map, HZ.out] at hu
      subst hu
      have hR := hO2.ints
      have hSr := hS.below hB
      have hTr := HT.out.below hB
      have K1 := Lib.hid (fun W h => pone_yes W (HT.out.below h))
      by_cases hok : 0 ≤ m ∧ m ≤ (card may : Int)
      · have KC := Lib.hid (choose_yes may m a 6 cap zs wr hTr hSr hok.1 hok.2 (by omega))
        have KR := Lib.hid (fun W (h : Below wr.heap.size wr W) => rchoose_yes may m au 6 cu zs W (hR.below h) HZ.out hok.1 hok.2 (by omega))
        clear hok hO hO2 hR hSr hTr hlt
        generalize chF may m zs 0#64 = R at *
        go_wp2_with fail
        refine KC.out.mono ?_
        rintro e w2 ⟨rfl, hb2⟩
        have HB2 := Lib.hid (below_next hB hb2)
        have HX2 := Lib.hid hb2
        clear hb2
        go_wp2_with fail
        refine (KR.out _ HX2.out).mono ?_
        rintro e w3 ⟨rfl, hb3⟩
        have HB3 := Lib.hid (below_next HB2.out hb3)
        clear hb3
        go_wp2_with fail
        refine (K1.out _ HB3.out).mono ?_
        rintro e w4 ⟨rfl, hb4⟩
        have HB4 := Lib.hid (below_next HB3.out hb4)
        clear hb4
        go_wp2_with fail
        go_ret
        exact ⟨rfl, HB4.out⟩
      · have KC := Lib.hid (choose_no may m (.slice a 6 cap) wr (by omega))
        have KR := Lib.hid (fun W => rchoose_no may m (.slice au 6 cu) W (by omega))
        clear hok hO hO2 hR hSr hTr hlt
        go_wp2_with fail
        refine KC.out.mono ?_
        rintro e w2 ⟨rfl, hb2⟩
        have HB2 := Lib.hid (below_next hB hb2)
        have HX2 := Lib.hid hb2
        clear hb2
        go_wp2_with fail
        refine (KR.out _).mono ?_
        rintro e w3 ⟨rfl, hb3⟩
        have HB3 := Lib.hid (below_next HB2.out hb3)
        clear hb3
        go_wp2_with fail
        refine (K1.out _ HB3.out).mono ?_
        rintro e w4 ⟨rfl, hb4⟩
        have HB4 := Lib.hid (below_next HB3.out hb4)
        clear hb4
        go_wp2_with fail
        go_ret
        exact ⟨rfl, HB4.out⟩
theorem chooses_all (may : NSet) (m : Int) (a : Option Addr) (len cap : Nat) (zs : List NSet) (w : World) (hT : TabZ w) (h : SetsAt w a len cap zs ∧ len ≤ cap) :
    Calls Tryd.prog 8 #[.int .u64 (nv may), .int .i64 m, .slice a len cap] w fun e w' => e = .returned (.bool true) ∧ Below w.heap.size w w' := by
  by_cases hlen : len ≤ 6
  · exact chooses_short may m a len cap zs w hT h.1 h.2 hlen
  · exact chooses_long may m a len cap zs w hT h.1 h.2 (by omega)
end Go.Proofs.YtkllhnfnkgkelaaDoor
