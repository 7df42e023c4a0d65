/- Laws that belong together: Levels (layer 10), the document's: put, Times. Condition: the lengths' bounds.; Levels (layer 10), the document's: List; Like. Condition: the lengths' bounds.; Levels (layer 10), the document's: In. Condition: the lengths' bounds. -/
import Derived.Test.YtdamemdfehopeaaDoorMah
import Derived.Test.YtdamemdfehopeaaDoorMac
import Derived.Test.YtdamemdfehopeaaDoorMad
import Derived.Test.YtdamemdfehopeaaDoorMab
namespace Go.Proofs.YtdamemdfehopeaaDoor
set_option linter.unusedVariables false
open Go.ChangeShapes Go.WideShapes Go.ChangeAt Go.RowKit
attribute [local go_sem ↓] Go.wp_at_zero Go.wp_at_succ comesTo_value_eq comesTo_skip_eq comesTo_enter_eq

theorem insT_at : ∀ (l : List Int) (t : Int) (k : Nat), k ≤ l.length → (∀ j, j < k → l.getD j 0 < t) → (k < l.length → ¬ l.getD k 0 < t) → insT l t = if k < l.length ∧ l.getD k 0 = t then l else l.take k ++ t :: l.drop k
  | [], t, k, hk, _, _ => by
    obtain rfl : k = 0 := by simpa using hk
    rfl
  | y :: r, t, 0, _, _, h2 => by
    have h := h2 (by simp)
    simp only [List.getD_cons_zero] at h
    unfold insT
    rw [if_neg h]
    simp only [List.length_cons, List.getD_cons_zero, List.take_zero, List.drop_zero, List.nil_append]
    by_cases e : y = t
    · rw [if_pos e, if_pos ⟨by omega, e⟩]
    · rw [if_neg e, if_neg (fun hh => e hh.2)]
  | y :: r, t, k + 1, hk, h1, h2 => by
    have hy := h1 0 (by omega)
    simp only [List.getD_cons_zero] at hy
    have ih := insT_at r t k (by simpa using hk) (fun j hj => by have := h1 (j + 1) (by omega); simpa using this) (fun hh => by have := h2 (by simpa using hh); simpa using this)
    unfold insT
    rw [if_pos hy, ih]
    simp only [List.length_cons, List.getD_cons_succ, Nat.add_lt_add_iff_right]
    by_cases e : k < r.length ∧ r.getD k 0 = t
    · rw [if_pos e, if_pos e]
    · rw [if_neg e, if_neg e]; simp
/-- a row of times, none of which is missing -/
def RowT (w : World) (v : Value) (l : List Int) : Prop := ∃ g c, v = .slice (some ⟨g, 0, none⟩) l.length c ∧ l.length ≤ c ∧ g < w.heap.size ∧ ∀ k, k < l.length → w.cell? ⟨g, k, none⟩ = some (.int .i64 (l.getD k 0))
theorem RowT.below {w w' : World} {v : Value} {l : List Int} (h : RowT w v l) (hb : Below w.heap.size w w') : RowT w' v l := by
  obtain ⟨g, c, e, hc, hg, hr⟩ := h
  exact ⟨g, c, e, hc, Nat.lt_of_lt_of_le hg hb.size, fun k hk => (hb.cell (p := ⟨g, k, none⟩) hg).trans (hr k hk)⟩
def flatT (l : List Int) : List Value := l.map (Value.int .i64)
theorem flatT_len (l : List Int) : (flatT l).length = l.length * 1 := by simp [flatT]
theorem flatT_one (l : List Int) : ∀ u ∈ flatT l, u.oneCell' = true := fun u hu => by
  obtain ⟨y, _, rfl⟩ := List.mem_map.1 hu
  rfl
theorem flatT_get {l : List Int} {j : Nat} {u : Value} (h : (flatT l)[j]? = some u) : j < l.length ∧ u = .int .i64 (l.getD j 0) := by
  unfold flatT at h
  rw [List.getElem?_map] at h
  cases hj : l[j]? with
  | none => rw [hj] at h; cases h
  | some y =>
    rw [hj] at h
    obtain ⟨hlt, _⟩ := List.getElem?_eq_some_iff.1 hj
    refine ⟨hlt, ?_⟩
    have : u = .int .i64 y := by simpa using h.symm
    rw [this, List.getD_eq_getElem?_getD, hj]
    rfl
theorem info_i64 : (Tryd.prog.info? 2).map (fun i => (i.zero, i.size, i.bytes)) = some (some (.int .i64 0), 1, 8) := by kernel_rfl
theorem eltT : Ap.Elt Tryd.prog 134 2 1 8 :=
  ⟨Tryd.underlying134, by obtain ⟨i, h1, h2, h3, h4⟩ := info_parts3 info_i64; exact ⟨i, _, h1, h2, h3, h4, rfl⟩, by decide⟩
theorem RowT.own {w : World} {B : Nat} {v : Value} {l : List Int} (h : w.ownsRow B 2 1 v l.length (flatT l)) (hp : 0 < l.length) : RowT w v l := by
  rcases h.2 with ⟨rfl, h0⟩ | ⟨g, cap, cur, rfl, hB, hg, hc, _⟩
  · omega
  · refine ⟨g, cap, rfl, hc, (Array.getElem?_eq_some_iff.1 hg).1, fun k hk => ?_⟩
    refine (h.cellAt k (by omega)).trans ?_
    unfold flatT
    rw [List.getElem?_map, List.getElem?_eq_getElem hk, List.getD_eq_getElem?_getD, List.getElem?_eq_getElem hk]
    rfl
theorem rd_part {w : World} {g c o n : Nat} {l m : List Int} (hg : g < w.heap.size) (hr : ∀ k, k < l.length → w.cell? ⟨g, k, none⟩ = some (.int .i64 (l.getD k 0))) (hm : m.length = n) (hlm : ∀ j, j < n → o + j < l.length ∧ l.getD (o + j) 0 = m.getD j 0) : Ap.RdG w 1 (.slice (some ⟨g, o, none⟩) n c) n (flatT m) := by
  refine ⟨⟨_, c, rfl, (fun h => by cases h), fun a ha j u hj => ?_, fun a ha _ => by cases ha; exact hg⟩, by rw [flatT_len, hm], flatT_one m⟩
  cases ha
  obtain ⟨h1, rfl⟩ := flatT_get hj
  have hadd : (⟨g, o, none⟩ : Addr).add j = ⟨g, o + j, none⟩ := by unfold Addr.add; split <;> simp_all
  obtain ⟨h2, h3⟩ := hlm j (by omega)
  rw [hadd, hr _ h2, h3]
set_option maxRecDepth 100000 in
set_option maxHeartbeats 8000000 in
theorem rput_any {w : World} {v : Value} {l : List Int} (h : RowT w v l) (hlen : l.length ≤ 1073741824) (t : Int) :
    Calls Tryd.prog 142 #[v, .int .i64 t] w fun e w' => ∃ v', e = .returned v' ∧ RowT w' v' (putT l t) ∧ Below w.heap.size w w' := by
  have hmx : Tryd.prog.follows .mixedOrders = true := by kernel_rfl
  obtain ⟨g, c, rfl, hc, hg, hr⟩ := h
  have HR := Lib.hid (show RowT w (.slice (some ⟨g, 0, none⟩) l.length c) l from ⟨g, c, rfl, hc, hg, hr⟩)
  have HC := Lib.hid hr
  clear hr
  by_cases ht : t ≥ 1099511627776
  case pos =>
    have hd : decide (t ≥ 1099511627776) = true := decide_eq_true ht
    have E := Lib.hid (show putT l t = l by unfold putT; rw [if_pos ht])
    go_enter Tryd.func142, Tryd.ntmps142
    go_wp2_with fail
    go_ret
    exact ⟨_, rfl, by rw [E.out]; exact HR.out, Below.refl _ _⟩
  have hd : decide (t ≥ 1099511627776) = false := decide_eq_false ht
  have E := Lib.hid (show putT l t = insT l t by unfold putT; rw [if_neg ht])
  go_enter Tryd.func142, Tryd.ntmps142
  go_wp2_with fail
  go_loopw [5] (fun i wr => ∃ k : Nat, k ≤ l.length ∧ i = .int .i64 k ∧ (∀ j, j < k → l.getD j 0 < t) ∧ wr = w) (fun i _ => l.length - (intOf i).toNat)
  case atStart => exact ⟨0, by omega, rfl, fun j hj => by omega, rfl⟩
  case round =>
    obtain ⟨k, hk, rfl, hkk, rfl⟩ := hrel
    have HK := Lib.hid hkk
    clear hkk
    have hw1 : IntKind.i64.wrap ((k : Int) + 1) = ((k + 1 : Nat) : Int) := by rw [IntKind.wrap_i64]; omega
    by_cases hlt : k < l.length ∧ l.getD k 0 < t
    case pos =>
      have hd1 : decide (k < l.length) = true := decide_eq_true hlt.1
      have hix : (k : Int) < (l.length : Int) := by omega
      have c0 := HC.out k hlt.1
      have hd2 : decide (l.getD k 0 < t) = true := decide_eq_true hlt.2
      have HNX := Lib.hid (show ∀ j, j < k + 1 → l.getD j 0 < t from fun j hj => by rcases Nat.lt_or_ge j k with h | h; exact HK.out j h; rw [show j = k by omega]; exact hlt.2)
      have hkl := hlt.1
      clear hlt
      generalize l.getD k 0 = y at *
      go_wp2_with fail
      exact ⟨⟨k + 1, by omega, rfl, HNX.out, by first | rfl | trivial⟩, by show l.length - (((k + 1 : Nat) : Int)).toNat < l.length - ((k : Int)).toNat; omega⟩
    case neg =>
      have HI := Lib.hid (insT_at l t k hk HK.out (fun h h2 => hlt ⟨h, h2⟩))
      by_cases hkl : k < l.length
      case pos =>
        have hd1 : decide (k < l.length) = true := decide_eq_true hkl
        have hix : (k : Int) < (l.length : Int) := by omega
        have c0 := HC.out k hkl
        have hd2 : decide (l.getD k 0 < t) = false := decide_eq_false (fun h => hlt ⟨hkl, h⟩)
        by_cases he : l.getD k 0 = t
        case pos =>
          have E2 := Lib.hid (show putT l t = l by rw [E.out, HI.out, if_pos ⟨hkl, he⟩])
          have hq : (l.getD k 0 == t) = true := beq_iff_eq.2 he
          clear he hlt
          generalize l.getD k 0 = y at *
          go_wp2_with fail
          go_ret
          exact ⟨_, rfl, by rw [E2.out]; exact HR.out, Below.refl _ _⟩
        case neg =>
          have E2 := Lib.hid (show putT l t = l.take k ++ t :: l.drop k by rw [E.out, HI.out, if_neg (fun hh => he hh.2)])
          have hq : (l.getD k 0 == t) = false := beq_false_of_ne he
          clear he hlt
          have HCC := Lib.hid HC.out
          clear HC HI
          generalize l.getD k 0 = y at *
          have hs1 : (k : Int) ≤ (c : Int) := by omega
          have hs2 : (k : Int) ≤ (l.length : Int) := by omega
          go_upto_region 8 with fail
          clear c0
          refine Ap.wp_region_K (S1 := fun _ => True) (S2 := fun _ => True) (js := 12) hmx ?_
          change Ap.wpAnyK _ _ _ _ _ _ _ 13 _ _ wr.drew
          refine Ap.wpAnyK_take1 (i := 1) (v := .slice (some ⟨g, 0, none⟩) l.length c) rfl (by decide) (by decide +kernel) (by decide +kernel) (by decide +kernel) (fun _ _ _ h => h) (.inl ⟨by first | rfl | (go_simp; done), fun X hX => by clear hX; first | (go_simp; done) | (go_simp; rfl)⟩) ⟨trivial, trivial⟩ ?_
          refine Ap.wpAnyK_take1 (i := 2) (v := .int .i64 k) rfl (by decide) (by decide +kernel) (by decide +kernel) (by decide +kernel) (fun _ _ _ h => h) (.inl ⟨by first | rfl | (go_simp; done), fun X hX => by clear hX; first | (go_simp; done) | (go_simp; rfl)⟩) ⟨trivial, trivial⟩ ?_
          refine Ap.wpAnyK_take1 (i := 3) (v := .slice (some ⟨g, 0, none⟩) k c) rfl (by decide) (by decide +kernel) (by decide +kernel) (by decide +kernel) (fun _ _ _ h => h) (.inl ⟨by first | rfl | (go_simp; done), fun X hX => by clear hX; first | (go_simp; done) | (go_simp; rfl)⟩) ⟨trivial, trivial⟩ ?_
          refine Ap.wpAnyK_take1 (i := 5) (v := .int .i64 t) rfl (by decide) (by decide +kernel) (by decide +kernel) (by decide +kernel) (fun _ _ _ h => h) (.inl ⟨by first | rfl | (go_simp; done), fun X hX => by clear hX; first | (go_simp; done) | (go_simp; rfl)⟩) ⟨trivial, trivial⟩ ?_
          refine Ap.wpAnyK_take1 (i := 8) (v := .slice (some ⟨g, 0, none⟩) l.length c) rfl (by decide) (by decide +kernel) (by decide +kernel) (by decide +kernel) (fun _ _ _ h => h) (.inl ⟨by first | rfl | (go_simp; done), fun X hX => by clear hX; first | (go_simp; done) | (go_simp; rfl)⟩) ⟨trivial, trivial⟩ ?_
          refine Ap.wpAnyK_take1 (i := 9) (v := .int .i64 k) rfl (by decide) (by decide +kernel) (by decide +kernel) (by decide +kernel) (fun _ _ _ h => h) (.inl ⟨by first | rfl | (go_simp; done), fun X hX => by clear hX; first | (go_simp; done) | (go_simp; rfl)⟩) ⟨trivial, trivial⟩ ?_
          refine Ap.wpAnyK_take1 (i := 10) (v := .slice (if c = k then some ⟨g, 0, none⟩ else some ⟨g, k, none⟩) (l.length - k) (c - k)) rfl (by decide) (by decide +kernel) (by decide +kernel) (by decide +kernel) (fun _ _ _ h => h) (.inl ⟨by first | rfl | (go_simp; done), fun X hX => by clear hX; first | (go_simp; done) | (go_simp; rfl)⟩) ⟨trivial, trivial⟩ ?_
          have rd1 : Ap.RdG wr 1 (.slice (some ⟨g, 0, none⟩) k c) k (flatT (l.take k)) := rd_part hg HCC.out (by rw [List.length_take]; omega) (fun j hj => ⟨by omega, by simp [List.getD_eq_getElem?_getD, List.getElem?_take, hj]⟩)
          have rd2 : Ap.RdG wr 1 (.slice (if c = k then some ⟨g, 0, none⟩ else some ⟨g, k, none⟩) (l.length - k) (c - k)) (l.length - k) (flatT (l.drop k)) := by
            by_cases hck : c = k
            · rw [if_pos hck]; exact rd_part hg HCC.out (by rw [List.length_drop]) (fun j hj => by omega)
            · rw [if_neg hck]; exact rd_part hg HCC.out (by rw [List.length_drop]) (fun j hj => ⟨by omega, by simp [List.getD_eq_getElem?_getD, List.getElem?_drop]⟩)
          refine Ap.anyK_app2 (j0 := 0) (j1 := 4) (j2 := 6) (j3 := 7) (fuel := 2) (cs := #[.int .i64 t]) eltT wr.heap.size (.inl (by decide +kernel)) (.inl (by decide +kernel)) (by decide +kernel) (by decide +kernel) (by decide +kernel) (by decide +kernel) (by decide) rfl rfl rfl rfl ⟨rfl, rfl, rfl, rfl⟩ (by decide) ⟨rfl, rfl, rfl, rfl⟩ rfl rfl
            (by simp [Act.put]) (fun a' X => by first | (go_simp; done) | (go_simp; rfl)) (.slice (some ⟨g, 0, none⟩) k c) k (flatT (l.take k)) (fun u0 u2 => ⟨by simp [Act.put, Act.eval], by simp [Act.put, Act.eval]⟩) (rd1.mono (Below.refl _ _).drew)
            (fun u0 u1 X => ⟨by first | (go_simp; done) | (go_simp; rfl), by first | (go_simp; done) | (go_simp; rfl), by first | (go_simp; done) | (go_simp; rfl)⟩) rfl (by intro u hu; simp at hu; subst hu; rfl) (by unfold maxLen; omega) (by omega) (Nat.le_refl _)
            (fun X hb => ⟨trivial, trivial⟩) ?_
          intro u0 u1 u2 v0 X ho hb
          obtain ⟨v1, X1, hrun, hown, _, hbel⟩ := Ap.run_app eltT 134 wr.heap.size v0 (k + 1) _ ho _ (l.length - k) _ ((rd2.mono (Below.refl _ _).drew).mono hb) (by unfold maxLen; omega) (by omega) (hb.size)
          refine Ap.anyK_val1 (i := 11) (v := v1) (w' := X1) (by decide +kernel) rfl rfl (Ap.exec_app rfl (by simp [Act.put, Act.eval]) (by simp [Act.put, Act.eval]) hrun) ⟨trivial, trivial⟩ ?_
          have hl2 : k + 1 + (l.length - k) = (l.take k ++ t :: l.drop k).length := by simp; omega
          have hf2 : flatT (l.take k) ++ [Value.int .i64 t] ++ flatT (l.drop k) = flatT (l.take k ++ t :: l.drop k) := by simp [flatT]
          have hO := Lib.hid (show RowT X1 v1 (putT l t) from by
            rw [E2.out]
            refine RowT.own (B := wr.heap.size) ?_ (by simp; omega)
            rw [← hl2, ← hf2]
            exact hown)
          have hB := Lib.hid (show Below wr.heap.size wr X1 from Below.trans (Below.drew (Below.refl _ _)) (Below.trans hb hbel))
          clear hown hrun hbel ho hb rd1 rd2 hl2 hf2
          obtain ⟨ga, ca, hva, _⟩ := hO.out
          obtain ⟨na, hna⟩ : ∃ n, n = (putT l t).length := ⟨_, rfl⟩
          rw [← hna] at hva
          clear hna
          subst hva
          refine Ap.anyK_val1 (i := 12) (v := .slice (some ⟨ga, 0, none⟩) na ca) (w' := X1) (by decide +kernel) rfl rfl (by first | (go_simp; done) | (go_simp; rfl)) ⟨trivial, trivial⟩ ?_
          refine Ap.wpAnyK_done (by decide +kernel) ?_ _
          go_wp2_with fail
          all_goals (
            go_ret
            exact ⟨_, rfl, hO.out, hB.out⟩)
      case neg =>
        have hd1 : decide (k < l.length) = false := decide_eq_false hkl
        have E2 := Lib.hid (show putT l t = l.take k ++ t :: l.drop k by rw [E.out, HI.out, if_neg (fun hh => hkl hh.1)])
        clear hlt
        have HCC := Lib.hid HC.out
        clear HC HI
        have hs1 : (k : Int) ≤ (c : Int) := by omega
        have hs2 : (k : Int) ≤ (l.length : Int) := by omega
        go_upto_region 8 with fail
        refine Ap.wp_region_K (S1 := fun _ => True) (S2 := fun _ => True) (js := 12) hmx ?_
        change Ap.wpAnyK _ _ _ _ _ _ _ 13 _ _ wr.drew
        refine Ap.wpAnyK_take1 (i := 1) (v := .slice (some ⟨g, 0, none⟩) l.length c) rfl (by decide) (by decide +kernel) (by decide +kernel) (by decide +kernel) (fun _ _ _ h => h) (.inl ⟨by first | rfl | (go_simp; done), fun X hX => by clear hX; first | (go_simp; done) | (go_simp; rfl)⟩) ⟨trivial, trivial⟩ ?_
        refine Ap.wpAnyK_take1 (i := 2) (v := .int .i64 k) rfl (by decide) (by decide +kernel) (by decide +kernel) (by decide +kernel) (fun _ _ _ h => h) (.inl ⟨by first | rfl | (go_simp; done), fun X hX => by clear hX; first | (go_simp; done) | (go_simp; rfl)⟩) ⟨trivial, trivial⟩ ?_
        refine Ap.wpAnyK_take1 (i := 3) (v := .slice (some ⟨g, 0, none⟩) k c) rfl (by decide) (by decide +kernel) (by decide +kernel) (by decide +kernel) (fun _ _ _ h => h) (.inl ⟨by first | rfl | (go_simp; done), fun X hX => by clear hX; first | (go_simp; done) | (go_simp; rfl)⟩) ⟨trivial, trivial⟩ ?_
        refine Ap.wpAnyK_take1 (i := 5) (v := .int .i64 t) rfl (by decide) (by decide +kernel) (by decide +kernel) (by decide +kernel) (fun _ _ _ h => h) (.inl ⟨by first | rfl | (go_simp; done), fun X hX => by clear hX; first | (go_simp; done) | (go_simp; rfl)⟩) ⟨trivial, trivial⟩ ?_
        refine Ap.wpAnyK_take1 (i := 8) (v := .slice (some ⟨g, 0, none⟩) l.length c) rfl (by decide) (by decide +kernel) (by decide +kernel) (by decide +kernel) (fun _ _ _ h => h) (.inl ⟨by first | rfl | (go_simp; done), fun X hX => by clear hX; first | (go_simp; done) | (go_simp; rfl)⟩) ⟨trivial, trivial⟩ ?_
        refine Ap.wpAnyK_take1 (i := 9) (v := .int .i64 k) rfl (by decide) (by decide +kernel) (by decide +kernel) (by decide +kernel) (fun _ _ _ h => h) (.inl ⟨by first | rfl | (go_simp; done), fun X hX => by clear hX; first | (go_simp; done) | (go_simp; rfl)⟩) ⟨trivial, trivial⟩ ?_
        refine Ap.wpAnyK_take1 (i := 10) (v := .slice (if c = k then some ⟨g, 0, none⟩ else some ⟨g, k, none⟩) (l.length - k) (c - k)) rfl (by decide) (by decide +kernel) (by decide +kernel) (by decide +kernel) (fun _ _ _ h => h) (.inl ⟨by first | rfl | (go_simp; done), fun X hX => by clear hX; first | (go_simp; done) | (go_simp; rfl)⟩) ⟨trivial, trivial⟩ ?_
        have rd1 : Ap.RdG wr 1 (.slice (some ⟨g, 0, none⟩) k c) k (flatT (l.take k)) := rd_part hg HCC.out (by rw [List.length_take]; omega) (fun j hj => ⟨by omega, by simp [List.getD_eq_getElem?_getD, List.getElem?_take, hj]⟩)
        have rd2 : Ap.RdG wr 1 (.slice (if c = k then some ⟨g, 0, none⟩ else some ⟨g, k, none⟩) (l.length - k) (c - k)) (l.length - k) (flatT (l.drop k)) := by
          by_cases hck : c = k
          · rw [if_pos hck]; exact rd_part hg HCC.out (by rw [List.length_drop]) (fun j hj => by omega)
          · rw [if_neg hck]; exact rd_part hg HCC.out (by rw [List.length_drop]) (fun j hj => ⟨by omega, by simp [List.getD_eq_getElem?_getD, List.getElem?_drop]⟩)
        refine Ap.anyK_app2 (j0 := 0) (j1 := 4) (j2 := 6) (j3 := 7) (fuel := 2) (cs := #[.int .i64 t]) eltT wr.heap.size (.inl (by decide +kernel)) (.inl (by decide +kernel)) (by decide +kernel) (by decide +kernel) (by decide +kernel) (by decide +kernel) (by decide) rfl rfl rfl rfl ⟨rfl, rfl, rfl, rfl⟩ (by decide) ⟨rfl, rfl, rfl, rfl⟩ rfl rfl
          (by simp [Act.put]) (fun a' X => by first | (go_simp; done) | (go_simp; rfl)) (.slice (some ⟨g, 0, none⟩) k c) k (flatT (l.take k)) (fun u0 u2 => ⟨by simp [Act.put, Act.eval], by simp [Act.put, Act.eval]⟩) (rd1.mono (Below.refl _ _).drew)
          (fun u0 u1 X => ⟨by first | (go_simp; done) | (go_simp; rfl), by first | (go_simp; done) | (go_simp; rfl), by first | (go_simp; done) | (go_simp; rfl)⟩) rfl (by intro u hu; simp at hu; subst hu; rfl) (by unfold maxLen; omega) (by omega) (Nat.le_refl _)
          (fun X hb => ⟨trivial, trivial⟩) ?_
        intro u0 u1 u2 v0 X ho hb
        obtain ⟨v1, X1, hrun, hown, _, hbel⟩ := Ap.run_app eltT 134 wr.heap.size v0 (k + 1) _ ho _ (l.length - k) _ ((rd2.mono (Below.refl _ _).drew).mono hb) (by unfold maxLen; omega) (by omega) (hb.size)
        refine Ap.anyK_val1 (i := 11) (v := v1) (w' := X1) (by decide +kernel) rfl rfl (Ap.exec_app rfl (by simp [Act.put, Act.eval]) (by simp [Act.put, Act.eval]) hrun) ⟨trivial, trivial⟩ ?_
        have hl2 : k + 1 + (l.length - k) = (l.take k ++ t :: l.drop k).length := by simp; omega
        have hf2 : flatT (l.take k) ++ [Value.int .i64 t] ++ flatT (l.drop k) = flatT (l.take k ++ t :: l.drop k) := by simp [flatT]
        have hO := Lib.hid (show RowT X1 v1 (putT l t) from by
          rw [E2.out]
          refine RowT.own (B := wr.heap.size) ?_ (by simp; omega)
          rw [← hl2, ← hf2]
          exact hown)
        have hB := Lib.hid (show Below wr.heap.size wr X1 from Below.trans (Below.drew (Below.refl _ _)) (Below.trans hb hbel))
        clear hown hrun hbel ho hb rd1 rd2 hl2 hf2
        obtain ⟨ga, ca, hva, _⟩ := hO.out
        obtain ⟨na, hna⟩ : ∃ n, n = (putT l t).length := ⟨_, rfl⟩
        rw [← hna] at hva
        clear hna
        subst hva
        refine Ap.anyK_val1 (i := 12) (v := .slice (some ⟨ga, 0, none⟩) na ca) (w' := X1) (by decide +kernel) rfl rfl (by first | (go_simp; done) | (go_simp; rfl)) ⟨trivial, trivial⟩ ?_
        refine Ap.wpAnyK_done (by decide +kernel) ?_ _
        go_wp2_with fail
        all_goals (
          go_ret
          exact ⟨_, rfl, hO.out, hB.out⟩)
theorem putT_len (l : List Int) (t : Int) : (putT l t).length ≤ l.length + 1 := by
  unfold putT
  split
  · omega
  · exact insT_len l t
theorem timesU_take (C : List ChgC) {k : Nat} (hk : k < C.length) : timesU (C.take (k + 1)) = putT (putT (timesU (C.take k)) (cleanI ((C.getD k chgD).f, (C.getD k chgD).t)).1) (cleanI ((C.getD k chgD).f, (C.getD k chgD).t)).2 := by
  unfold timesU
  rw [List.take_add_one, List.foldl_append, List.getElem?_eq_getElem hk, List.getD_eq_getElem?_getD, List.getElem?_eq_getElem hk]
  rfl
theorem timesU_len (C : List ChgC) : (timesU C).length ≤ 2 * C.length + 1 := by
  have : ∀ (D : List ChgC) (l : List Int), (D.foldl (fun l c => putT (putT l (cleanI (c.f, c.t)).1) (cleanI (c.f, c.t)).2) l).length ≤ l.length + 2 * D.length := by
    intro D
    induction D with
    | nil => intro l; simp
    | cons c r ih =>
      intro l
      rw [List.foldl_cons, List.length_cons]
      have h := ih (putT (putT l (cleanI (c.f, c.t)).1) (cleanI (c.f, c.t)).2)
      have h1 := putT_len (putT l (cleanI (c.f, c.t)).1) (cleanI (c.f, c.t)).2
      have h2 := putT_len l (cleanI (c.f, c.t)).1
      omega
  have := this C [0]
  unfold timesU
  simp only [List.length_cons, List.length_nil] at this
  omega
set_option maxRecDepth 100000 in
set_option maxHeartbeats 8000000 in
theorem rtimes_list {w : World} {v : Value} {C : List ChgC} (h : RowC w v C) (hlen : C.length ≤ 1048576) (first : Int) :
    Calls Tryd.prog 108 #[.agg #[.int .i64 first, v]] w fun e w' => ∃ v', e = .returned v' ∧ RowT w' v' (timesU C) ∧ Below w.heap.size w w' := by
  have hmx : Tryd.prog.follows .mixedOrders = true := by kernel_rfl
  obtain ⟨ad, cp, hv⟩ := h.form
  have hb0 := below_alloc (Below.refl _ w) (.cells #[.int .i64 first, v] 67)
  have n0 := World.alloc_heap_new w (.cells #[.int .i64 first, v] 67)
  have H := Lib.hid (fun W (hb : Below w.heap.size w W) => h.below hb)
  clear h
  subst hv
  go_enter Tryd.func108, Tryd.ntmps108
  go_upto_region 1 with fail
  generalize w.alloc (.cells #[.int .i64 first, .slice ad C.length cp] 67) = W at *
  have hb1 := below_alloc (Below.refl _ W) (.cells #[.int .i64 0] 2)
  have n1 := World.alloc_heap_new W (.cells #[.int .i64 0] 2)
  have HB := Lib.hid (below_next hb0 hb1)
  have HN := Lib.hid ((hb1.block _ (Array.getElem?_eq_some_iff.1 n0).1).trans n0)
  have HT := Lib.hid (show RowT (W.alloc (.cells #[.int .i64 0] 2)) (.slice (some ⟨W.heap.size, 0, none⟩) 1 1) (timesU []) from ⟨W.heap.size, 1, rfl, by decide, by simp, fun k hk => by
    obtain rfl : k = 0 := by have : k < 1 := hk; omega
    exact cell_of_block (o := 0) n1 rfl⟩)
  clear hb0 hb1 n0 n1
  go_upto_region 2 with fail
  generalize W.alloc (.cells #[.int .i64 0] 2) = W1 at *
  go_wp2_with fail
  go_loopw [3, 4] (fun z i wr => ∃ k : Nat, k ≤ C.length ∧ i = .int .i64 k ∧ RowT wr z (timesU (C.take k)) ∧ Below w.heap.size w wr ∧ wr.heap[w.heap.size]? = some (.cells #[.int .i64 first, .slice ad C.length cp] 67 (0, 0))) (fun _ i _ => C.length - (intOf i).toNat)
  case atStart => exact ⟨0, by omega, rfl, HT.out, HB.out, HN.out⟩
  case round =>
    obtain ⟨k, hk, rfl, ht, hb, hn⟩ := hrel
    obtain ⟨g, c, hz, hcap, hg, hr⟩ := ht
    have HTr := Lib.hid (show RowT wr (.slice (some ⟨g, 0, none⟩) (timesU (C.take k)).length c) (timesU (C.take k)) from ⟨g, c, rfl, hcap, hg, hr⟩)
    have hlk := timesU_len (C.take k)
    rw [List.length_take] at hlk
    have c0 := cell_of_block (o := 0) hn rfl
    have c1 := cell_of_block (o := 1) hn rfl
    have hlt1 := (Array.getElem?_eq_some_iff.1 hn).1
    have HBr := Lib.hid hb
    have HNr := Lib.hid hn
    clear hb hn HB HN HT hr
    by_cases hlt : k < C.length
    case neg =>
      have hd : decide (k < C.length) = false := decide_eq_false hlt
      obtain rfl : k = C.length := by omega
      rw [List.take_length] at HTr hz
      generalize (timesU C).length = n at *
      subst hz
      go_wp2_with fail
      go_ret
      exact ⟨_, rfl, HTr.out, HBr.out⟩
    case pos =>
      have hd : decide (k < C.length) = true := decide_eq_true hlt
      obtain ⟨gc, cc, e0, hgc, q0, q1, q2, q3⟩ := (H.out wr HBr.out).at hlt
      have e1 : ad = some ⟨gc, 0, none⟩ := by injection e0
      subst e1
      have HS := Lib.hid (timesU_take C hlt)
      have hw1 : IntKind.i64.wrap ((k : Int) + 1) = ((k + 1 : Nat) : Int) := by rw [IntKind.wrap_i64]; omega
      have hix : (k : Int) < (C.length : Int) := by omega
      generalize C.getD k chgD = ch at *
      obtain ⟨cf, ct, cs, cn⟩ := ch
      simp only at q0 q1 HS
      generalize timesU (C.take k) = l at *
      obtain ⟨nl, hnl⟩ : ∃ n, n = l.length := ⟨_, rfl⟩
      rw [← hnl] at hz HTr
      subst hz
      have KCl := Lib.hid (fun W => rclean_any cf ct W)
      generalize (cleanI (cf, ct)).1 = y1 at *
      generalize (cleanI (cf, ct)).2 = y2 at *
      go_wp2_with fail
      refine (KCl.out _).mono ?_
      rintro e W2 ⟨rfl, hb2⟩
      have hbB := below_alloc (Below.refl _ W2) (.cells #[.int .i64 y1, .int .i64 y2] 76)
      have nB := World.alloc_heap_new W2 (.cells #[.int .i64 y1, .int .i64 y2] 76)
      have HB3 := Lib.hid (below_next (below_next HBr.out hb2) hbB)
      have HT3 := Lib.hid ((HTr.out.below hb2).below hbB)
      have HN3 := Lib.hid ((hbB.block _ (Nat.lt_of_lt_of_le hlt1 hb2.size)).trans ((hb2.block _ hlt1).trans HNr.out))
      have hB5 := (Array.getElem?_eq_some_iff.1 nB).1
      obtain ⟨B5, hB5e⟩ : ∃ B, B = W2.heap.size := ⟨_, rfl⟩
      have NB := Lib.hid (hB5e ▸ nB)
      rw [← hB5e] at hB5
      go_upto_region 6 with fail
      rw [← hB5e]
      clear q0 q1 q2 q3 c0 c1 hb2 hbB nB HBr HTr HNr hB5e hgc
      generalize W2.alloc (.cells #[.int .i64 y1, .int .i64 y2] 76) = W3 at *
      have s0 := cell_of_block (o := 0) NB.out rfl
      have s1 := cell_of_block (o := 1) NB.out rfl
      refine Ap.wp_region_K (S1 := fun X => X.cell? ⟨B5, 0, none⟩ = some (.int .i64 y1) ∧ X.cell? ⟨B5, 1, none⟩ = some (.int .i64 y2)) (S2 := fun _ => True) (js := 7) hmx ?_
      change Ap.wpAnyK _ _ _ _ _ _ _ 8 _ _ W3.drew
      have hSS : (fun X : World => X.cell? ⟨B5, 0, none⟩ = some (.int .i64 y1) ∧ X.cell? ⟨B5, 1, none⟩ = some (.int .i64 y2)) W3.drew ∧ (fun _ : World => True) W3.drew := ⟨⟨s0, s1⟩, trivial⟩
      clear s0 s1
      refine Ap.wpAnyK_take1 (i := 0) (v := .slice (some ⟨g, 0, none⟩) nl c) rfl (by decide) (by decide +kernel) (by decide +kernel) (by decide +kernel) (fun _ _ _ h => h) (.inl ⟨by first | rfl | (go_simp; done), fun X hX => by have hx1 := hX.1; have hx2 := hX.2; clear hX; first | (go_simp; done) | (go_simp; rfl)⟩) hSS ?_
      refine Ap.wpAnyK_take1 (i := 1) (v := .pointer (some ⟨B5, 0, none⟩)) rfl (by decide) (by decide +kernel) (by decide +kernel) (by decide +kernel) (fun _ _ _ h => h) (.inl ⟨by first | rfl | (go_simp; done), fun X hX => by have hx1 := hX.1; have hx2 := hX.2; clear hX; first | (go_simp; done) | (go_simp; rfl)⟩) hSS ?_
      refine Ap.wpAnyK_take1 (i := 2) (v := .int .i64 y1) rfl (by decide) (by decide +kernel) (by decide +kernel) (by decide +kernel) (fun _ _ _ h => h) (.inl ⟨by first | rfl | (go_simp; done), fun X hX => by have hx1 := hX.1; have hx2 := hX.2; clear hX; first | (go_simp; done) | (go_simp; rfl)⟩) hSS ?_
      refine Ap.wpAnyK_take1 (i := 4) (v := .pointer (some ⟨B5, 1, none⟩)) rfl (by decide) (by decide +kernel) (by decide +kernel) (by decide +kernel) (fun _ _ _ h => h) (.inl ⟨by first | rfl | (go_simp; done), fun X hX => by have hx1 := hX.1; have hx2 := hX.2; clear hX; first | (go_simp; done) | (go_simp; rfl)⟩) hSS ?_
      refine Ap.wpAnyK_take1 (i := 5) (v := .int .i64 y2) rfl (by decide) (by decide +kernel) (by decide +kernel) (by decide +kernel) (fun _ _ _ h => h) (.inl ⟨by first | rfl | (go_simp; done), fun X hX => by have hx1 := hX.1; have hx2 := hX.2; clear hX; first | (go_simp; done) | (go_simp; rfl)⟩) hSS ?_
      refine Ap.anyK_call (i := 3) (by decide +kernel) rfl rfl (by go_simp) (rput_any (HT3.out.below (Below.refl _ _).drew) (by omega) y1) ?_
      rintro e X ⟨v1, rfl, hr1, hbx1⟩
      refine ⟨_, rfl, ⟨⟨(hbx1.cell (p := ⟨B5, 0, none⟩) hB5).trans hSS.1.1, (hbx1.cell (p := ⟨B5, 1, none⟩) hB5).trans hSS.1.2⟩, fun _ => trivial⟩, ?_⟩
      obtain ⟨g1, n1, cp1, rfl⟩ : ∃ g n c, v1 = .slice (some ⟨g, 0, none⟩) n c := by obtain ⟨g, c, e, _⟩ := hr1; exact ⟨_, _, _, e⟩
      have hl1 := putT_len l y1
      have hx1s := hbx1.size
      refine Ap.anyK_call (i := 6) (by decide +kernel) rfl rfl (by go_simp) (rput_any hr1 (by omega) y2) ?_
      rintro e X2 ⟨v2, rfl, hr2, hbx2⟩
      have hX5 : B5 < X.heap.size := Nat.lt_of_lt_of_le hB5 hx1s
      have hS2 : (fun X : World => X.cell? ⟨B5, 0, none⟩ = some (.int .i64 y1) ∧ X.cell? ⟨B5, 1, none⟩ = some (.int .i64 y2)) X2 := ⟨(hbx2.cell (p := ⟨B5, 0, none⟩) hX5).trans ((hbx1.cell (p := ⟨B5, 0, none⟩) hB5).trans hSS.1.1), (hbx2.cell (p := ⟨B5, 1, none⟩) hX5).trans ((hbx1.cell (p := ⟨B5, 1, none⟩) hB5).trans hSS.1.2)⟩
      refine ⟨_, rfl, ⟨hS2, fun _ => trivial⟩, ?_⟩
      obtain ⟨g2, n2, cp2, rfl⟩ : ∃ g n c, v2 = .slice (some ⟨g, 0, none⟩) n c := by obtain ⟨g, c, e, _⟩ := hr2; exact ⟨_, _, _, e⟩
      have HR2 := Lib.hid (show RowT X2 (.slice (some ⟨g2, 0, none⟩) n2 cp2) (timesU (C.take (k + 1))) by rw [HS.out]; exact hr2)
      have HB7 := Lib.hid (below_next (below_next (Below.drew HB3.out) hbx1) hbx2)
      have HN7 := Lib.hid ((hbx2.block _ (Nat.lt_of_lt_of_le (Array.getElem?_eq_some_iff.1 HN3.out).1 hx1s)).trans ((hbx1.block _ (Array.getElem?_eq_some_iff.1 HN3.out).1).trans HN3.out))
      refine Ap.anyK_val1 (i := 7) (v := .slice (some ⟨g2, 0, none⟩) n2 cp2) (w' := X2) (by decide +kernel) rfl rfl (by first | (go_simp; done) | (go_simp; rfl)) ⟨hS2, trivial⟩ ?_
      refine Ap.wpAnyK_done (by decide +kernel) ?_ _
      clear hr1 hr2 hbx1 hbx2 hSS hS2
      go_wp2_with fail
      exact ⟨⟨k + 1, by omega, rfl, HR2.out, HB7.out, HN7.out⟩, by show C.length - (((k + 1 : Nat) : Int)).toNat < C.length - ((k : Int)).toNat; omega⟩
end Go.Proofs.YtdamemdfehopeaaDoor
namespace Go.Proofs.YtdamemdfehopeaaDoor
set_option linter.unusedVariables false
open Go.ChangeShapes Go.WideShapes Go.ChangeAt Go.RowKit
attribute [local go_sem ↓] Go.wp_at_zero Go.wp_at_succ comesTo_value_eq comesTo_skip_eq comesTo_enter_eq Rl.comesToR_value_eq Rl.comesToR_skip_eq Rl.comesToR_enter_eq

theorem info_rstep : (Tryd.prog.info? 144).map (fun i => (i.zero, i.size, i.bytes)) = some (some (.agg #[.int .i64 0, .int .i64 0]), 2, 16) := by kernel_rfl
theorem eltR : Ap.Elt Tryd.prog 141 144 2 16 :=
  ⟨Tryd.underlying141, by obtain ⟨i, h1, h2, h3, h4⟩ := info_parts3 info_rstep; exact ⟨i, _, h1, h2, h3, h4, rfl⟩, by decide⟩
/-- an own row of the document's steps -/
def OwnR (w : World) (B : Nat) (v : Value) (l : List (Int × Int)) : Prop := w.ownsRow B 144 2 v l.length (flatU l)
theorem own_less {w : World} {B B' : Nat} {e : TypeId} {size n : Nat} {v : Value} {xs : List Value} (h : w.ownsRow B e size v n xs) (hB : B' ≤ B) : w.ownsRow B' e size v n xs := by
  refine ⟨h.1, ?_⟩
  rcases h.2 with hn | ⟨g, cap, cur, hv, hg, rest⟩
  · exact .inl hn
  · exact .inr ⟨g, cap, cur, hv, Nat.le_trans hB hg, rest⟩
theorem OwnR.form {w : World} {B : Nat} {v : Value} {l : List (Int × Int)} (h : OwnR w B v l) : ∃ ad c, v = .slice ad l.length c ∧ (0 < l.length → ∃ g, ad = some ⟨g, 0, none⟩ ∧ B ≤ g ∧ g < w.heap.size ∧ URow w g l) := by
  rcases h.2 with ⟨e, h0⟩ | ⟨g, cap, cur, e, hB, hg, hc, _⟩
  · exact ⟨none, 0, by rw [e, h0], fun h => by omega⟩
  · refine ⟨_, cap, e, fun _ => ⟨g, rfl, hB, (Array.getElem?_eq_some_iff.1 hg).1, fun k hk => ?_⟩⟩
    have h1 := flatU_get l k hk
    have h' : w.ownsRow B 144 2 (.slice (some ⟨g, 0, none⟩) l.length cap) l.length (flatU l) := by rw [← e]; exact h
    exact ⟨(h'.cellAt (k * 2) (by omega)).trans h1.1, (h'.cellAt (k * 2 + 1) (by omega)).trans h1.2⟩
theorem rd_one (W : World) (cs : Array Value) (e : TypeId) {size : Nat} (hcs : cs.size = size) (hone : ∀ u ∈ cs.toList, u.oneCell' = true) : Ap.RdG (W.alloc (.cells cs e)) size (.slice (some ⟨W.heap.size, 0, none⟩) 1 1) 1 cs.toList :=
  ⟨⟨_, 1, rfl, (fun h => by cases h), (fun a ha j u hj => by
      cases ha
      have hadd : (⟨W.heap.size, 0, none⟩ : Addr).add j = ⟨W.heap.size, j, none⟩ := by unfold Addr.add; split <;> simp_all
      rw [hadd]
      refine cell_of_block (World.alloc_heap_new W _) ?_
      simpa using hj), (fun a ha _ => by cases ha; simp)⟩, by simp [hcs], hone⟩
theorem fold_step {α β : Type} (f : β → α → β) (z : β) (C : List α) (d : α) {k : Nat} (hk : k < C.length) : (C.take (k + 1)).foldl f z = f ((C.take k).foldl f z) (C.getD k d) := by
  rw [List.take_add_one, List.foldl_append, List.getElem?_eq_getElem hk, List.getD_eq_getElem?_getD, List.getElem?_eq_getElem hk]
  rfl
theorem layfold_len (g : Int → Int) : ∀ (m : List Int) (l : List (Int × Int)), (m.foldl (fun l t => layU l t (g t)) l).length ≤ l.length + m.length
  | [], l => by simp
  | x :: r, l => by
    rw [List.foldl_cons, List.length_cons]
    have h1 := layfold_len g r (layU l x (g x))
    have h2 := layU_len l x (g x)
    omega
set_option maxRecDepth 100000 in
set_option maxHeartbeats 8000000 in
theorem rlist_any {w : World} {v : Value} {C : List ChgC} (h : RowC w v C) (hlen : C.length ≤ 1048576) (first : Int) :
    Calls Tryd.prog 76 #[.agg #[.int .i64 first, v]] w fun e w' => ∃ v', e = .returned v' ∧ OwnR w' w.heap.size v' (listR first C) ∧ Below w.heap.size w w' := by
  have hmx : Tryd.prog.follows .mixedOrders = true := by kernel_rfl
  obtain ⟨ad, cp, hv⟩ := h.form
  have hb0 := below_alloc (Below.refl _ w) (.cells #[.int .i64 first, v] 67)
  have n0 := World.alloc_heap_new w (.cells #[.int .i64 first, v] 67)
  have KT := Lib.hid (rtimes_list (h.below hb0) hlen first)
  have H := Lib.hid (fun W (hb : Below w.heap.size w W) => h.below hb)
  clear h
  subst hv
  go_enter Tryd.func76, Tryd.ntmps76
  go_upto_region 1 with fail
  generalize w.alloc (.cells #[.int .i64 first, .slice ad C.length cp] 67) = W at *
  have c0 := cell_of_block (o := 0) n0 rfl
  have c1 := cell_of_block (o := 1) n0 rfl
  go_wp2_with fail
  refine KT.out.mono ?_
  rintro e W4 ⟨tv, rfl, ht, hb4⟩
  obtain ⟨gt, ct, rfl, hct, hgt, htr⟩ := ht
  have hW := (Array.getElem?_eq_some_iff.1 n0).1
  have n4 := (hb4.block _ hW).trans n0
  have hw4 := (Array.getElem?_eq_some_iff.1 n4).1
  have N4 := Lib.hid n4
  have HTR := Lib.hid htr
  have HBW := Lib.hid (below_next hb0 hb4)
  have htl := timesU_len C
  clear c0 c1 n0 n4 hb0 hb4 htr KT
  go_wp2_with fail
  go_loopw [3, 5, 6] (fun z i u wr => ∃ k : Nat, k ≤ (timesU C).length ∧ i = .int .i64 k ∧ OwnR wr W4.heap.size z (((timesU C).take k).foldl (fun l t => layU l t (ratU first C t)) []) ∧ Below W4.heap.size W4 wr) (fun _ i _ _ => (timesU C).length - (intOf i).toNat)
  case atStart => exact ⟨0, by omega, rfl, ⟨rfl, .inl ⟨rfl, rfl⟩⟩, Below.refl _ _⟩
  case round =>
    obtain ⟨k, hk, rfl, ho, hb⟩ := hrel
    have HBr := Lib.hid hb
    have hll := layfold_len (ratU first C) ((timesU C).take k) []
    rw [List.length_take] at hll
    simp only [List.length_nil] at hll
    obtain ⟨l, hl⟩ : ∃ l, l = ((timesU C).take k).foldl (fun l t => layU l t (ratU first C t)) [] := ⟨_, rfl⟩
    rw [← hl] at ho hll
    have HL := Lib.hid hl.symm
    clear hl
    obtain ⟨za, zc, rfl, hza⟩ := ho.form
    have HO := Lib.hid ho
    clear hb ho
    by_cases hlt : k < (timesU C).length
    case neg =>
      have hd : decide (k < (timesU C).length) = false := decide_eq_false hlt
      have hke : k = (timesU C).length := by omega
      have hle : l = listR first C := by rw [← HL.out, hke, List.take_length]; rfl
      have HR := Lib.hid (show OwnR wr w.heap.size (.slice za l.length zc) (listR first C) from own_less (show OwnR wr W4.heap.size (.slice za l.length zc) (listR first C) from hle ▸ HO.out) HBW.out.size)
      clear hle
      have HB9 := Lib.hid (Below.trans HBW.out (Below.mono HBr.out HBW.out.size))
      clear HO hke
      go_wp2_with fail
      go_ret
      exact ⟨_, rfl, HR.out, HB9.out⟩
    case pos =>
      have hd : decide (k < (timesU C).length) = true := decide_eq_true hlt
      have hix : (k : Int) < ((timesU C).length : Int) := by omega
      have hw1 : IntKind.i64.wrap ((k : Int) + 1) = ((k + 1 : Nat) : Int) := by rw [IntKind.wrap_i64]; omega
      have HS := Lib.hid (fold_step (fun l t => layU l t (ratU first C t)) [] (timesU C) (0 : Int) hlt)
      have q0 := (HBr.out.cell (p := ⟨gt, k, none⟩) hgt).trans (HTR.out k hlt)
      generalize (timesU C).getD k 0 = tk at *
      have n1 := (HBr.out.block _ hw4).trans N4.out
      have hw5 := (Array.getElem?_eq_some_iff.1 n1).1
      have c0 := cell_of_block (o := 0) n1 rfl
      have c1 := cell_of_block (o := 1) n1 rfl
      have hgt5 : gt < wr.heap.size := Nat.lt_of_lt_of_le hgt HBr.out.size
      have KA := Lib.hid (fun W (hb : Below wr.heap.size wr W) => rat_any (H.out W (Below.trans HBW.out (Below.trans (Below.mono HBr.out HBW.out.size) (Below.mono hb (Nat.le_trans HBW.out.size HBr.out.size))))) (by omega) first tk)
      obtain ⟨lv, hlv⟩ : ∃ lv, lv = ratU first C tk := ⟨_, rfl⟩
      rw [← hlv] at KA HS
      clear hlv
      go_upto_region 6 with fail
      refine Rl.wp_region_rel (fun a b => Below a.heap.size a b) wr (fun a b c h h' => below_next h h') (fun a => Below.refl _ _) hmx (by kernel_rfl) (Below.refl _ _).drew ?_
      iterate 5 (refine Rl.textR_run ?_ (fun ρ => ?_) (fun ρ W hS hd => ?_) ?_; rotate_left; (focus go_simp); (focus (obtain ⟨hc, hf⟩ := bcell hS; go_simp; first | exact ⟨rfl, Below.refl _ _⟩ | (refine ⟨?_, Below.refl _ _⟩; rfl))); (try go_simp))
      (refine Rl.textR_run ?_ (fun ρ => ?_) (fun ρ W hS hd => ?_) ?_; rotate_left; (focus go_simp); (focus (obtain ⟨hc, hf⟩ := bcell hS; go_simp; refine (KA.out _ hS).mono ?_; rintro e w1 ⟨rfl, hb⟩; refine ⟨_, rfl, ?_, hb⟩; rfl)); (try go_simp))
      (refine Rl.textR_run ?_ (fun ρ => ?_) (fun ρ W hS hd => ?_) ?_; rotate_left; (focus go_simp); (focus (obtain ⟨hc, hf⟩ := bcell hS; go_simp; first | exact ⟨rfl, Below.refl _ _⟩ | (refine ⟨?_, Below.refl _ _⟩; rfl))); (try go_simp))
      refine Rl.textR_nil ?_
      intro ρ w1 hg hk1
      dsimp only
      have HB1 := Lib.hid (Below.trans HBr.out (Below.mono hg HBr.out.size))
      have HO1 := Lib.hid (show OwnR w1 W4.heap.size (.slice za l.length zc) l from Ap.own_below HO.out hg)
      have q0 := (hg.cell (p := ⟨gt, k, none⟩) hgt5).trans q0
      have hza1 : 0 < l.length → ∃ g, za = some ⟨g, 0, none⟩ ∧ w1.cell? ⟨g, (l.length - 1) * 2 + 1, none⟩ = some (.int .i64 (l.getD (l.length - 1) (0, 0)).2) := fun hp => by
        obtain ⟨g, e, _, hgl, hr⟩ := hza hp
        exact ⟨g, e, (hg.cell (p := ⟨g, (l.length - 1) * 2 + 1, none⟩) hgl).trans (hr (l.length - 1) (by omega)).2⟩
      have HZA := Lib.hid hza1
      clear hg hk1 c0 c1 n1 HO KA HBr hza hza1
      by_cases h0 : l.length = 0
      case pos =>
        have hq : ((l.length : Int) == 0) = true := beq_iff_eq.2 (by omega)
        have hnl : l = [] := List.eq_nil_of_length_eq_zero h0
        have HNL := Lib.hid hnl
        clear hnl h0
        go_upto_region 8 with fail
        refine wp_region_lit ?_
        refine wpList_yield (w' := w1) (v := .slice za l.length zc) rfl (by first | (go_simp; done) | (go_simp; rfl)) ?_
        refine wpList_yield (w' := w1) (v := .slice (some ⟨gt, 0, none⟩) (timesU C).length ct) rfl (by first | (go_simp; done) | (go_simp; rfl)) ?_
        refine wpList_yield (w' := w1) (v := .int .i64 k) rfl (by first | (go_simp; done) | (go_simp; rfl)) ?_
        refine wpList_yield (w' := w1) (v := .pointer (some ⟨gt, k, none⟩)) rfl (by first | (go_simp; done) | (go_simp; rfl)) ?_
        refine wpList_yield (w' := w1) (v := .int .i64 tk) rfl (by first | (go_simp; done) | (go_simp; rfl)) ?_
        refine wpList_yield (w' := w1) (v := .int .i64 lv) rfl (by first | (go_simp; done) | (go_simp; rfl)) ?_
        refine wpList_yield (w' := w1) (v := .agg #[.int .i64 tk, .int .i64 lv]) rfl (by first | (go_simp; done) | (go_simp; rfl)) ?_
        refine wpList_yield (w' := w1.alloc (.cells #[.int .i64 tk, .int .i64 lv] 144)) (v := .slice (some ⟨w1.heap.size, 0, none⟩) 1 1) rfl (by first | (go_simp; done) | (go_simp; rfl)) ?_
        have hbA := below_alloc (Below.refl _ w1) (.cells #[.int .i64 tk, .int .i64 lv] 144)
        obtain ⟨v', W2, hrun, hown, _, hbel⟩ := Ap.run_app eltR 141 W4.heap.size _ l.length _ (Ap.own_below HO1.out hbA) _ 1 _ (rd_one w1 #[.int .i64 tk, .int .i64 lv] 144 (size := 2) rfl (by intro u hu; simp at hu; rcases hu with rfl | rfl <;> rfl)) (by unfold maxLen; omega) (by omega) (Nat.le_trans HB1.out.size hbA.size)
        refine wpList_yield (w' := W2) (v := v') rfl (Ap.exec_app rfl (by go_simp) (by go_simp) hrun) ?_
        have HO2 := Lib.hid (show OwnR W2 W4.heap.size v' ((timesU C).take (k + 1) |>.foldl (fun l t => layU l t (ratU first C t)) []) from by
          rw [HS.out, HL.out, show layU l tk lv = l ++ [(tk, lv)] from if_neg (by rw [HNL.out]; simp)]
          unfold OwnR
          rw [List.length_append, flatU_append]
          exact hown)
        have HB2 := Lib.hid (Below.trans HB1.out (Below.trans (Below.mono hbA HB1.out.size) hbel))
        obtain ⟨a2, n2, c2, rfl⟩ : ∃ a n c, v' = .slice a n c := by
          rcases hown.2 with ⟨e, _⟩ | ⟨g, cap, cur, e, _⟩ <;> exact ⟨_, _, _, e⟩
        clear hown hrun hbel hbA q0
        go_wp2_with fail
        exact ⟨⟨k + 1, by omega, rfl, HO2.out, HB2.out⟩, by show (timesU C).length - (((k + 1 : Nat) : Int)).toNat < (timesU C).length - ((k : Int)).toNat; omega⟩
      case neg =>
        have hq : ((l.length : Int) == 0) = false := beq_false_of_ne (by omega)
        obtain ⟨g, rfl, q1⟩ := HZA.out (by omega)
        have hwl : IntKind.i64.wrap ((l.length : Int) - 1) = ((l.length - 1 : Nat) : Int) := by rw [IntKind.wrap_i64]; omega
        have hix2 : ((l.length - 1 : Nat) : Int) < (l.length : Int) := by omega
        have HLG := Lib.hid (last_getD (l := l) (by omega))
        by_cases hv : (l.getD (l.length - 1) (0, 0)).2 = lv
        case pos =>
          have hqv : ((l.getD (l.length - 1) (0, 0)).2 == lv) = true := beq_iff_eq.2 hv
          have HO2 := Lib.hid (show OwnR w1 W4.heap.size (.slice (some ⟨g, 0, none⟩) l.length zc) ((timesU C).take (k + 1) |>.foldl (fun l t => layU l t (ratU first C t)) []) from by
            rw [HS.out, HL.out, show layU l tk lv = l from if_pos (by rw [HLG.out]; simp only [Option.map_some]; rw [hv])]
            exact HO1.out)
          clear hv
          generalize (l.getD (l.length - 1) (0, 0)).2 = lw at *
          go_wp2_with fail
          exact ⟨⟨k + 1, by omega, rfl, HO2.out, HB1.out⟩, by show (timesU C).length - (((k + 1 : Nat) : Int)).toNat < (timesU C).length - ((k : Int)).toNat; omega⟩
        case neg =>
          have hqv : ((l.getD (l.length - 1) (0, 0)).2 == lv) = false := beq_false_of_ne hv
          have HNE := Lib.hid (show ¬ l.getLast?.map (·.2) = some lv from by rw [HLG.out]; simp only [Option.map_some]; intro e; exact hv (by simpa using e))
          clear hv HLG
          generalize (l.getD (l.length - 1) (0, 0)).2 = lw at *
          go_upto_region 8 with fail
          refine wp_region_lit ?_
          refine wpList_yield (w' := w1) (v := .slice (some ⟨g, 0, none⟩) l.length zc) rfl (by first | (go_simp; done) | (go_simp; rfl)) ?_
          refine wpList_yield (w' := w1) (v := .slice (some ⟨gt, 0, none⟩) (timesU C).length ct) rfl (by first | (go_simp; done) | (go_simp; rfl)) ?_
          refine wpList_yield (w' := w1) (v := .int .i64 k) rfl (by first | (go_simp; done) | (go_simp; rfl)) ?_
          refine wpList_yield (w' := w1) (v := .pointer (some ⟨gt, k, none⟩)) rfl (by first | (go_simp; done) | (go_simp; rfl)) ?_
          refine wpList_yield (w' := w1) (v := .int .i64 tk) rfl (by first | (go_simp; done) | (go_simp; rfl)) ?_
          refine wpList_yield (w' := w1) (v := .int .i64 lv) rfl (by first | (go_simp; done) | (go_simp; rfl)) ?_
          refine wpList_yield (w' := w1) (v := .agg #[.int .i64 tk, .int .i64 lv]) rfl (by first | (go_simp; done) | (go_simp; rfl)) ?_
          refine wpList_yield (w' := w1.alloc (.cells #[.int .i64 tk, .int .i64 lv] 144)) (v := .slice (some ⟨w1.heap.size, 0, none⟩) 1 1) rfl (by first | (go_simp; done) | (go_simp; rfl)) ?_
          have hbA := below_alloc (Below.refl _ w1) (.cells #[.int .i64 tk, .int .i64 lv] 144)
          obtain ⟨v', W2, hrun, hown, _, hbel⟩ := Ap.run_app eltR 141 W4.heap.size _ l.length _ (Ap.own_below HO1.out hbA) _ 1 _ (rd_one w1 #[.int .i64 tk, .int .i64 lv] 144 (size := 2) rfl (by intro u hu; simp at hu; rcases hu with rfl | rfl <;> rfl)) (by unfold maxLen; omega) (by omega) (Nat.le_trans HB1.out.size hbA.size)
          refine wpList_yield (w' := W2) (v := v') rfl (Ap.exec_app rfl (by go_simp) (by go_simp) hrun) ?_
          have HO2 := Lib.hid (show OwnR W2 W4.heap.size v' ((timesU C).take (k + 1) |>.foldl (fun l t => layU l t (ratU first C t)) []) from by
            rw [HS.out, HL.out, show layU l tk lv = l ++ [(tk, lv)] from if_neg (by exact HNE.out)]
            unfold OwnR
            rw [List.length_append, flatU_append]
            exact hown)
          have HB2 := Lib.hid (Below.trans HB1.out (Below.trans (Below.mono hbA HB1.out.size) hbel))
          obtain ⟨a2, n2, c2, rfl⟩ : ∃ a n c, v' = .slice a n c := by
            rcases hown.2 with ⟨e, _⟩ | ⟨g, cap, cur, e, _⟩ <;> exact ⟨_, _, _, e⟩
          clear hown hrun hbel hbA q0
          go_wp2_with fail
          exact ⟨⟨k + 1, by omega, rfl, HO2.out, HB2.out⟩, by show (timesU C).length - (((k + 1 : Nat) : Int)).toNat < (timesU C).length - ((k : Int)).toNat; omega⟩
set_option maxRecDepth 100000 in
set_option maxHeartbeats 8000000 in
theorem like_any {w : World} {S : Nat} {L : List (Int × Int)} {v : Value} {C : List ChgC} {first : Int} (h : USt w S L) (hr : RightU L) (hc : RowC w v C) (hlen : C.length ≤ 1048576) (hlk : LikeU first L C) :
    Calls Tryd.prog 26 #[.pointer (some ⟨S, 0, none⟩), .agg #[.int .i64 first, v]] w fun e w' => e = .returned (.int .i64 1) ∧ Below w.heap.size w w' := by
  have hmx : Tryd.prog.follows .mixedOrders = true := by kernel_rfl
  have hLL := like_list hlk hr
  obtain ⟨ad, cp, hv⟩ := hc.form
  have hpos := hr.pos
  have hlenL := h.len
  have hb0 := below_alloc (Below.refl _ w) (.cells #[.int .i64 first, v] 67)
  have n0 := World.alloc_heap_new w (.cells #[.int .i64 first, v] 67)
  have H := Lib.hid (fun W (hb : Below w.heap.size w W) => hc.below hb)
  have HU := Lib.hid (fun W (hb : Below w.heap.size w W) => h.below hb)
  clear h hc hlk hr
  subst hv
  go_enter Tryd.func26, Tryd.ntmps26
  go_upto_region 1 with fail
  generalize w.alloc (.cells #[.int .i64 first, .slice ad C.length cp] 67) = W at *
  have hW := (Array.getElem?_eq_some_iff.1 n0).1
  refine Ap.wp_region_K (S1 := fun X => X.cell? ⟨w.heap.size, 0, none⟩ = some (.int .i64 first) ∧ X.cell? ⟨w.heap.size, 1, none⟩ = some (.slice ad C.length cp)) (S2 := fun _ => True) (js := 5) hmx ?_
  change Ap.wpAnyK _ _ _ _ _ _ _ 6 _ _ W.drew
  have hSS : (fun X : World => X.cell? ⟨w.heap.size, 0, none⟩ = some (.int .i64 first) ∧ X.cell? ⟨w.heap.size, 1, none⟩ = some (.slice ad C.length cp)) W.drew ∧ (fun _ : World => True) W.drew := ⟨⟨cell_of_block n0 rfl, cell_of_block n0 rfl⟩, trivial⟩
  have hbd : Below w.heap.size w W.drew := Below.drew hb0
  refine Ap.wpAnyK_take1 (i := 0) (v := .pointer (some ⟨S, 0, none⟩)) rfl (by decide) (by decide +kernel) (by decide +kernel) (by decide +kernel) (fun _ _ _ h => h) (.inl ⟨by first | rfl | (go_simp; done), fun X hX => by have hx1 := hX.1; have hx2 := hX.2; clear hX; first | (go_simp; done) | (go_simp; rfl)⟩) hSS ?_
  refine Ap.wpAnyK_take1 (i := 2) (v := .agg #[.int .i64 first, .slice ad C.length cp]) rfl (by decide) (by decide +kernel) (by decide +kernel) (by decide +kernel) (fun _ _ _ h => h) (.inl ⟨by first | rfl | (go_simp; done), fun X hX => by have hx1 := hX.1; have hx2 := hX.2; clear hX; first | (go_simp; done) | (go_simp; rfl)⟩) hSS ?_
  refine Ap.anyK_call (i := 1) (by decide +kernel) rfl rfl (by go_simp) (list_any (HU.out _ hbd)) ?_
  rintro e X ⟨g, c, rfl, g1, g2, g3, g4, hbx⟩
  have hS1 : (fun X : World => X.cell? ⟨w.heap.size, 0, none⟩ = some (.int .i64 first) ∧ X.cell? ⟨w.heap.size, 1, none⟩ = some (.slice ad C.length cp)) X := ⟨(hbx.cell (p := ⟨w.heap.size, 0, none⟩) hW).trans hSS.1.1, (hbx.cell (p := ⟨w.heap.size, 1, none⟩) hW).trans hSS.1.2⟩
  refine ⟨_, rfl, ⟨hS1, fun _ => trivial⟩, ?_⟩
  refine Ap.anyK_call (i := 3) (by decide +kernel) rfl rfl (by go_simp) (rlist_any (H.out _ (below_next hbd hbx)) hlen first) ?_
  rintro e X2 ⟨v2, rfl, ho, hbx2⟩
  rw [hLL] at ho
  obtain ⟨ad2, c2, rfl, hf⟩ := ho.form
  obtain ⟨g9, rfl, h9, h10, h11⟩ := hf hpos
  have hWX : w.heap.size < X.heap.size := Nat.lt_of_lt_of_le hW hbx.size
  have hS2 : (fun X : World => X.cell? ⟨w.heap.size, 0, none⟩ = some (.int .i64 first) ∧ X.cell? ⟨w.heap.size, 1, none⟩ = some (.slice ad C.length cp)) X2 := ⟨(hbx2.cell (p := ⟨w.heap.size, 0, none⟩) hWX).trans hS1.1, (hbx2.cell (p := ⟨w.heap.size, 1, none⟩) hWX).trans hS1.2⟩
  refine ⟨_, rfl, ⟨hS2, fun _ => trivial⟩, ?_⟩
  have HR1 := Lib.hid (show URow X2 g L from g4.mono (hbx2.block g g2))
  have HR2 := Lib.hid h11
  have hg2 : g < X2.heap.size := Nat.lt_of_lt_of_le g2 hbx2.size
  have HB := Lib.hid (below_next (below_next hbd hbx) hbx2)
  clear ho hf h11 g4 hbx hbx2 hS1 hSS n0 hb0 hbd hLL
  refine Ap.anyK_val1 (i := 4) (v := .slice (some ⟨g, 0, none⟩) L.length c) (w' := X2) (by decide +kernel) rfl rfl (by first | (go_simp; done) | (go_simp; rfl)) ⟨hS2, trivial⟩ ?_
  refine Ap.anyK_val1 (i := 5) (v := .slice (some ⟨g9, 0, none⟩) L.length c2) (w' := X2) (by decide +kernel) rfl rfl (by first | (go_simp; done) | (go_simp; rfl)) ⟨hS2, trivial⟩ ?_
  refine Ap.wpAnyK_done (by decide +kernel) ?_ _
  clear hS2
  go_wp2_with fail
  go_loopw [7] (fun i wr => ∃ k : Nat, k ≤ L.length ∧ i = .int .i64 k ∧ Below X2.heap.size X2 wr) (fun i _ => L.length - (intOf i).toNat)
  case atStart => exact ⟨0, by omega, rfl, Below.refl _ _⟩
  case round =>
    obtain ⟨k, hk, rfl, hb⟩ := hrel
    have HBr := Lib.hid hb
    by_cases hlt : k < L.length
    case neg =>
      have hd : decide (k < L.length) = false := decide_eq_false hlt
      clear hb
      go_wp2_with fail
      go_ret
      exact ⟨rfl, below_next HB.out HBr.out⟩
    case pos =>
      have hd : decide (k < L.length) = true := decide_eq_true hlt
      have hix : (k : Int) < (L.length : Int) := by omega
      have hw1 : IntKind.i64.wrap ((k : Int) + 1) = ((k + 1 : Nat) : Int) := by rw [IntKind.wrap_i64]; omega
      have q0 := (hb.cell (p := ⟨g, k * 2, none⟩) hg2).trans (HR1.out k hlt).1
      have q1 := (hb.cell (p := ⟨g, k * 2 + 1, none⟩) hg2).trans (HR1.out k hlt).2
      have r0 := (hb.cell (p := ⟨g9, k * 2, none⟩) h10).trans (HR2.out k hlt).1
      have r1 := (hb.cell (p := ⟨g9, k * 2 + 1, none⟩) h10).trans (HR2.out k hlt).2
      have hgw : g < wr.heap.size := Nat.lt_of_lt_of_le hg2 hb.size
      have hgw9 : g9 < wr.heap.size := Nat.lt_of_lt_of_le h10 hb.size
      generalize L.getD k (0, 0) = p at *
      obtain ⟨p1, p2⟩ := p
      simp only at q0 q1 r0 r1
      clear hb
      go_upto_region 7 with fail
      refine Rl.wp_region_rel (fun a b => Below a.heap.size a b) wr (fun a b c h h' => below_next h h') (fun a => Below.refl _ _) hmx (by kernel_rfl) (Below.refl _ _).drew ?_
      iterate 24 (refine Rl.textR_run ?_ (fun ρ => ?_) (fun ρ W hS hd => ?_) ?_; rotate_left; (focus go_simp); (focus (obtain ⟨hc, hf⟩ := bcell hS; go_simp; first | exact ⟨rfl, Below.refl _ _⟩ | (refine ⟨?_, Below.refl _ _⟩; rfl))); (try go_simp))
      refine Rl.textR_nil ?_
      intro ρ w1 hg hk1
      dsimp only
      have HB1 := Lib.hid (below_next HBr.out hg)
      clear hg hk1 q0 q1 r0 r1
      go_wp2_with fail
      exact ⟨⟨k + 1, by omega, rfl, HB1.out⟩, by show L.length - (((k + 1 : Nat) : Int)).toNat < L.length - ((k : Int)).toNat; omega⟩
end Go.Proofs.YtdamemdfehopeaaDoor
namespace Go.Proofs.YtdamemdfehopeaaDoor
set_option linter.unusedVariables false
open Go.ChangeShapes Go.WideShapes Go.ChangeAt Go.RowKit
attribute [local go_sem ↓] Go.wp_at_zero Go.wp_at_succ comesTo_value_eq comesTo_skip_eq comesTo_enter_eq

def endAt (l : List Int) (j : Nat) : Int := if j + 1 < l.length then l.getD (j + 1) 0 else 1099511627776
/-- what In has told of the first k parts -/
def inPre (first : Int) (C : List ChgC) (P : Int × Int) (l : List Int) (k : Nat) : List (Int × Int) := (List.range k).flatMap fun j => inStep first C P (l.getD j 0) (endAt l j)
theorem inPre_succ (first : Int) (C : List ChgC) (P : Int × Int) (l : List Int) (k : Nat) : inPre first C P l (k + 1) = inPre first C P l k ++ inStep first C P (l.getD k 0) (endAt l k) := by
  unfold inPre
  rw [List.range_succ, List.flatMap_append]
  simp
theorem endAt_zero (x : Int) (r : List Int) : endAt (x :: r) 0 = endT r := by
  unfold endAt endT
  cases r with
  | nil => simp
  | cons y s => simp
theorem endAt_succ (x : Int) (r : List Int) (j : Nat) : endAt (x :: r) (j + 1) = endAt r j := by
  unfold endAt
  simp only [List.length_cons, Nat.add_lt_add_iff_right, List.getD_cons_succ]
theorem inPre_all (first : Int) (C : List ChgC) (P : Int × Int) (l : List Int) : inPre first C P l l.length = inU first C P l := by
  unfold inPre
  generalize hF : inStep first C P = F
  have key : ∀ l : List Int, ((List.range l.length).flatMap fun j => F (l.getD j 0) (endAt l j)) = inU first C P l := by
    intro l
    induction l with
    | nil => rfl
    | cons x r ih =>
      rw [List.length_cons, List.range_succ_eq_map, List.flatMap_cons, List.flatMap_map]
      simp only [List.getD_cons_zero, List.getD_cons_succ, endAt_zero, Nat.succ_eq_add_one, endAt_succ]
      rw [ih]
      show F x (endT r) ++ inU first C P r = inStep first C P x (endT r) ++ inU first C P r
      rw [hF]
  exact key l
theorem inStep_len (first : Int) (C : List ChgC) (P : Int × Int) (x e : Int) : (inStep first C P x e).length ≤ 1 := by
  unfold inStep
  split <;> simp
theorem inPre_len (first : Int) (C : List ChgC) (P : Int × Int) (l : List Int) (k : Nat) : (inPre first C P l k).length ≤ k := by
  induction k with
  | zero => simp [inPre]
  | succ k ih =>
    rw [inPre_succ, List.length_append]
    have := inStep_len first C P (l.getD k 0) (endAt l k)
    omega
theorem info_int10 : (Tryd.prog.info? 3).map (fun i => (i.zero, i.size, i.bytes)) = some (some (.int .i64 0), 1, 8) := by kernel_rfl
theorem eltI : Ap.Elt Tryd.prog 47 3 1 8 :=
  ⟨Tryd.underlying47, by obtain ⟨i, h1, h2, h3, h4⟩ := info_parts3 info_int10; exact ⟨i, _, h1, h2, h3, h4, rfl⟩, by decide⟩
/-- an own row of numbers -/
def OwnN (w : World) (B : Nat) (e : TypeId) (v : Value) (l : List Int) : Prop := w.ownsRow B e 1 v l.length (flatT l)
theorem OwnN.form {w : World} {B : Nat} {e : TypeId} {v : Value} {l : List Int} (h : OwnN w B e v l) : ∃ ad c, v = .slice ad l.length c ∧ (0 < l.length → ∃ g, ad = some ⟨g, 0, none⟩ ∧ B ≤ g ∧ g < w.heap.size ∧ ∀ k, k < l.length → w.cell? ⟨g, k, none⟩ = some (.int .i64 (l.getD k 0))) := by
  rcases h.2 with ⟨e', h0⟩ | ⟨g, cap, cur, e', hB, hg, hc, _⟩
  · exact ⟨none, 0, by rw [e', h0], fun h => by omega⟩
  · refine ⟨_, cap, e', fun _ => ⟨g, rfl, hB, (Array.getElem?_eq_some_iff.1 hg).1, fun k hk => ?_⟩⟩
    have h' : w.ownsRow B e 1 (.slice (some ⟨g, 0, none⟩) l.length cap) l.length (flatT l) := by rw [← e']; exact h
    refine (h'.cellAt k (by omega)).trans ?_
    unfold flatT
    rw [List.getElem?_map, List.getElem?_eq_getElem hk, List.getD_eq_getElem?_getD, List.getElem?_eq_getElem hk]
    rfl
/-- rows of other elements lie apart -/
theorem OwnN.apart {w : World} {B B' : Nat} {e e' : TypeId} {v v' : Value} {l l' : List Int} (h : OwnN w B e v l) (h' : OwnN w B' e' v' l') (hne : e ≠ e') : ∀ k, v.ownBlock = some k → v'.ownBlock ≠ some k := by
  intro k hk hk'
  rcases h.2 with ⟨rfl, _⟩ | ⟨g, cap, cur, rfl, _, hg, _⟩
  · cases hk
  · rcases h'.2 with ⟨rfl, _⟩ | ⟨g', cap', cur', rfl, _, hg', _⟩
    · cases hk'
    · simp only [Value.ownBlock, Option.some.injEq] at hk hk'
      subst hk
      subst hk'
      rw [hg] at hg'
      have := Option.some.inj hg'
      injection this with _ h2
      exact hne h2
theorem OwnN.ne_block {w : World} {B b : Nat} {e T : TypeId} {v : Value} {l : List Int} {cs : Array Value} {fr : Nat × Nat} (h : OwnN w B e v l) (hb : w.heap[b]? = some (.cells cs T fr)) (hT : T ≠ e) : v.ownBlock ≠ some b := by
  intro hk
  rcases h.2 with ⟨rfl, _⟩ | ⟨g, cap, cur, rfl, _, hg, _⟩
  · cases hk
  · simp only [Value.ownBlock, Option.some.injEq] at hk
    subst hk
    rw [hg] at hb
    have := Option.some.inj hb
    injection this with _ h2
    exact hT h2.symm
set_option maxRecDepth 100000 in
set_option maxHeartbeats 16000000 in
theorem rin_any {w : World} {v : Value} {C : List ChgC} (h : RowC w v C) (hlen : C.length ≤ 1048576) (first f t : Int) :
    Calls Tryd.prog 143 #[.agg #[.int .i64 first, v], .agg #[.int .i64 f, .int .i64 t]] w fun e w' => ∃ v1 v2, e = .returned (.tuple #[v1, v2]) ∧ OwnN w' w.heap.size 3 v1 ((inL first C f t).map (·.1)) ∧ OwnN w' w.heap.size 2 v2 ((inL first C f t).map (·.2)) ∧ Below w.heap.size w w' := by
  have hmx : Tryd.prog.follows .mixedOrders = true := by kernel_rfl
  obtain ⟨ad, cp, hv⟩ := h.form
  have hb0 := below_alloc (below_alloc (Below.refl _ w) (.cells #[.int .i64 first, v] 67)) (.cells #[.int .i64 f, .int .i64 t] 76)
  have hs1 : (w.alloc (.cells #[.int .i64 first, v] 67)).heap.size = w.heap.size + 1 := by simp
  have n1 := World.alloc_heap_new (w.alloc (.cells #[.int .i64 first, v] 67)) (.cells #[.int .i64 f, .int .i64 t] 76)
  rw [hs1] at n1
  have n0 := ((below_alloc (Below.refl _ (w.alloc (.cells #[.int .i64 first, v] 67))) (.cells #[.int .i64 f, .int .i64 t] 76)).block w.heap.size (by omega)).trans (World.alloc_heap_new w (.cells #[.int .i64 first, v] 67))
  have H := Lib.hid (fun W (hb : Below w.heap.size w W) => h.below hb)
  clear h hs1
  subst hv
  obtain ⟨cF, hcF⟩ : ∃ x, x = (cleanI (f, t)).1 := ⟨_, rfl⟩
  obtain ⟨cT, hcT⟩ : ∃ x, x = (cleanI (f, t)).2 := ⟨_, rfl⟩
  have KCl := Lib.hid (show ∀ W, Calls Tryd.prog 141 #[.agg #[.int .i64 f, .int .i64 t]] W fun e w' => e = .returned (.agg #[.int .i64 cF, .int .i64 cT]) ∧ Below W.heap.size W w' from fun W => by rw [hcF, hcT]; exact rclean_any f t W)
  have hin : inL first C f t = inU first C (cF, cT) (putT (timesU C) cF) := by unfold inL; rw [hcF, hcT]
  rw [hin]
  clear hin hcF hcT
  go_enter Tryd.func143, Tryd.ntmps143
  go_upto_region 1 with fail
  generalize (w.alloc (.cells #[.int .i64 first, .slice ad C.length cp] 67)).alloc (.cells #[.int .i64 f, .int .i64 t] 76) = W at *
  have c0 := cell_of_block (o := 0) n1 rfl
  have c1 := cell_of_block (o := 1) n1 rfl
  go_wp2_with fail
  refine (KCl.out _).mono ?_
  rintro e W2 ⟨rfl, hb2⟩
  have k0 := (Array.getElem?_eq_some_iff.1 n0).1
  have k1 := (Array.getElem?_eq_some_iff.1 n1).1
  have m0 := (hb2.block _ k0).trans n0
  have m1 := (hb2.block _ k1).trans n1
  have d0 := cell_of_block (o := 0) m1 rfl
  have d1 := cell_of_block (o := 1) m1 rfl
  have f0 := free_of_block 0 m1
  have f1 := free_of_block 1 m1
  have hw := ((wrote_refl m1).set 0 (.int .i64 cF)).set 1 (.int .i64 cT)
  have HB3 := Lib.hid (hw.below (below_next hb0 hb2) (by omega))
  have HS3 := Lib.hid ((hw.rest w.heap.size (by omega)).trans m0)
  have HP3 := Lib.hid hw.there
  clear c0 c1 hw m0 m1 n0 n1 hb0 hb2
  go_upto_region 4 with fail
  clear d0 d1 f0 f1
  generalize ((W2.setCell ⟨w.heap.size + 1, 0, none⟩ (.int .i64 cF)).setCell ⟨w.heap.size + 1, 1, none⟩ (.int .i64 cT)) = W3 at *
  have p0 := (Array.getElem?_eq_some_iff.1 HS3.out).1
  have p1 := (Array.getElem?_eq_some_iff.1 HP3.out).1
  refine Ap.wp_region_K (S1 := fun X => X.heap[w.heap.size]? = some (.cells #[.int .i64 first, .slice ad C.length cp] 67 (0, 0)) ∧ X.heap[w.heap.size + 1]? = some (.cells #[.int .i64 cF, .int .i64 cT] 76 (0, 0))) (S2 := fun _ => True) (js := 5) hmx ?_
  change Ap.wpAnyK _ _ _ _ _ _ _ 6 _ _ W3.drew
  have hSS : (fun X : World => X.heap[w.heap.size]? = some (.cells #[.int .i64 first, .slice ad C.length cp] 67 (0, 0)) ∧ X.heap[w.heap.size + 1]? = some (.cells #[.int .i64 cF, .int .i64 cT] 76 (0, 0))) W3.drew ∧ (fun _ : World => True) W3.drew := ⟨⟨HS3.out, HP3.out⟩, trivial⟩
  refine Ap.wpAnyK_take1 (i := 0) (v := .agg #[.int .i64 first, .slice ad C.length cp]) rfl (by decide) (by decide +kernel) (by decide +kernel) (by decide +kernel) (fun _ _ _ h => h) (.inl ⟨by first | rfl | (go_simp; done), fun X hX => by have hx1 := cell_of_block (o := 0) hX.1 rfl; have hx2 := cell_of_block (o := 1) hX.1 rfl; have hx3 := cell_of_block (o := 0) hX.2 rfl; have hx4 := cell_of_block (o := 1) hX.2 rfl; clear hX; first | (go_simp; done) | (go_simp; rfl)⟩) hSS ?_
  refine Ap.wpAnyK_take1 (i := 2) (v := .pointer (some ⟨w.heap.size + 1, 0, none⟩)) rfl (by decide) (by decide +kernel) (by decide +kernel) (by decide +kernel) (fun _ _ _ h => h) (.inl ⟨by first | rfl | (go_simp; done), fun X hX => by have hx1 := cell_of_block (o := 0) hX.1 rfl; have hx2 := cell_of_block (o := 1) hX.1 rfl; have hx3 := cell_of_block (o := 0) hX.2 rfl; have hx4 := cell_of_block (o := 1) hX.2 rfl; clear hX; first | (go_simp; done) | (go_simp; rfl)⟩) hSS ?_
  refine Ap.wpAnyK_take1 (i := 3) (v := .int .i64 cF) rfl (by decide) (by decide +kernel) (by decide +kernel) (by decide +kernel) (fun _ _ _ h => h) (.inl ⟨by first | rfl | (go_simp; done), fun X hX => by have hx1 := cell_of_block (o := 0) hX.1 rfl; have hx2 := cell_of_block (o := 1) hX.1 rfl; have hx3 := cell_of_block (o := 0) hX.2 rfl; have hx4 := cell_of_block (o := 1) hX.2 rfl; clear hX; first | (go_simp; done) | (go_simp; rfl)⟩) hSS ?_
  refine Ap.anyK_call (i := 1) (by decide +kernel) rfl rfl (by go_simp) (rtimes_list (H.out _ (Below.drew HB3.out)) hlen first) ?_
  rintro e X ⟨v1, rfl, hr1, hbx1⟩
  have hS1 : (fun X : World => X.heap[w.heap.size]? = some (.cells #[.int .i64 first, .slice ad C.length cp] 67 (0, 0)) ∧ X.heap[w.heap.size + 1]? = some (.cells #[.int .i64 cF, .int .i64 cT] 76 (0, 0))) X := ⟨(hbx1.block _ p0).trans hSS.1.1, (hbx1.block _ p1).trans hSS.1.2⟩
  refine ⟨_, rfl, ⟨hS1, fun _ => trivial⟩, ?_⟩
  obtain ⟨g1, n1, cp1, rfl⟩ : ∃ g n c, v1 = .slice (some ⟨g, 0, none⟩) n c := by obtain ⟨g, c, e, _⟩ := hr1; exact ⟨_, _, _, e⟩
  have htl := timesU_len C
  refine Ap.anyK_call (i := 4) (by decide +kernel) rfl rfl (by go_simp) (rput_any hr1 (by omega) cF) ?_
  rintro e X2 ⟨v2, rfl, hr2, hbx2⟩
  have hx1s := hbx1.size
  have hS2 : (fun X : World => X.heap[w.heap.size]? = some (.cells #[.int .i64 first, .slice ad C.length cp] 67 (0, 0)) ∧ X.heap[w.heap.size + 1]? = some (.cells #[.int .i64 cF, .int .i64 cT] 76 (0, 0))) X2 := ⟨(hbx2.block _ (Nat.lt_of_lt_of_le p0 hx1s)).trans hS1.1, (hbx2.block _ (Nat.lt_of_lt_of_le p1 hx1s)).trans hS1.2⟩
  refine ⟨_, rfl, ⟨hS2, fun _ => trivial⟩, ?_⟩
  have hpl := putT_len (timesU C) cF
  obtain ⟨l, hlE⟩ : ∃ l, l = putT (timesU C) cF := ⟨_, rfl⟩
  rw [← hlE] at hr2 hpl
  have HLE := Lib.hid hlE.symm
  clear hlE
  obtain ⟨gl, cl, rfl, hcl, hgl, hrl⟩ := hr2
  refine Ap.anyK_val1 (i := 5) (v := .slice (some ⟨gl, 0, none⟩) l.length cl) (w' := X2) (by decide +kernel) rfl rfl (by first | (go_simp; done) | (go_simp; rfl)) ⟨hS2, trivial⟩ ?_
  refine Ap.wpAnyK_done (by decide +kernel) ?_ _
  have HB4 := Lib.hid (below_next (below_next (Below.drew HB3.out) hbx1) hbx2)
  have HS4 := Lib.hid hS2.1
  have HP4 := Lib.hid hS2.2
  have HL := Lib.hid hrl
  clear hrl hS2 hS1 hSS hbx1 hbx2 hr1 HB3 HS3 HP3 hx1s
  have p0 := (Array.getElem?_eq_some_iff.1 HS4.out).1
  have p1 := (Array.getElem?_eq_some_iff.1 HP4.out).1
  go_wp2_with fail
  go_loopw [6, 7, 9, 10, 11] (fun o m i e b wr => ∃ k : Nat, k ≤ l.length ∧ i = .int .i64 k ∧ OwnN wr X2.heap.size 3 o ((inPre first C (cF, cT) l k).map (·.1)) ∧ OwnN wr X2.heap.size 2 m ((inPre first C (cF, cT) l k).map (·.2)) ∧ Below X2.heap.size X2 wr) (fun _ _ i _ _ _ => l.length - (intOf i).toNat)
  case atStart => exact ⟨0, by omega, rfl, ⟨rfl, .inl ⟨rfl, rfl⟩⟩, ⟨rfl, .inl ⟨rfl, rfl⟩⟩, Below.refl _ _⟩
  case round =>
    obtain ⟨k, hk, rfl, ho, hm, hb⟩ := hrel
    have hpl2 := inPre_len first C (cF, cT) l k
    have HBr := Lib.hid hb
    obtain ⟨oa, oc, rfl, _⟩ := ho.form
    obtain ⟨ma, mc, rfl, _⟩ := hm.form
    rw [List.length_map] at ho hm
    rw [List.length_map, List.length_map]
    obtain ⟨np, hnp⟩ : ∃ n, n = (inPre first C (cF, cT) l k).length := ⟨_, rfl⟩
    rw [← hnp] at ho hm hpl2 ⊢
    have HNP := Lib.hid hnp
    have HO := Lib.hid ho
    have HM := Lib.hid hm
    clear hb ho hm hnp
    by_cases hlt : k < l.length
    case neg =>
      have hd : decide (k < l.length) = false := decide_eq_false hlt
      have hke : k = l.length := by omega
      have HR1 := Lib.hid (show OwnN wr w.heap.size 3 (.slice oa np oc) ((inU first C (cF, cT) l).map (·.1)) from own_less (by have := HO.out; rw [hke, inPre_all] at this; exact this) HB4.out.size)
      have HR2 := Lib.hid (show OwnN wr w.heap.size 2 (.slice ma np mc) ((inU first C (cF, cT) l).map (·.2)) from own_less (by have := HM.out; rw [hke, inPre_all] at this; exact this) HB4.out.size)
      have HB9 := Lib.hid (Below.trans HB4.out (Below.mono HBr.out HB4.out.size))
      clear HO HM hke
      go_wp2_with fail
      go_ret2
      exact ⟨.slice oa np oc, .slice ma np mc, rfl, by rw [HLE.out]; exact HR1.out, by rw [HLE.out]; exact HR2.out, HB9.out⟩
    case pos =>
      have hd : decide (k < l.length) = true := decide_eq_true hlt
      have hix : (k : Int) < (l.length : Int) := by omega
      have hw1 : IntKind.i64.wrap ((k : Int) + 1) = ((k + 1 : Nat) : Int) := by rw [IntKind.wrap_i64]; omega
      have q0 := (HBr.out.cell (p := ⟨gl, k, none⟩) hgl).trans (HL.out k hlt)
      have hglr : gl < wr.heap.size := Nat.lt_of_lt_of_le hgl HBr.out.size
      go_upto_if 29 with fail
      go_cut [10] (fun s wx => s = .int .i64 (endAt l k) ∧ wx = wr)
      case first =>
        by_cases h1 : k + 1 < l.length
        case pos =>
          have hd1 : decide (k + 1 < l.length) = true := decide_eq_true h1
          have hix1 : ((k + 1 : Nat) : Int) < (l.length : Int) := by omega
          have q1 := (HBr.out.cell (p := ⟨gl, k + 1, none⟩) hgl).trans (HL.out (k + 1) h1)
          have E := Lib.hid (show endAt l k = l.getD (k + 1) 0 by unfold endAt; rw [if_pos h1])
          generalize l.getD (k + 1) 0 = y at *
          go_wp2_with fail
          go_meet
          exact ⟨by rw [E.out], rfl⟩
        case neg =>
          have hd1 : decide (k + 1 < l.length) = false := decide_eq_false h1
          have E := Lib.hid (show endAt l k = 1099511627776 by unfold endAt; rw [if_neg h1])
          go_wp2_with fail
          go_meet
          exact ⟨by rw [E.out], rfl⟩
      case rest =>
      obtain ⟨rfl, hwc⟩ := hcut
      rw [hwc]
      clear hwc
      have HPS := Lib.hid (inPre_succ first C (cF, cT) l k)
      generalize endAt l k = e at *
      generalize l.getD k 0 = x at *
      have s4 := (HBr.out.block _ p0).trans HS4.out
      have s5 := (HBr.out.block _ p1).trans HP4.out
      have s4l := (Array.getElem?_eq_some_iff.1 s4).1
      have s5l := (Array.getElem?_eq_some_iff.1 s5).1
      have t0 := cell_of_block (o := 0) s5 rfl
      have t1 := cell_of_block (o := 1) s5 rfl
      obtain ⟨z1, hz1⟩ : ∃ z, z = (cutI (cF, cT) (x, e)).1 := ⟨_, rfl⟩
      obtain ⟨z2, hz2⟩ : ∃ z, z = (cutI (cF, cT) (x, e)).2 := ⟨_, rfl⟩
      have KC := Lib.hid (fun W => (show Calls Tryd.prog 151 #[.agg #[.int .i64 cF, .int .i64 cT], .agg #[.int .i64 x, .int .i64 e]] W fun e w' => e = .returned (.agg #[.int .i64 z1, .int .i64 z2]) ∧ Below W.heap.size W w' from by rw [hz1, hz2]; exact rcut_any cF cT x e W))
      have hz1b : 0 ≤ z1 ∧ z1 ≤ 1099511627776 ∧ 0 ≤ z2 ∧ z2 ≤ 1099511627776 := by
        rw [hz1, hz2]
        have a1 := clampI_bounds cF
        have a2 := clampI_bounds cT
        have a3 := clampI_bounds x
        have a4 := clampI_bounds e
        unfold cutI bothT bothF
        simp only
        split
        · simp
        · simp only; omega
      have HST := Lib.hid (show inStep first C (cF, cT) x e = if z1 < z2 then [(ratU first C z1, z2 - z1)] else [] by rw [hz1, hz2]; rfl)
      clear hz1 hz2
      go_upto_region 11 with fail
      refine wp_region_boxes wr (by kernel_rfl) (by kernel_rfl) (Below.refl _ _) ?_
      (refine textB_det ?_ rfl rfl ?_ (fun W hS => ?_) ?_; rotate_left; (focus go_simp); (focus (obtain ⟨hc, hf⟩ := bcell hS; go_simp; first | (refine ⟨?_, Below.refl _ _⟩; rfl) | rfl | exact Below.refl _ _)); (try go_simp))
      (refine textB_det ?_ rfl rfl ?_ (fun W hS => ?_) ?_; rotate_left; (focus go_simp); (focus (obtain ⟨hc, hf⟩ := bcell hS; go_simp; first | (refine ⟨?_, Below.refl _ _⟩; rfl) | rfl | exact Below.refl _ _)); (try go_simp))
      (refine textB_det ?_ rfl rfl ?_ (fun W hS => ?_) ?_; rotate_left; (focus go_simp); (focus (obtain ⟨hc, hf⟩ := bcell hS; go_simp; first | (refine ⟨?_, Below.refl _ _⟩; rfl) | rfl | exact Below.refl _ _)); (try go_simp))
      (refine textB_det ?_ rfl rfl ?_ (fun W hS => ?_) ?_; rotate_left; (focus go_simp); (focus (obtain ⟨hc, hf⟩ := bcell hS; go_simp; first | (refine ⟨?_, Below.refl _ _⟩; rfl) | rfl | exact Below.refl _ _)); (try go_simp))
      (refine textB_det ?_ rfl rfl ?_ (fun W hS => ?_) ?_; rotate_left; (focus go_simp); (focus (obtain ⟨hc, hf⟩ := bcell hS; go_simp; first | (refine ⟨?_, Below.refl _ _⟩; rfl) | rfl | exact Below.refl _ _)); (try go_simp))
      (refine textB_det ?_ rfl rfl ?_ (fun W hS => ?_) ?_; rotate_left; (focus go_simp); (focus (obtain ⟨hc, hf⟩ := bcell hS; go_simp; first | (refine ⟨?_, Below.refl _ _⟩; rfl) | rfl | exact Below.refl _ _)); (try go_simp))
      (refine textB_det ?_ rfl rfl ?_ (fun W hS => ?_) ?_; rotate_left; (focus go_simp); (focus (obtain ⟨hc, hf⟩ := bcell hS; go_simp; first | (refine ⟨?_, Below.refl _ _⟩; rfl) | rfl | exact Below.refl _ _)); (try go_simp))
      (refine textB_det ?_ rfl rfl ?_ (fun W hS => ?_) ?_; rotate_left; (focus go_simp); (focus (obtain ⟨hc, hf⟩ := bcell hS; go_simp; refine (KC.out _).mono ?_; rintro e w1 ⟨rfl, hb⟩; refine ⟨?_, hb⟩; rfl)); (try go_simp))
      (refine textB_al _ (76) (#[.int .i64 0, .int .i64 0]) rfl rfl rfl (fun ρ W => ?_) ?_; (focus (first | rfl | (go_simp; done) | (go_simp; rfl))); (try go_simp))
      (refine textB_st _ _ _ (#[.int .i64 z1, .int .i64 z2]) rfl rfl rfl rfl (fun b W hb => ?_) ?_; (focus (have c0 := cell_of_block (o := 0) hb rfl; have f0 := free_of_block 0 hb; have c1 := cell_of_block (o := 1) hb rfl; have f1 := free_of_block 1 hb; refine ⟨_, (by first | (go_simp; done) | (go_simp; rfl)), ((wrote_refl hb).set 0 (.int .i64 z1)).set 1 (.int .i64 z2)⟩)); (try go_simp))
      intro blk w2 hb2 hbx hbd
      have hq := hbx _ List.mem_cons_self
      dsimp only at hq
      simp only [List.map_cons, List.map_nil, putAll]
      obtain ⟨hq1, hq2⟩ := hq
      clear hbx hbd
      generalize blk 11 = bq at *
      clear blk
      have HB2 := Lib.hid hb2
      have HQ := Lib.hid hq2
      have HO2 := Lib.hid (show OwnN w2 X2.heap.size 3 (.slice oa np oc) ((inPre first C (cF, cT) l k).map (·.1)) from Ap.own_below HO.out hb2)
      have HM2 := Lib.hid (show OwnN w2 X2.heap.size 2 (.slice ma np mc) ((inPre first C (cF, cT) l k).map (·.2)) from Ap.own_below HM.out hb2)
      have s42 := (hb2.block _ s4l).trans s4
      have u0 := cell_of_block (o := 0) hq2 rfl
      have u1 := cell_of_block (o := 1) hq2 rfl
      have v0 := cell_of_block (o := 0) s42 rfl
      have v1 := cell_of_block (o := 1) s42 rfl
      have hbB := Below.trans HBr.out (Below.mono hb2 HBr.out.size)
      have HBB := Lib.hid hbB
      clear hb2 hq1 hq2 t0 t1 s4 s5 q0 HO HM KC hbB
      by_cases hz : z1 < z2
      case neg =>
        have hdz : decide (z1 < z2) = false := decide_eq_false hz
        have E := Lib.hid (show inPre first C (cF, cT) l (k + 1) = inPre first C (cF, cT) l k by rw [HPS.out, HST.out, if_neg hz, List.append_nil])
        go_wp2_with fail
        exact ⟨⟨k + 1, by omega, rfl, by rw [E.out]; exact HO2.out, by rw [E.out]; exact HM2.out, HBB.out⟩, by show l.length - (((k + 1 : Nat) : Int)).toNat < l.length - ((k : Int)).toNat; omega⟩
      case pos =>
        have hdz : decide (z1 < z2) = true := decide_eq_true hz
        have hwz : IntKind.i64.wrap (z2 - z1) = z2 - z1 := by rw [IntKind.wrap_i64]; omega
        have E := Lib.hid (show inPre first C (cF, cT) l (k + 1) = inPre first C (cF, cT) l k ++ [(ratU first C z1, z2 - z1)] by rw [HPS.out, HST.out, if_pos hz])
        have hB4s := HB4.out.size
        have hBBs := HBB.out.size
        have KA := Lib.hid (rat_any (H.out w2 (Below.trans HB4.out (Below.mono HBB.out HB4.out.size))) (by omega) first z1)
        generalize ratU first C z1 = va at *
        go_upto_region 13 with fail
        refine wp_region_lit ?_
        refine wpList_yield (w' := w2) (v := .slice oa np oc) rfl (by first | (go_simp; done) | (go_simp; rfl)) ?_
        refine wpList_yield (w' := w2) (v := .agg #[.int .i64 first, .slice ad C.length cp]) rfl (by first | (go_simp; done) | (go_simp; rfl)) ?_
        refine wpList_yield (w' := w2) (v := .pointer (some ⟨bq, 0, none⟩)) rfl (by first | (go_simp; done) | (go_simp; rfl)) ?_
        refine wpList_yield (w' := w2) (v := .int .i64 z1) rfl (by first | (go_simp; done) | (go_simp; rfl)) ?_
        refine wpList_enter rfl (by go_simp) KA.out ?_
        rintro e3 w3 ⟨rfl, hb3⟩
        refine ⟨_, rfl, ?_⟩
        refine wpList_yield (w' := w3.alloc (.cells #[.int .i64 va] 3)) (v := .slice (some ⟨w3.heap.size, 0, none⟩) 1 1) rfl (by first | (go_simp; done) | (go_simp; rfl)) ?_
        have hbA := below_alloc (Below.refl _ w3) (.cells #[.int .i64 va] 3)
        have hs3 := hb3.size
        have ho3 : OwnN (w3.alloc (.cells #[.int .i64 va] 3)) X2.heap.size 3 (.slice oa np oc) ((inPre first C (cF, cT) l k).map (·.1)) := Ap.own_below (Ap.own_below HO2.out hb3) hbA
        have hm3 : OwnN (w3.alloc (.cells #[.int .i64 va] 3)) X2.heap.size 2 (.slice ma np mc) ((inPre first C (cF, cT) l k).map (·.2)) := Ap.own_below (Ap.own_below HM2.out hb3) hbA
        have hq3 := (hbA.block bq (Nat.lt_of_lt_of_le (Array.getElem?_eq_some_iff.1 HQ.out).1 hs3)).trans ((hb3.block bq (Array.getElem?_eq_some_iff.1 HQ.out).1).trans HQ.out)
        have hn3 : np = ((inPre first C (cF, cT) l k).map (·.1)).length := by rw [List.length_map]; exact HNP.out
        have hn4 : np = ((inPre first C (cF, cT) l k).map (·.2)).length := by rw [List.length_map]; exact HNP.out
        obtain ⟨o4, w4, hrun, hown, hgr, hbel⟩ := Ap.run_app eltI 47 X2.heap.size (.slice oa np oc) np _ (by have := ho3; unfold OwnN at this; rw [← hn3] at this; exact this) _ 1 _ (rd_one w3 #[.int .i64 va] 3 (size := 1) rfl (by intro u hu; simp at hu; subst hu; rfl)) (by unfold maxLen; omega) (by omega) (by have := hbA.size; omega)
        refine wpList_yield (w' := w4) (v := o4) rfl (Ap.exec_app rfl (by go_simp) (by go_simp) hrun) ?_
        have ho4 : OwnN w4 X2.heap.size 3 o4 ((inPre first C (cF, cT) l (k + 1)).map (·.1)) := by
          rw [E.out, List.map_append]
          unfold OwnN
          rw [List.length_append, ← hn3, show flatT ((inPre first C (cF, cT) l k).map (·.1) ++ [(va, z2 - z1)].map (·.1)) = flatT ((inPre first C (cF, cT) l k).map (·.1)) ++ [Value.int .i64 va] by simp [flatT]]
          exact hown
        have hm4 : OwnN w4 X2.heap.size 2 (.slice ma np mc) ((inPre first C (cF, cT) l k).map (·.2)) := Ap.own_keep hm3 fun j hj => hgr.block j (Ap.own_lt hm3 j hj) (fun e => hm3.apart ho3 (by decide) j hj e.symm)
        have hq4 := (hgr.block bq (Array.getElem?_eq_some_iff.1 hq3).1 (fun e => ho3.ne_block hq3 (by decide) e.symm)).trans hq3
        have HB5 := Lib.hid (Below.trans (Below.trans HBB.out (Below.mono (Below.trans hb3 (Below.mono hbA hs3)) HBB.out.size)) hbel)
        obtain ⟨o4a, o4n, o4c, rfl⟩ : ∃ a n c, o4 = .slice a n c := by obtain ⟨a, c, e, _⟩ := ho4.form; exact ⟨_, _, _, e⟩
        have HO4 := Lib.hid ho4
        have HM4 := Lib.hid hm4
        have u0 := cell_of_block (o := 0) hq4 rfl
        have u1 := cell_of_block (o := 1) hq4 rfl
        have HQ4 := Lib.hid hq4
        clear ho3 hm3 hq3 hrun hown hgr hbel ho4 hm4 hq4 hb3 hbA v0 v1 s42
        go_upto_region 14 with fail
        refine wp_region_lit ?_
        refine wpList_yield (w' := w4) (v := .slice ma np mc) rfl (by first | (go_simp; done) | (go_simp; rfl)) ?_
        refine wpList_yield (w' := w4) (v := .pointer (some ⟨bq, 1, none⟩)) rfl (by first | (go_simp; done) | (go_simp; rfl)) ?_
        refine wpList_yield (w' := w4) (v := .int .i64 z2) rfl (by first | (go_simp; done) | (go_simp; rfl)) ?_
        refine wpList_yield (w' := w4) (v := .pointer (some ⟨bq, 0, none⟩)) rfl (by first | (go_simp; done) | (go_simp; rfl)) ?_
        refine wpList_yield (w' := w4) (v := .int .i64 z1) rfl (by first | (go_simp; done) | (go_simp; rfl)) ?_
        refine wpList_yield (w' := w4) (v := .int .i64 (z2 - z1)) rfl (by first | (go_simp; done) | (go_simp; rfl)) ?_
        refine wpList_yield (w' := w4.alloc (.cells #[.int .i64 (z2 - z1)] 2)) (v := .slice (some ⟨w4.heap.size, 0, none⟩) 1 1) rfl (by first | (go_simp; done) | (go_simp; rfl)) ?_
        have hbA := below_alloc (Below.refl _ w4) (.cells #[.int .i64 (z2 - z1)] 2)
        have ho5 : OwnN (w4.alloc (.cells #[.int .i64 (z2 - z1)] 2)) X2.heap.size 3 (.slice o4a o4n o4c) ((inPre first C (cF, cT) l (k + 1)).map (·.1)) := Ap.own_below HO4.out hbA
        have hm5 : OwnN (w4.alloc (.cells #[.int .i64 (z2 - z1)] 2)) X2.heap.size 2 (.slice ma np mc) ((inPre first C (cF, cT) l k).map (·.2)) := Ap.own_below HM4.out hbA
        obtain ⟨m6, w6, hrun, hown, hgr, hbel⟩ := Ap.run_app eltT 134 X2.heap.size (.slice ma np mc) np _ (by have := hm5; unfold OwnN at this; rw [← hn4] at this; exact this) _ 1 _ (rd_one w4 #[.int .i64 (z2 - z1)] 2 (size := 1) rfl (by intro u hu; simp at hu; subst hu; rfl)) (by unfold maxLen; omega) (by omega) (by have := hbA.size; have := HB5.out.size; omega)
        refine wpList_yield (w' := w6) (v := m6) rfl (Ap.exec_app rfl (by go_simp) (by go_simp) hrun) ?_
        have hm6 : OwnN w6 X2.heap.size 2 m6 ((inPre first C (cF, cT) l (k + 1)).map (·.2)) := by
          rw [E.out, List.map_append]
          unfold OwnN
          rw [List.length_append, ← hn4, show flatT ((inPre first C (cF, cT) l k).map (·.2) ++ [(va, z2 - z1)].map (·.2)) = flatT ((inPre first C (cF, cT) l k).map (·.2)) ++ [Value.int .i64 (z2 - z1)] by simp [flatT]]
          exact hown
        have ho6 : OwnN w6 X2.heap.size 3 (.slice o4a o4n o4c) ((inPre first C (cF, cT) l (k + 1)).map (·.1)) := Ap.own_keep ho5 fun j hj => hgr.block j (Ap.own_lt ho5 j hj) (fun e => ho5.apart hm5 (by decide) j hj e.symm)
        have HB6 := Lib.hid (Below.trans (Below.trans HB5.out (Below.mono hbA HB5.out.size)) hbel)
        obtain ⟨m6a, m6n, m6c, rfl⟩ : ∃ a n c, m6 = .slice a n c := by obtain ⟨a, c, e, _⟩ := hm6.form; exact ⟨_, _, _, e⟩
        have HO6 := Lib.hid ho6
        have HM6 := Lib.hid hm6
        clear ho5 hm5 hrun hown hgr hbel ho6 hm6 hbA u0 u1
        go_wp2_with fail
        exact ⟨⟨k + 1, by omega, rfl, HO6.out, HM6.out, HB6.out⟩, by show l.length - (((k + 1 : Nat) : Int)).toNat < l.length - ((k : Int)).toNat; omega⟩
end Go.Proofs.YtdamemdfehopeaaDoor
