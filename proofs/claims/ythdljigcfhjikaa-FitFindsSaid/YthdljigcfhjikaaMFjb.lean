/- Join of the reference (layer 1), where no sort is at hand. Condition: at most 2^40. -/
import Derived.Test.YthdljigcfhjikaaMab
import Derived.Test.YthdljigcfhjikaaMac
import Derived.Lib.MinMax
namespace Go.Proofs.Ythdljigcfhjikaa
set_option linter.unusedVariables false
open Go.ChangeShapes Go.WideShapes Go.ChangeAt Go.RowKit
theorem info_rspan : (Try.prog.info? 38).map (fun i => (i.zero, i.size, i.bytes)) = some (some (.agg #[.int .i64 0, .int .i64 0]), 2, 16) := by kernel_rfl
/-- a row of the reference's spans of the call's own, from block B on -/
def OwnQ (w : World) (B : Nat) (v : Value) (l : List (Int × Int)) : Prop := w.ownsRow B 38 2 v l.length (flatS l)
theorem OwnQ.below {w w' : World} {B : Nat} {v : Value} {l : List (Int × Int)} (h : OwnQ w B v l) (hb : Below w.heap.size w w') : OwnQ w' B v l := by
  refine ⟨h.1, ?_⟩
  rcases h.2 with hn | ⟨g, cap, cur, hv, hB, hg, rest⟩
  · exact .inl hn
  · refine .inr ⟨g, cap, cur, hv, hB, ?_, rest⟩
    have hlt : g < w.heap.size := by
      rcases Nat.lt_or_ge g w.heap.size with h | h
      · exact h
      · rw [Array.getElem?_eq_none h] at hg; cases hg
    rw [hb.block g hlt]; exact hg
theorem OwnQ.nil {w : World} {B : Nat} : OwnQ w B (.slice none 0 0) [] := ⟨rfl, .inl ⟨rfl, rfl⟩⟩

section
variable {ops : Array Oper} {rest : List Oper} {o : Oper} {a : Act} {w : World} {Q : Exit → Act → World → Prop}
/-- APPEND of one span -/
theorem wpList_append_rspan (hgd : o.guard = none) (s x : Operand)
    (ho : o.op = .call { callee := .builtin .append, args := #[s, x], argTypes := #[73, 73] })
    (B : Nat) (v : Value) (l : List (Int × Int)) (hs : a.eval s = v) (hown : OwnQ w B v l) (g c : Nat) (p : Int × Int) (hx : a.eval x = .slice (some ⟨g, 0, none⟩) 1 c)
    (c0 : w.cell? ⟨g, 0, none⟩ = some (.int .i64 p.1)) (c1 : w.cell? ⟨g, 1, none⟩ = some (.int .i64 p.2)) (h63 : l.length + 1 ≤ 1099511627776) (hB : B ≤ w.heap.size)
    (h' : ∀ (ad : Option Addr) (n c : Nat) (w' : World), OwnQ w' B (.slice ad n c) (l ++ [p]) → Below B w w' → (∀ k, k < w.heap.size → v.ownBlock ≠ some k → w'.heap[k]? = w.heap[k]?) → wpList Try.prog ops Q rest (a.put o.dst (.slice ad n c)) w') : wpList Try.prog ops Q (o :: rest) a w := by
  have h : ∀ v' w', OwnQ w' B v' (l ++ [p]) → Below B w w' → (∀ k, k < w.heap.size → v.ownBlock ≠ some k → w'.heap[k]? = w.heap[k]?) → wpList Try.prog ops Q rest (a.put o.dst v') w' := fun v' w' h1 h2 h3 => by
    rcases h1.2 with ⟨e, _⟩ | ⟨g, cap, cur, e, _⟩
    · subst e; exact h' none 0 0 w' h1 h2 h3
    · subst e; exact h' _ _ cap w' h1 h2 h3
  obtain ⟨i0, hi, hz0, hz1, hz2⟩ := info_parts info_rspan
  have hblk : ∀ k, v.ownBlock = some k → B ≤ k := fun k hk => by
    rcases hown.2 with ⟨rfl, _⟩ | ⟨g, cap, cur, rfl, hg, _⟩
    · cases hk
    · simp only [Value.ownBlock, Option.some.injEq] at hk; omega
  refine wpList_append_own _ hgd s x 73 ho B 38 i0 (.agg #[.int .i64 0, .int .i64 0]) 2 16 Try.underlying73 hi hz0 hz1 hz2 rfl (by decide) v l.length (flatS l) hs hown
      ⟨g, 0, none⟩ 1 c (flatS [p]) hx rfl (fun j u hj => ?_) (fun u hu => ?_) (by unfold maxLen; omega) (by omega) hB (fun v' w' h1 h2 _ => ?_)
  · match j, hj with
    | 0, hj => simp [flatS] at hj; subst hj; simpa [Addr.add] using c0
    | 1, hj => simp [flatS] at hj; subst hj; simpa [Addr.add] using c1
    | j + 2, hj => simp [flatS] at hj
  · simp [flatS] at hu
    rcases hu with rfl | rfl <;> rfl
  · exact h v' w' (by unfold OwnQ; rw [List.length_append, flatS_append]; exact h1) (Below.grown (Below.refl _ _) h2 hB hblk) (fun k h3 h4 => h2.block k h3 (Ne.symm h4))
end

theorem OwnQ.mono {w : World} {B B' : Nat} {v : Value} {l : List (Int × Int)} (h : OwnQ w B v l) (hb : B' ≤ B) : OwnQ w B' v l := by
  refine ⟨h.1, ?_⟩
  rcases h.2 with hn | ⟨g, cap, cur, hv, hB, rest⟩
  · exact .inl hn
  · exact .inr ⟨g, cap, cur, hv, by omega, rest⟩
theorem OwnQ.row {w : World} {B g n c : Nat} {l : List (Int × Int)} (h : OwnQ w B (.slice (some ⟨g, 0, none⟩) n c) l) : SpanRow w g 0 l ∧ ∀ j, w.frozen? ⟨g, j, none⟩ = false := by
  have hn : n = l.length := by
    rcases h.2 with ⟨e, _⟩ | ⟨g', cap, cur, e, _⟩ <;> cases e <;> rfl
  subst hn
  refine ⟨⟨fun k hk => ?_, fun k hk => ?_⟩, fun j => h.frozenAt j⟩
  · rw [Nat.zero_add, h.cellAt (k * 2) (by omega), flatS_get0 l k hk]
  · rw [Nat.zero_add, h.cellAt (k * 2 + 1) (by omega), flatS_get1 l k hk]
theorem OwnQ.form {w : World} {B : Nat} {v : Value} {l : List (Int × Int)} (h : OwnQ w B v l) : ∃ ad c, v = .slice ad l.length c ∧ (0 < l.length → ∃ g, ad = some ⟨g, 0, none⟩ ∧ B ≤ g ∧ g < w.heap.size) := by
  rcases h.2 with ⟨e, h0⟩ | ⟨g, cap, cur, e, hB, hg, _⟩
  · exact ⟨none, 0, by rw [e, h0], fun h => by omega⟩
  · exact ⟨_, cap, e, fun _ => ⟨g, rfl, hB, (Array.getElem?_eq_some_iff.1 hg).1⟩⟩

theorem OwnQ.blk {w : World} {B : Nat} {v : Value} {l : List (Int × Int)} (h : OwnQ w B v l) (k : Nat) (hk : w.heap.size ≤ k) : v.ownBlock ≠ some k := by
  intro e
  rcases h.2 with ⟨rfl, _⟩ | ⟨g, cap, cur, rfl, hg, hh, _⟩
  · cases e
  · simp only [Value.ownBlock, Option.some.injEq] at e
    have := (Array.getElem?_eq_some_iff.1 hh).1
    omega
theorem cell_same {w w' : World} {b o : Nat} (h : w'.heap[b]? = w.heap[b]?) : w'.cell? ⟨b, o, none⟩ = w.cell? ⟨b, o, none⟩ := by
  unfold World.cell?
  simp only [h]
attribute [local go_sem ↓] Go.wp_at_zero Go.wp_at_succ comesTo_value_eq comesTo_skip_eq comesTo_enter_eq
def mR (st : List (Int × Int) × (Int × Int) × Bool) : Nat := st.1.length + (if st.2.2 then 0 else 1)
theorem mR_step (st : List (Int × Int) × (Int × Int) × Bool) (o : Int × Int) : mR (inR st o) ≤ mR st + 1 := by
  obtain ⟨n, s, d⟩ := st
  unfold mR inR
  simp only
  split
  · simp; omega
  · split
    · cases d <;> simp
    · simp
theorem mR_fold : ∀ (l : List (Int × Int)) (st : List (Int × Int) × (Int × Int) × Bool), mR (l.foldl inR st) ≤ mR st + l.length
  | [], st => by simp
  | o :: l, st => by have := mR_fold l (inR st o); have := mR_step st o; simp; omega
theorem endR_len (st : List (Int × Int) × (Int × Int) × Bool) : (endR st).length = mR st := by
  unfold endR mR
  split <;> simp
theorem insR_len (out : List (Int × Int)) (s : Int × Int) : (insR out s).length ≤ out.length + 1 := by
  unfold insR
  rw [endR_len]
  have := mR_fold out ([], s, false)
  have e : mR ([], s, false) = 1 := rfl
  omega
theorem refJ_len (l : List (Int × Int)) : (refJ l).length ≤ l.length := by
  have : ∀ (l acc : List (Int × Int)), (l.foldl insR acc).length ≤ acc.length + l.length := by
    intro l
    induction l with
    | nil => intro acc; simp
    | cons s l ih => intro acc; have := ih (insR acc s); have := insR_len acc s; simp; omega
  simpa [refJ] using this l []
theorem refJ_concat (l : List (Int × Int)) (s : Int × Int) : refJ (l ++ [s]) = insR (refJ l) s := by
  unfold refJ; rw [List.foldl_append]; rfl
theorem inR_take (O : List (Int × Int)) (st : List (Int × Int) × (Int × Int) × Bool) (j : Nat) (h : j < O.length) : (O.take (j + 1)).foldl inR st = inR ((O.take j).foldl inR st) (O.getD j (0, 0)) := by
  rw [List.take_succ_eq_append_getElem h, List.foldl_append]
  simp [List.getD, h]
theorem OwnQ.under {w : World} {B q : Nat} {v : Value} {l : List (Int × Int)} (h : OwnQ w B v l) (hq : q < B) (o : Nat) (u : Value) : OwnQ (w.setCell ⟨q, o, none⟩ u) B v l := ownsRow_setCell_below h hq u
set_option maxRecDepth 100000 in
set_option maxHeartbeats 8000000 in
theorem rjoin_any (a : Option Addr) (cap : Nat) (l : List (Int × Int)) (h63 : l.length ≤ 1099511627776) (w : World) (hrow : 0 < l.length → ∃ b, a = some ⟨b, 0, none⟩ ∧ SpanRow w b 0 l) :
    Calls Try.prog 76 #[.slice a l.length cap] w fun e w' => ∃ (ad : Option Addr) (c : Nat), e = .returned (.slice ad (refJ (cutsOf l)).length c) ∧ OwnQ w' w.heap.size (.slice ad (refJ (cutsOf l)).length c) (refJ (cutsOf l)) ∧ Below w.heap.size w w' := by
  have HR := Lib.hid hrow
  clear hrow
  go_enter Try.func76, Try.ntmps76
  go_wp2_with fail
  go_loopw [3, 4] (fun v i wr => ∃ k : Nat, k ≤ l.length ∧ i = .int .i64 k ∧ (∃ (ad : Option Addr) (c : Nat), v = .slice ad (refJ (cutsOf (l.take k))).length c ∧ OwnQ wr w.heap.size v (refJ (cutsOf (l.take k)))) ∧ Below w.heap.size w wr) (fun _ i _ => l.length - (intOf i).toNat)
  case atStart => exact ⟨0, Nat.zero_le _, rfl, ⟨none, 0, rfl, OwnQ.nil⟩, Below.refl _ _⟩
  case round =>
    obtain ⟨k, hk, rfl, ⟨ad, co, rfl, ho⟩, hbel⟩ := hrel
    by_cases hlt : k < l.length
    · obtain ⟨b, rfl, hr⟩ := HR.out (by omega)
      have hc0 := (hr.below hbel).c0 k hlt
      have hc1 := (hr.below hbel).c1 k hlt
      simp only [Nat.zero_add] at hc0 hc1
      have hltI : (k : Int) < (l.length : Int) := by omega
      have hlo : (0 : Int) ≤ (k : Int) := by omega
      have hsucc := Lib.hid (cutsOf_succ l k hlt)
      have hlen := Lib.hid (show (refJ (cutsOf (l.take k))).length ≤ k by
        have h1 := refJ_len (cutsOf (l.take k))
        have h2 := cutsOf_len (l.take k)
        rw [List.length_take] at h2
        omega)
      generalize (l.getD k (0, 0)).1 = f at *
      generalize (l.getD k (0, 0)).2 = t at *
      have HB := Lib.hid hbel
      have HO := Lib.hid ho
      have lb := World.block_lt_of_cell? _ _ hc0
      clear hbel ho hr
      by_cases hE : clampI t ≤ clampI f
      · have kC := Lib.hid (fun W => rclean_any f t W)
        have e : cleanI (f, t) = (0, 0) := by unfold cleanI; rw [if_pos hE]
        rw [e] at kC
        have HS := Lib.hid (show cutsOf (l.take (k + 1)) = cutsOf (l.take k) by rw [hsucc.out, if_pos hE])
        clear hsucc e hE
        go_wp2_with fail
        refine (kC.out _).mono ?_
        rintro e w1 ⟨rfl, hb1⟩
        have HB1 := Lib.hid (below_next HB.out hb1)
        have HO1 := Lib.hid (HO.out.below hb1)
        clear hb1 HB HO hc0 hc1 lb
        go_wp2_with fail
        go_roundw
        case rel => exact ⟨k + 1, by omega, by go_num, ⟨ad, co, by rw [HS.out], by rw [HS.out]; exact HO1.out.below (below_alloc (Below.refl _ _) _)⟩, below_alloc HB1.out _⟩
        case measure => simp [intOf]; omega
      · have kC := Lib.hid (fun W => rclean_any f t W)
        have e : cleanI (f, t) = (clampI f, clampI t) := by unfold cleanI; rw [if_neg hE]
        rw [e] at kC
        have HS := Lib.hid (show cutsOf (l.take (k + 1)) = cutsOf (l.take k) ++ [(clampI f, clampI t)] by rw [hsucc.out, if_neg hE])
        clear hsucc e
        have hAB : clampI f < clampI t := by omega
        clear hE
        generalize clampI f = A at *
        generalize clampI t = B at *
        have hne : ¬ A = B := by omega
        go_wp2_with fail
        refine (kC.out _).mono ?_
        rintro e w1 ⟨rfl, hb1⟩
        have HB1 := Lib.hid (below_next HB.out hb1)
        have HO1 := Lib.hid (HO.out.below hb1)
        clear hb1 HB HO hc0 hc1 lb
        go_wp2_with fail
        have HRow := Lib.hid (show 0 < (refJ (cutsOf (l.take k))).length → ∃ g, ad = some ⟨g, 0, none⟩ ∧ SpanRow w1 g 0 (refJ (cutsOf (l.take k))) from fun h => by
          obtain ⟨ad', c', he, hg⟩ := HO1.out.form
          obtain ⟨g, e1, _⟩ := hg h
          cases he
          subst e1
          exact ⟨g, rfl, HO1.out.row.1⟩)
        have HNext := Lib.hid (show refJ (cutsOf (l.take (k + 1))) = endR ((refJ (cutsOf (l.take k))).foldl inR ([], (A, B), false)) by rw [HS.out, refJ_concat]; rfl)
        have hws := HB1.out.size
        clear HO1 HS kC
        generalize refJ (cutsOf (l.take k)) = O at *
        generalize hW : w1.alloc (.cells #[.int .i64 A, .int .i64 B] 38) = W2
        have d0 : W2.cell? ⟨w1.heap.size, 0, none⟩ = some (.int .i64 A) := by subst hW; go_simp
        have d1 : W2.cell? ⟨w1.heap.size, 1, none⟩ = some (.int .i64 B) := by subst hW; go_simp
        have r0 : W2.frozen? ⟨w1.heap.size, 0, none⟩ = false := by subst hW; go_simp
        have r1 : W2.frozen? ⟨w1.heap.size, 1, none⟩ = false := by subst hW; go_simp
        have HBW := Lib.hid (show Below w1.heap.size w1 W2 by rw [← hW]; exact below_alloc (Below.refl _ _) _)
        clear hW
        generalize hq : w1.heap.size = q at *
        have HQ := Lib.hid hq
        clear hq
        have hAB2 : (A == B) = false := by simp [hne]
        rw [hAB2]
        clear hAB2
        go_loopw [6, 7, 8] (fun nv dv kv wi => ∃ (j : Nat) (nx : List (Int × Int)) (s : Int × Int) (dn : Bool), j ≤ O.length ∧ kv = .int .i64 j ∧ dv = .bool dn ∧ (O.take j).foldl inR ([], (A, B), false) = (nx, s, dn) ∧ (∃ (ad : Option Addr) (c : Nat), nv = .slice ad nx.length c ∧ OwnQ wi (q + 1) nv nx) ∧ wi.cell? ⟨q, 0, none⟩ = some (.int .i64 s.1) ∧ wi.cell? ⟨q, 1, none⟩ = some (.int .i64 s.2) ∧ wi.frozen? ⟨q, 0, none⟩ = false ∧ wi.frozen? ⟨q, 1, none⟩ = false ∧ Below q w1 wi) (fun _ _ i _ => O.length - (intOf i).toNat)
        case atStart => exact ⟨0, [], (A, B), false, Nat.zero_le _, rfl, rfl, rfl, ⟨none, 0, rfl, OwnQ.nil⟩, d0, d1, r0, r1, HBW.out⟩
        case round =>
          obtain ⟨j, nx, s, dn, hj, rfl, rfl, hfold, ⟨ad2, c2, rfl, hown⟩, x0, x1, y0, y1, hbi⟩ := hrel
          obtain ⟨s1, s2⟩ := s
          simp only at x0 x1
          have hmr : nx.length + (if dn then 0 else 1) ≤ 1 + j := by
            have h := mR_fold (O.take j) ([], (A, B), false)
            rw [hfold, List.length_take] at h
            have e : mR ([], (A, B), false) = 1 := rfl
            have e2 : mR (nx, (s1, s2), dn) = nx.length + (if dn then 0 else 1) := rfl
            rw [e, e2] at h
            omega
          have lq : q < wr.heap.size := World.block_lt_of_cell? _ _ x0
          have HOi := Lib.hid hown
          have HBi := Lib.hid hbi
          clear hown hbi
          by_cases hjt : j < O.length
          · obtain ⟨g, rfl, hro⟩ := HRow.out (by omega)
            have hbi' : Below w1.heap.size w1 wr := by rw [HQ.out]; exact HBi.out
            have oc0 := (hro.below hbi').c0 j hjt
            have oc1 := (hro.below hbi').c1 j hjt
            simp only [Nat.zero_add] at oc0 oc1
            have hstep := inR_take O ([], (A, B), false) j hjt
            rw [hfold] at hstep
            have hlt2 : (j : Int) < (O.length : Int) := by omega
            have hlo2 : (0 : Int) ≤ (j : Int) := by omega
            have hOk : O.length ≤ k := hlen.out
            generalize hoo : O.getD j (0, 0) = o at *
            obtain ⟨o1, o2⟩ := o
            simp only at oc0 oc1
            clear hro hbi' hfold hoo
            by_cases h1 : o2 < s1
            · have HST := Lib.hid (show (O.take (j + 1)).foldl inR ([], (A, B), false) = (nx ++ [(o1, o2)], (s1, s2), dn) by
                rw [hstep]; unfold inR; simp only; rw [if_pos h1])
              clear hstep
              have hl : nx.length + 1 ≤ 1099511627776 := by omega
              have HL := Lib.hid hmr
              clear hmr
              go_wp2_with (at_builtin; refine wpList_append_rspan rfl _ _ rfl (q + 1) (.slice ad2 nx.length c2) nx rfl (HOi.out.below (((Below.refl wr.heap.size wr).alloc (Nat.le_refl _) _).alloc (by simp) _)) (wr.heap.size + 1) 1 (o1, o2) rfl (by go_simp) (by go_simp) hl (by simp; omega) ?_; intro ad3 n3 c3 w3 hO3 hb3 hk3)
              obtain ⟨_, _, he3, _⟩ := hO3.form
              cases he3
              have e0 := (hb3.cell (p := ⟨q, 0, none⟩) (by show q < q + 1; omega))
              have e1 := (hb3.cell (p := ⟨q, 1, none⟩) (by show q < q + 1; omega))
              have e2 := (hb3.frozen (p := ⟨q, 0, none⟩) (by show q < q + 1; omega))
              have e3 := (hb3.frozen (p := ⟨q, 1, none⟩) (by show q < q + 1; omega))
              go_roundw
              case rel => exact ⟨j + 1, _, _, dn, by omega, by go_num, rfl, HST.out, ⟨_, _, rfl, hO3⟩, by rw [e0]; go_simp, by rw [e1]; go_simp, by rw [e2]; go_simp, by rw [e3]; go_simp, ((HBi.out.alloc (by omega) _).alloc (by simp; omega) _).trans (hb3.mono (by omega))⟩
              case measure => simp [intOf]; omega
            · by_cases h2 : s2 < o1
              · cases dn with
                | true =>
                  have HST := Lib.hid (show (O.take (j + 1)).foldl inR ([], (A, B), false) = (nx ++ [(o1, o2)], (s1, s2), true) by
                    rw [hstep]; unfold inR; simp only; rw [if_neg h1, if_pos h2]; rfl)
                  clear hstep
                  have hl : nx.length + 1 ≤ 1099511627776 := by omega
                  have HL := Lib.hid hmr
                  clear hmr
                  go_wp2_with (at_builtin; refine wpList_append_rspan rfl _ _ rfl (q + 1) (.slice ad2 nx.length c2) nx rfl (HOi.out.below (((Below.refl wr.heap.size wr).alloc (Nat.le_refl _) _).alloc (by simp) _)) (wr.heap.size + 1) 1 (o1, o2) rfl (by go_simp) (by go_simp) hl (by simp; omega) ?_; intro ad3 n3 c3 w3 hO3 hb3 hk3)
                  obtain ⟨_, _, he3, _⟩ := hO3.form
                  cases he3
                  have e0 := (hb3.cell (p := ⟨q, 0, none⟩) (by show q < q + 1; omega))
                  have e1 := (hb3.cell (p := ⟨q, 1, none⟩) (by show q < q + 1; omega))
                  have e2 := (hb3.frozen (p := ⟨q, 0, none⟩) (by show q < q + 1; omega))
                  have e3 := (hb3.frozen (p := ⟨q, 1, none⟩) (by show q < q + 1; omega))
                  go_roundw
                  case rel => exact ⟨j + 1, _, _, true, by omega, by go_num, rfl, HST.out, ⟨_, _, rfl, hO3⟩, by rw [e0]; go_simp, by rw [e1]; go_simp, by rw [e2]; go_simp, by rw [e3]; go_simp, ((HBi.out.alloc (by omega) _).alloc (by simp; omega) _).trans (hb3.mono (by omega))⟩
                  case measure => simp [intOf]; omega
                | false =>
                  have HST := Lib.hid (show (O.take (j + 1)).foldl inR ([], (A, B), false) = ((nx ++ [(s1, s2)]) ++ [(o1, o2)], (s1, s2), true) by
                    rw [hstep]; unfold inR; simp only; rw [if_neg h1, if_pos h2]; rfl)
                  clear hstep
                  have hl : nx.length + 1 ≤ 1099511627776 := by simp at hmr; omega
                  have hl2 : (nx ++ [(s1, s2)]).length + 1 ≤ 1099511627776 := by simp at hmr ⊢; omega
                  have HL := Lib.hid hmr
                  clear hmr
                  have HBk := Lib.hid (HOi.out.blk wr.heap.size (Nat.le_refl _))
                  go_wp2_with (first
                    | (at_builtin; refine wpList_append_rspan rfl _ _ rfl (q + 1) (.slice ad2 nx.length c2) nx rfl (HOi.out.below (((Below.refl wr.heap.size wr).alloc (Nat.le_refl _) _).alloc (by simp) _)) (wr.heap.size + 1) 1 (s1, s2) rfl (by go_simp) (by go_simp) hl (by simp; omega) ?_; intro ad3 n3 c3 w3 hO3 hb3 hk3; obtain ⟨_, _, he3, _⟩ := hO3.form; cases he3; have p0 : w3.cell? ⟨wr.heap.size, 0, none⟩ = some (.int .i64 o1) := (cell_same (hk3 wr.heap.size (by simp; omega) HBk.out)).trans (by go_simp); have p1 : w3.cell? ⟨wr.heap.size, 1, none⟩ = some (.int .i64 o2) := (cell_same (hk3 wr.heap.size (by simp; omega) HBk.out)).trans (by go_simp); have e0 := (hb3.cell (p := ⟨q, 0, none⟩) (by show q < q + 1; omega)).trans (show _ = some (Value.int .i64 s1) by go_simp); have e1 := (hb3.cell (p := ⟨q, 1, none⟩) (by show q < q + 1; omega)).trans (show _ = some (Value.int .i64 s2) by go_simp); have e2 := (hb3.frozen (p := ⟨q, 0, none⟩) (by show q < q + 1; omega)).trans (show _ = false by go_simp); have e3 := (hb3.frozen (p := ⟨q, 1, none⟩) (by show q < q + 1; omega)).trans (show _ = false by go_simp); have HB3 := Lib.hid (show Below q w1 w3 from ((HBi.out.alloc (by omega) _).alloc (by simp; omega) _).trans (hb3.mono (by omega))); have HO3 := Lib.hid (show OwnQ w3 (q + 1) (.slice ad3 (nx.length + 1) c3) (nx ++ [(s1, s2)]) by have h := hO3; rw [List.length_append] at h; exact h); have lq3 : q < w3.heap.size := World.block_lt_of_cell? _ _ e0; clear hO3 hb3 hk3 x0 x1 y0 y1 oc0 oc1)
                    | (at_builtin; refine wpList_append_rspan rfl _ _ rfl (q + 1) (.slice ad3 (nx.length + 1) c3) (nx ++ [(s1, s2)]) rfl (HO3.out.below (below_alloc (Below.refl _ w3) _)) w3.heap.size 1 (o1, o2) rfl (by go_simp) (by go_simp) hl2 (by simp; omega) ?_; intro ad4 n4 c4 w4 hO4 hb4 hk4; obtain ⟨_, _, he4, _⟩ := hO4.form; cases he4; have f0 := (hb4.cell (p := ⟨q, 0, none⟩) (by show q < q + 1; omega)); have f1 := (hb4.cell (p := ⟨q, 1, none⟩) (by show q < q + 1; omega)); have f2 := (hb4.frozen (p := ⟨q, 0, none⟩) (by show q < q + 1; omega)); have f3 := (hb4.frozen (p := ⟨q, 1, none⟩) (by show q < q + 1; omega))))
                  go_roundw
                  case rel => exact ⟨j + 1, _, _, true, by omega, by go_num, rfl, HST.out, ⟨ad4, c4, by simp, by have h := hO4; rw [List.length_append, List.length_append] at h; exact h⟩, by rw [f0]; go_simp, by rw [f1]; go_simp, by rw [f2]; go_simp, by rw [f3]; go_simp, (HB3.out.alloc (by omega) _).trans (hb4.mono (by omega))⟩
                  case measure => simp [intOf]; omega
              · have HST := Lib.hid (show (O.take (j + 1)).foldl inR ([], (A, B), false) = (nx, (min s1 o1, max s2 o2), dn) by
                  rw [hstep]; unfold inR; simp only; rw [if_neg h1, if_neg h2])
                clear hstep
                have HL := Lib.hid hmr
                clear hmr
                have HOu := Lib.hid (show OwnQ ((wr.setCell ⟨q, 0, none⟩ (.int .i64 (min s1 o1))).setCell ⟨q, 1, none⟩ (.int .i64 (max s2 o2))) (q + 1) (.slice ad2 nx.length c2) nx from (HOi.out.under (Nat.lt_succ_self q) 0 _).under (Nat.lt_succ_self q) 1 _)
                have HBu := Lib.hid (show Below q w1 ((wr.setCell ⟨q, 0, none⟩ (.int .i64 (min s1 o1))).setCell ⟨q, 1, none⟩ (.int .i64 (max s2 o2))) from (HBi.out.setCell (Nat.le_refl q) _).setCell (Nat.le_refl q) _)
                go_wp2_with fail
                go_roundw
                case rel => exact ⟨j + 1, nx, (min s1 o1, max s2 o2), dn, by omega, by go_num, rfl, HST.out, ⟨ad2, c2, rfl, HOu.out.below (below_alloc (Below.refl _ _) _)⟩, by go_simp, by go_simp, by go_simp, by go_simp, HBu.out.alloc (by simp; omega) _⟩
                case measure => simp [intOf]; omega
          · have hfin : O.take j = O := List.take_of_length_le (by omega)
            rw [hfin] at hfold
            have hN := HNext.out
            rw [hfold] at hN
            have hOk : O.length ≤ k := hlen.out
            have HBe := Lib.hid (show Below w.heap.size w wr from HB1.out.trans (HBi.out.mono hws))
            clear hfold hfin
            cases dn with
            | true =>
              have HE := Lib.hid (show refJ (cutsOf (l.take (k + 1))) = nx from hN)
              clear hN
              go_wp2_with fail
              go_roundw
              case rel => exact ⟨k + 1, by omega, by go_num, ⟨_, _, by rw [HE.out], by rw [HE.out]; exact HOi.out.mono (by omega)⟩, HBe.out⟩
              case measure => simp [intOf]; omega
            | false =>
              have HE := Lib.hid (show refJ (cutsOf (l.take (k + 1))) = nx ++ [(s1, s2)] from hN)
              clear hN
              have hl : nx.length + 1 ≤ 1099511627776 := by simp at hmr; omega
              clear hmr
              go_wp2_with (at_builtin; refine wpList_append_rspan rfl _ _ rfl (q + 1) (.slice ad2 nx.length c2) nx rfl (HOi.out.below ((Below.refl wr.heap.size wr).alloc (Nat.le_refl _) _)) wr.heap.size 1 (s1, s2) rfl (by go_simp) (by go_simp) hl (by simp; omega) ?_; intro ad3 n3 c3 w3 hO3 hb3 hk3)
              obtain ⟨_, _, he3, _⟩ := hO3.form
              cases he3
              go_roundw
              case rel => exact ⟨k + 1, by omega, by go_num, ⟨_, _, by rw [HE.out], by rw [HE.out]; exact hO3.mono (by omega)⟩, (HBe.out.alloc (by omega) _).trans (hb3.mono (by omega))⟩
              case measure => simp [intOf]; omega
    · have hkz : l.take k = l := List.take_of_length_le (by omega)
      rw [hkz] at ho
      rw [hkz]
      have HO := Lib.hid ho
      have HB := Lib.hid hbel
      clear ho hbel
      go_wp2_with fail
      go_ret
      exact ⟨ad, co, rfl, HO.out, HB.out⟩
end Go.Proofs.Ythdljigcfhjikaa
