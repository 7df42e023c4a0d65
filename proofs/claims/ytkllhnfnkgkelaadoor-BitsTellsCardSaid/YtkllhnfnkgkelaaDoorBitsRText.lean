/- The reference's Text (layer 7). Condition: at most 64 numbers from 0 to 63, which may be read. -/
import Derived.Test.YtkllhnfnkgkelaaDoorBitsDig
import Derived.Test.YtkllhnfnkgkelaaDoorOwnI
import Derived.Test.YtkllhnfnkgkelaaDoorGrowTwo
namespace Go.Proofs.YtkllhnfnkgkelaaDoor
set_option linter.unusedVariables false
open Go.ChangeShapes Go.WideShapes Go.ChangeAt Go.RowKit
attribute [local go_sem ↓] Go.wp_at_zero Go.wp_at_succ comesTo_value_eq comesTo_skip_eq comesTo_enter_eq

set_option maxRecDepth 100000 in
set_option maxHeartbeats 4000000 in
theorem rtext_row (g o c : Nat) (l : List Int) (w : World) (hl : l.length ≤ 64) (hpos : 0 < l.length) (hr : ∀ x ∈ l, 0 ≤ x ∧ x < 64) (hc : ∀ k, k < l.length → w.cell? ⟨g, o + k, none⟩ = some (.int .i64 (l.getD k 0))) :
    Calls Tryd.prog 27 #[.slice (some ⟨g, o, none⟩) l.length c] w fun e w' => e = .returned (.string (strB (Lib.join (toks none l) [44]))) ∧ Below w.heap.size w w' := by
  have hmx : Tryd.prog.follows .mixedOrders = true := by kernel_rfl
  have hb0 : ((l.length : Int) == 0) = false := by simp; intro h; rw [h] at hpos; exact absurd hpos (Nat.lt_irrefl _)
  have HC := Lib.hid hc
  have HRg := Lib.hid (fun k (hk : k < l.length) => show 0 ≤ l.getD k 0 ∧ l.getD k 0 < 64 by
    have e : l.getD k 0 = l[k] := by simp [List.getD, List.getElem?_eq_getElem hk]
    rw [e]; exact hr _ (List.getElem_mem hk))
  clear hc hr
  go_enter Tryd.func27, Tryd.ntmps27
  go_wp2
  go_loopw [3, 4] (fun s i wr => ∃ (k : Nat) (ws : List (List UInt8)), k ≤ l.length ∧ i = .int .i64 k ∧ s = .string (strB (Lib.join ws [44])) ∧ toks none l = ws ++ toks none (l.drop k) ∧ ws.length ≤ k ∧ Words ws ∧ Below w.heap.size w wr) (fun _ i _ => l.length - (intOf i).toNat)
  case atStart => exact ⟨0, [], Nat.zero_le _, rfl, by rw [Lib.join_nil]; rfl, by simp, Nat.le_refl _, (fun _ h => by cases h), Below.refl _ _⟩
  case round =>
    obtain ⟨i, ws, hi, rfl, rfl, htk, hwl, hW, hB⟩ := hrel
    by_cases hlt : i < l.length
    · have hjl := join_len2 hW
      have HTK := Lib.hid htk
      have HBo := Lib.hid hB
      clear htk
      go_wp2_with fail
      go_loopw [5] (fun v wq => ∃ q : Nat, i ≤ q ∧ q < l.length ∧ v = .int .i64 q ∧ (∀ j, i ≤ j → j < q → l.getD (j + 1) 0 = l.getD j 0 + 1) ∧ Below w.heap.size w wq) (fun v _ => l.length - (intOf v).toNat)
      case atStart => exact ⟨i, Nat.le_refl _, hlt, rfl, fun j h1 h2 => by omega, hB⟩
      case round =>
        obtain ⟨q, hiq, hql, rfl, hrun, hBq⟩ := hrel
        have HRUN := Lib.hid hrun
        clear hrun
        by_cases hq1 : q + 1 < l.length
        · have hq1' : (q : Int) + 1 < (l.length : Int) := by omega
          have cy := (hBq.cell (p := ⟨g, o + q, none⟩) (World.block_lt_of_cell? w _ (HC.out q hql))).trans (HC.out q hql)
          have cz := (hBq.cell (p := ⟨g, o + (q + 1), none⟩) (World.block_lt_of_cell? w _ (HC.out (q + 1) hq1))).trans (HC.out (q + 1) hq1)
          have by_ := HRg.out q hql
          have bz_ := HRg.out (q + 1) hq1
          by_cases heq : l.getD (q + 1) 0 = l.getD q 0 + 1
          · have HR2 := Lib.hid (show ∀ j, i ≤ j → j < q + 1 → l.getD (j + 1) 0 = l.getD j 0 + 1 from fun j h1 h2 => by
              by_cases h : j = q
              · subst h; exact heq
              · exact HRUN.out j h1 (by omega))
            have hb : (l.getD (q + 1) 0 == l.getD q 0 + 1) = true := by simpa using heq
            clear heq HRUN
            generalize l.getD (q + 1) 0 = z at *
            generalize l.getD q 0 = y at *
            obtain ⟨y0, y1⟩ := by_
            go_wp2
            have en : ((q : Int) + 1).toNat = q + 1 := by omega
            have e0 : (0 : Int) ≤ (q : Int) + 1 := by omega
            have ew : IntKind.i64.wrap ((q : Int) + 1) = (q : Int) + 1 := IntWalk.i64_in _ (by omega)
            have ey : IntKind.i64.wrap (y + 1) = y + 1 := IntWalk.i64_in _ (by omega)
            refine wp_region_grow (fun w' => w' = wr.drew) hmx (by kernel_rfl) rfl ?_
            (refine textS_run ?_ ?_ (fun W hS => ?_) ?_; rotate_left; (focus go_simp); (focus (subst hS; go_simp; all_goals (first | exact ⟨rfl, rfl⟩ | rfl | (refine ⟨?_, rfl⟩; rfl)))); (try go_simp))
            (refine textS_run ?_ ?_ (fun W hS => ?_) ?_; rotate_left; (focus go_simp); (focus (subst hS; go_simp; all_goals (first | exact ⟨rfl, rfl⟩ | rfl | (refine ⟨?_, rfl⟩; rfl)))); (try go_simp))
            (refine textS_run ?_ ?_ (fun W hS => ?_) ?_; rotate_left; (focus go_simp); (focus (subst hS; go_simp; all_goals (first | exact ⟨rfl, rfl⟩ | rfl | (refine ⟨?_, rfl⟩; rfl)))); (try go_simp))
            (refine textS_run ?_ ?_ (fun W hS => ?_) ?_; rotate_left; (focus go_simp); (focus (subst hS; go_simp; all_goals (first | exact ⟨rfl, rfl⟩ | rfl | (refine ⟨?_, rfl⟩; rfl)))); (try go_simp))
            (refine textS_run ?_ ?_ (fun W hS => ?_) ?_; rotate_left; (focus go_simp); (focus (subst hS; go_simp; all_goals (first | exact ⟨rfl, rfl⟩ | rfl | (refine ⟨?_, rfl⟩; rfl)))); (try go_simp))
            (refine textS_run ?_ ?_ (fun W hS => ?_) ?_; rotate_left; (focus go_simp); (focus (subst hS; go_simp; all_goals (first | exact ⟨rfl, rfl⟩ | rfl | (refine ⟨?_, rfl⟩; rfl)))); (try go_simp))
            (refine textS_run ?_ ?_ (fun W hS => ?_) ?_; rotate_left; (focus go_simp); (focus (subst hS; go_simp; all_goals (first | exact ⟨rfl, rfl⟩ | rfl | (refine ⟨?_, rfl⟩; rfl)))); (try go_simp))
            (refine textS_run ?_ ?_ (fun W hS => ?_) ?_; rotate_left; (focus go_simp); (focus (subst hS; go_simp; all_goals (first | exact ⟨rfl, rfl⟩ | rfl | (refine ⟨?_, rfl⟩; rfl)))); (try go_simp))
            (refine textS_run ?_ ?_ (fun W hS => ?_) ?_; rotate_left; (focus go_simp); (focus (subst hS; go_simp; all_goals (first | exact ⟨rfl, rfl⟩ | rfl | (refine ⟨?_, rfl⟩; rfl)))); (try go_simp))
            (refine textS_run ?_ ?_ (fun W hS => ?_) ?_; rotate_left; (focus go_simp); (focus (subst hS; go_simp; all_goals (first | exact ⟨rfl, rfl⟩ | rfl | (refine ⟨?_, rfl⟩; rfl)))); (try go_simp))
            (refine textS_run ?_ ?_ (fun W hS => ?_) ?_; rotate_left; (focus go_simp); (focus (subst hS; go_simp; all_goals (first | exact ⟨rfl, rfl⟩ | rfl | (refine ⟨?_, rfl⟩; rfl)))); (try go_simp))
            (refine textS_run ?_ ?_ (fun W hS => ?_) ?_; rotate_left; (focus go_simp); (focus (subst hS; go_simp; all_goals (first | exact ⟨rfl, rfl⟩ | rfl | (refine ⟨?_, rfl⟩; rfl)))); (try go_simp))
            (refine textS_run ?_ ?_ (fun W hS => ?_) ?_; rotate_left; (focus go_simp); (focus (subst hS; go_simp; all_goals (first | exact ⟨rfl, rfl⟩ | rfl | (refine ⟨?_, rfl⟩; rfl)))); (try go_simp))
            (refine textS_run ?_ ?_ (fun W hS => ?_) ?_; rotate_left; (focus go_simp); (focus (subst hS; go_simp; all_goals (first | exact ⟨rfl, rfl⟩ | rfl | (refine ⟨?_, rfl⟩; rfl)))); (try go_simp))
            (refine textS_run ?_ ?_ (fun W hS => ?_) ?_; rotate_left; (focus go_simp); (focus (subst hS; go_simp; all_goals (first | exact ⟨rfl, rfl⟩ | rfl | (refine ⟨?_, rfl⟩; rfl)))); (try go_simp))
            (refine textS_run ?_ ?_ (fun W hS => ?_) ?_; rotate_left; (focus go_simp); (focus (subst hS; go_simp; all_goals (first | exact ⟨rfl, rfl⟩ | rfl | (refine ⟨?_, rfl⟩; rfl)))); (try go_simp))
            (refine textS_run ?_ ?_ (fun W hS => ?_) ?_; rotate_left; (focus go_simp); (focus (subst hS; go_simp; all_goals (first | exact ⟨rfl, rfl⟩ | rfl | (refine ⟨?_, rfl⟩; rfl)))); (try go_simp))
            (refine textS_run ?_ ?_ (fun W hS => ?_) ?_; rotate_left; (focus go_simp); (focus (subst hS; go_simp; all_goals (first | exact ⟨rfl, rfl⟩ | rfl | (refine ⟨?_, rfl⟩; rfl)))); (try go_simp))
            clear en e0 ew ey
            refine textS_nil ?_
            go_wp2
            go_roundw
            case rel => exact ⟨q + 1, by omega, hq1, by go_num, HR2.out, hBq.drew⟩
            case measure => simp [intOf]; omega
          · have hend : q + 1 = l.length ∨ l.getD (q + 1) 0 ≠ l.getD q 0 + 1 := .inr heq
            have hb : (l.getD (q + 1) 0 == l.getD q 0 + 1) = false := by simpa using heq
            clear heq
            obtain ⟨y0, y1⟩ := by_
            have en : ((q : Int) + 1).toNat = q + 1 := by omega
            have e0 : (0 : Int) ≤ (q : Int) + 1 := by omega
            have ew : IntKind.i64.wrap ((q : Int) + 1) = (q : Int) + 1 := IntWalk.i64_in _ (by omega)
            have HEND := Lib.hid hend
            clear hend
            generalize hzz : l.getD (q + 1) 0 = z at *
            have HZZ := Lib.hid hzz
            clear hzz
            generalize hyy : l.getD q 0 = y at *
            have HYY := Lib.hid hyy
            clear hyy
            have ey : IntKind.i64.wrap (y + 1) = y + 1 := IntWalk.i64_in _ (by omega)
            go_wp2
            refine wp_region_grow (fun w' => w' = wr.drew) hmx (by kernel_rfl) rfl ?_
            (refine textS_run ?_ ?_ (fun W hS => ?_) ?_; rotate_left; (focus go_simp); (focus (subst hS; go_simp; all_goals (first | exact ⟨rfl, rfl⟩ | rfl | (refine ⟨?_, rfl⟩; rfl)))); (try go_simp))
            (refine textS_run ?_ ?_ (fun W hS => ?_) ?_; rotate_left; (focus go_simp); (focus (subst hS; go_simp; all_goals (first | exact ⟨rfl, rfl⟩ | rfl | (refine ⟨?_, rfl⟩; rfl)))); (try go_simp))
            (refine textS_run ?_ ?_ (fun W hS => ?_) ?_; rotate_left; (focus go_simp); (focus (subst hS; go_simp; all_goals (first | exact ⟨rfl, rfl⟩ | rfl | (refine ⟨?_, rfl⟩; rfl)))); (try go_simp))
            (refine textS_run ?_ ?_ (fun W hS => ?_) ?_; rotate_left; (focus go_simp); (focus (subst hS; go_simp; all_goals (first | exact ⟨rfl, rfl⟩ | rfl | (refine ⟨?_, rfl⟩; rfl)))); (try go_simp))
            (refine textS_run ?_ ?_ (fun W hS => ?_) ?_; rotate_left; (focus go_simp); (focus (subst hS; go_simp; all_goals (first | exact ⟨rfl, rfl⟩ | rfl | (refine ⟨?_, rfl⟩; rfl)))); (try go_simp))
            (refine textS_run ?_ ?_ (fun W hS => ?_) ?_; rotate_left; (focus go_simp); (focus (subst hS; go_simp; all_goals (first | exact ⟨rfl, rfl⟩ | rfl | (refine ⟨?_, rfl⟩; rfl)))); (try go_simp))
            (refine textS_run ?_ ?_ (fun W hS => ?_) ?_; rotate_left; (focus go_simp); (focus (subst hS; go_simp; all_goals (first | exact ⟨rfl, rfl⟩ | rfl | (refine ⟨?_, rfl⟩; rfl)))); (try go_simp))
            (refine textS_run ?_ ?_ (fun W hS => ?_) ?_; rotate_left; (focus go_simp); (focus (subst hS; go_simp; all_goals (first | exact ⟨rfl, rfl⟩ | rfl | (refine ⟨?_, rfl⟩; rfl)))); (try go_simp))
            (refine textS_run ?_ ?_ (fun W hS => ?_) ?_; rotate_left; (focus go_simp); (focus (subst hS; go_simp; all_goals (first | exact ⟨rfl, rfl⟩ | rfl | (refine ⟨?_, rfl⟩; rfl)))); (try go_simp))
            (refine textS_run ?_ ?_ (fun W hS => ?_) ?_; rotate_left; (focus go_simp); (focus (subst hS; go_simp; all_goals (first | exact ⟨rfl, rfl⟩ | rfl | (refine ⟨?_, rfl⟩; rfl)))); (try go_simp))
            (refine textS_run ?_ ?_ (fun W hS => ?_) ?_; rotate_left; (focus go_simp); (focus (subst hS; go_simp; all_goals (first | exact ⟨rfl, rfl⟩ | rfl | (refine ⟨?_, rfl⟩; rfl)))); (try go_simp))
            (refine textS_run ?_ ?_ (fun W hS => ?_) ?_; rotate_left; (focus go_simp); (focus (subst hS; go_simp; all_goals (first | exact ⟨rfl, rfl⟩ | rfl | (refine ⟨?_, rfl⟩; rfl)))); (try go_simp))
            (refine textS_run ?_ ?_ (fun W hS => ?_) ?_; rotate_left; (focus go_simp); (focus (subst hS; go_simp; all_goals (first | exact ⟨rfl, rfl⟩ | rfl | (refine ⟨?_, rfl⟩; rfl)))); (try go_simp))
            (refine textS_run ?_ ?_ (fun W hS => ?_) ?_; rotate_left; (focus go_simp); (focus (subst hS; go_simp; all_goals (first | exact ⟨rfl, rfl⟩ | rfl | (refine ⟨?_, rfl⟩; rfl)))); (try go_simp))
            (refine textS_run ?_ ?_ (fun W hS => ?_) ?_; rotate_left; (focus go_simp); (focus (subst hS; go_simp; all_goals (first | exact ⟨rfl, rfl⟩ | rfl | (refine ⟨?_, rfl⟩; rfl)))); (try go_simp))
            (refine textS_run ?_ ?_ (fun W hS => ?_) ?_; rotate_left; (focus go_simp); (focus (subst hS; go_simp; all_goals (first | exact ⟨rfl, rfl⟩ | rfl | (refine ⟨?_, rfl⟩; rfl)))); (try go_simp))
            (refine textS_run ?_ ?_ (fun W hS => ?_) ?_; rotate_left; (focus go_simp); (focus (subst hS; go_simp; all_goals (first | exact ⟨rfl, rfl⟩ | rfl | (refine ⟨?_, rfl⟩; rfl)))); (try go_simp))
            (refine textS_run ?_ ?_ (fun W hS => ?_) ?_; rotate_left; (focus go_simp); (focus (subst hS; go_simp; all_goals (first | exact ⟨rfl, rfl⟩ | rfl | (refine ⟨?_, rfl⟩; rfl)))); (try go_simp))
            clear en e0 ew ey hb cz bz_ cy y0 y1
            have hend := HEND.out
            have hyy := HYY.out
            have hzz := HZZ.out
            clear HYY HZZ HEND
            subst hyy
            subst hzz
            refine textS_nil ?_
            by_cases hsh : q < i + 2
            · by_cases hwe : ws = []
              · skip
                have hsub : (q : Int) - (i : Int) < 2 := by omega
                have HT2 := Lib.hid (tok_short hiq (by omega) hql HRUN.out hend)
                have HW2 := Lib.hid (hW.snoc (word_one _ ) (t := dec2 (l.getD i 0).toNat))
                have HS := Lib.hid (show strB (Lib.join (ws ++ [dec2 (l.getD i 0).toNat]) [44]) = strB (Lib.join ws [44]) ++ strB (dec2 (l.getD i 0).toNat) by rw [join_snoc, if_pos hwe, hwe, Lib.join_nil, strB_app, List.nil_append])
                have hT0 : (strB (Lib.join ws [44])).toList = [] := by rw [ByteArray.toList_eq, strB_data]; exact (join_empty hW).2 hwe
                have hT1 : (strB (Lib.join ws [44])).toList.isEmpty = true := by rw [hT0]; rfl
                have hT2 : ((strB (Lib.join ws [44])).toList == []) = true := by rw [hT0]; rfl
                have hTs : (strB (Lib.join ws [44])).size ≤ 400 := by show (Lib.join ws [44]).toArray.size ≤ 400; rw [List.size_toArray]; omega
                have hDs : (strB (dec2 (l.getD i 0).toNat)).size ≤ 2 := dec2_len _
                have hDs2 : (strB (dec2 (l.getD q 0).toNat)).size ≤ 2 := dec2_len _
                have rx := HRg.out i hlt
                have ry := HRg.out q hql
                have KX := Lib.hid (fun W => rdig_any (l.getD i 0) rx.1 rx.2 W)
                have KY := Lib.hid (fun W => rdig_any (l.getD q 0) ry.1 ry.2 W)
                have cx := (hBq.cell (p := ⟨g, o + i, none⟩) (World.block_lt_of_cell? w _ (HC.out i hlt))).trans (HC.out i hlt)
                have cy := (hBq.cell (p := ⟨g, o + q, none⟩) (World.block_lt_of_cell? w _ (HC.out q hql))).trans (HC.out q hql)
                have hBqd := hBq.drew
                have hlt' : (i : Int) < (l.length : Int) := by omega
                have hql' : (q : Int) < (l.length : Int) := by omega
                have hgt : True := trivial
                clear hT0 rx ry hend hjl HRUN hwe
                generalize strB (Lib.join ws [44]) = T at *
                generalize strB (dec2 (l.getD i 0).toNat) = D at *
                generalize strB (dec2 (l.getD q 0).toNat) = D2 at *
                generalize hgx : l.getD i 0 = x at *
                have HGX := Lib.hid hgx
                clear hgx
                generalize hgy : l.getD q 0 = y at *
                have HGY := Lib.hid hgy
                clear hgy
                go_wp2_with fail
                refine (KX.out _).mono ?_
                rintro e w' ⟨rfl, rfl⟩
                go_wp2_with fail
                go_roundw
                case rel => exact ⟨i + 1, _, by omega, by go_num, by rw [HS.out], by rw [HTK.out, HT2.out, List.append_assoc], by rw [List.length_append, List.length_singleton]; omega, HW2.out, hBqd⟩
                case measure => simp [intOf]; omega
              · skip
                have hsub : (q : Int) - (i : Int) < 2 := by omega
                have HT2 := Lib.hid (tok_short hiq (by omega) hql HRUN.out hend)
                have HW2 := Lib.hid (hW.snoc (word_one _ ) (t := dec2 (l.getD i 0).toNat))
                have HS := Lib.hid (show strB (Lib.join (ws ++ [dec2 (l.getD i 0).toNat]) [44]) = strB (Lib.join ws [44]) ++ { data := #[44] } ++ strB (dec2 (l.getD i 0).toNat) by rw [join_snoc, if_neg hwe, show ({ data := #[44] } : ByteArray) = strB [44] from rfl, strB_app, strB_app, List.append_assoc]; rfl)
                have hT0 : (strB (Lib.join ws [44])).toList ≠ [] := by rw [ByteArray.toList_eq, strB_data]; exact fun h => hwe ((join_empty hW).1 h)
                have hT1 : (strB (Lib.join ws [44])).toList.isEmpty = false := by cases h : (strB (Lib.join ws [44])).toList with | nil => exact absurd h hT0 | cons _ _ => rfl
                have hT2 : ((strB (Lib.join ws [44])).toList == []) = false := by cases h : (strB (Lib.join ws [44])).toList with | nil => exact absurd h hT0 | cons _ _ => rfl
                have hTs : (strB (Lib.join ws [44])).size ≤ 400 := by show (Lib.join ws [44]).toArray.size ≤ 400; rw [List.size_toArray]; omega
                have hDs : (strB (dec2 (l.getD i 0).toNat)).size ≤ 2 := dec2_len _
                have hDs2 : (strB (dec2 (l.getD q 0).toNat)).size ≤ 2 := dec2_len _
                have rx := HRg.out i hlt
                have ry := HRg.out q hql
                have KX := Lib.hid (fun W => rdig_any (l.getD i 0) rx.1 rx.2 W)
                have KY := Lib.hid (fun W => rdig_any (l.getD q 0) ry.1 ry.2 W)
                have cx := (hBq.cell (p := ⟨g, o + i, none⟩) (World.block_lt_of_cell? w _ (HC.out i hlt))).trans (HC.out i hlt)
                have cy := (hBq.cell (p := ⟨g, o + q, none⟩) (World.block_lt_of_cell? w _ (HC.out q hql))).trans (HC.out q hql)
                have hBqd := hBq.drew
                have hlt' : (i : Int) < (l.length : Int) := by omega
                have hql' : (q : Int) < (l.length : Int) := by omega
                have hgt : True := trivial
                clear hT0 rx ry hend hjl HRUN hwe
                generalize strB (Lib.join ws [44]) = T at *
                generalize strB (dec2 (l.getD i 0).toNat) = D at *
                generalize strB (dec2 (l.getD q 0).toNat) = D2 at *
                generalize hgx : l.getD i 0 = x at *
                have HGX := Lib.hid hgx
                clear hgx
                generalize hgy : l.getD q 0 = y at *
                have HGY := Lib.hid hgy
                clear hgy
                go_wp2_with fail
                refine (KX.out _).mono ?_
                rintro e w' ⟨rfl, rfl⟩
                go_wp2_with fail
                go_roundw
                case rel => exact ⟨i + 1, _, by omega, by go_num, by rw [HS.out], by rw [HTK.out, HT2.out, List.append_assoc], by rw [List.length_append, List.length_singleton]; omega, HW2.out, hBqd⟩
                case measure => simp [intOf]; omega
            · by_cases hwe : ws = []
              · skip
                have hsub : ¬ (q : Int) - (i : Int) < 2 := by omega
                have HT2 := Lib.hid (tok_long (by omega) hql HRUN.out hend)
                have HW2 := Lib.hid (hW.snoc (word_two _ _) (t := dec2 (l.getD i 0).toNat ++ 45 :: dec2 (l.getD q 0).toNat))
                have HS := Lib.hid (show strB (Lib.join (ws ++ [dec2 (l.getD i 0).toNat ++ 45 :: dec2 (l.getD q 0).toNat]) [44]) = strB (Lib.join ws [44]) ++ strB (dec2 (l.getD i 0).toNat) ++ { data := #[45] } ++ strB (dec2 (l.getD q 0).toNat) by rw [join_snoc, if_pos hwe, hwe, Lib.join_nil, show ({ data := #[45] } : ByteArray) = strB [45] from rfl, strB_app, strB_app, strB_app, List.nil_append, List.append_assoc]; rfl)
                have hT0 : (strB (Lib.join ws [44])).toList = [] := by rw [ByteArray.toList_eq, strB_data]; exact (join_empty hW).2 hwe
                have hT1 : (strB (Lib.join ws [44])).toList.isEmpty = true := by rw [hT0]; rfl
                have hT2 : ((strB (Lib.join ws [44])).toList == []) = true := by rw [hT0]; rfl
                have hTs : (strB (Lib.join ws [44])).size ≤ 400 := by show (Lib.join ws [44]).toArray.size ≤ 400; rw [List.size_toArray]; omega
                have hDs : (strB (dec2 (l.getD i 0).toNat)).size ≤ 2 := dec2_len _
                have hDs2 : (strB (dec2 (l.getD q 0).toNat)).size ≤ 2 := dec2_len _
                have rx := HRg.out i hlt
                have ry := HRg.out q hql
                have KX := Lib.hid (fun W => rdig_any (l.getD i 0) rx.1 rx.2 W)
                have KY := Lib.hid (fun W => rdig_any (l.getD q 0) ry.1 ry.2 W)
                have cx := (hBq.cell (p := ⟨g, o + i, none⟩) (World.block_lt_of_cell? w _ (HC.out i hlt))).trans (HC.out i hlt)
                have cy := (hBq.cell (p := ⟨g, o + q, none⟩) (World.block_lt_of_cell? w _ (HC.out q hql))).trans (HC.out q hql)
                have hBqd := hBq.drew
                have hlt' : (i : Int) < (l.length : Int) := by omega
                have hql' : (q : Int) < (l.length : Int) := by omega
                have hgt : (i : Int) < (q : Int) := by omega
                clear hT0 rx ry hend hjl HRUN hwe
                generalize strB (Lib.join ws [44]) = T at *
                generalize strB (dec2 (l.getD i 0).toNat) = D at *
                generalize strB (dec2 (l.getD q 0).toNat) = D2 at *
                generalize hgx : l.getD i 0 = x at *
                have HGX := Lib.hid hgx
                clear hgx
                generalize hgy : l.getD q 0 = y at *
                have HGY := Lib.hid hgy
                clear hgy
                go_wp2_with fail
                refine (KX.out _).mono ?_
                rintro e w' ⟨rfl, rfl⟩
                go_wp2_with fail
                refine (KY.out _).mono ?_
                rintro e w' ⟨rfl, rfl⟩
                go_wp2_with fail
                go_roundw
                case rel => exact ⟨q + 1, _, by omega, by go_num, by rw [HS.out], by rw [HTK.out, HT2.out, List.append_assoc], by rw [List.length_append, List.length_singleton]; omega, HW2.out, hBqd⟩
                case measure => simp [intOf]; omega
              · skip
                have hsub : ¬ (q : Int) - (i : Int) < 2 := by omega
                have HT2 := Lib.hid (tok_long (by omega) hql HRUN.out hend)
                have HW2 := Lib.hid (hW.snoc (word_two _ _) (t := dec2 (l.getD i 0).toNat ++ 45 :: dec2 (l.getD q 0).toNat))
                have HS := Lib.hid (show strB (Lib.join (ws ++ [dec2 (l.getD i 0).toNat ++ 45 :: dec2 (l.getD q 0).toNat]) [44]) = strB (Lib.join ws [44]) ++ { data := #[44] } ++ strB (dec2 (l.getD i 0).toNat) ++ { data := #[45] } ++ strB (dec2 (l.getD q 0).toNat) by rw [join_snoc, if_neg hwe, show ({ data := #[44] } : ByteArray) = strB [44] from rfl, show ({ data := #[45] } : ByteArray) = strB [45] from rfl, strB_app, strB_app, strB_app, strB_app]; congr 1; simp)
                have hT0 : (strB (Lib.join ws [44])).toList ≠ [] := by rw [ByteArray.toList_eq, strB_data]; exact fun h => hwe ((join_empty hW).1 h)
                have hT1 : (strB (Lib.join ws [44])).toList.isEmpty = false := by cases h : (strB (Lib.join ws [44])).toList with | nil => exact absurd h hT0 | cons _ _ => rfl
                have hT2 : ((strB (Lib.join ws [44])).toList == []) = false := by cases h : (strB (Lib.join ws [44])).toList with | nil => exact absurd h hT0 | cons _ _ => rfl
                have hTs : (strB (Lib.join ws [44])).size ≤ 400 := by show (Lib.join ws [44]).toArray.size ≤ 400; rw [List.size_toArray]; omega
                have hDs : (strB (dec2 (l.getD i 0).toNat)).size ≤ 2 := dec2_len _
                have hDs2 : (strB (dec2 (l.getD q 0).toNat)).size ≤ 2 := dec2_len _
                have rx := HRg.out i hlt
                have ry := HRg.out q hql
                have KX := Lib.hid (fun W => rdig_any (l.getD i 0) rx.1 rx.2 W)
                have KY := Lib.hid (fun W => rdig_any (l.getD q 0) ry.1 ry.2 W)
                have cx := (hBq.cell (p := ⟨g, o + i, none⟩) (World.block_lt_of_cell? w _ (HC.out i hlt))).trans (HC.out i hlt)
                have cy := (hBq.cell (p := ⟨g, o + q, none⟩) (World.block_lt_of_cell? w _ (HC.out q hql))).trans (HC.out q hql)
                have hBqd := hBq.drew
                have hlt' : (i : Int) < (l.length : Int) := by omega
                have hql' : (q : Int) < (l.length : Int) := by omega
                have hgt : (i : Int) < (q : Int) := by omega
                clear hT0 rx ry hend hjl HRUN hwe
                generalize strB (Lib.join ws [44]) = T at *
                generalize strB (dec2 (l.getD i 0).toNat) = D at *
                generalize strB (dec2 (l.getD q 0).toNat) = D2 at *
                generalize hgx : l.getD i 0 = x at *
                have HGX := Lib.hid hgx
                clear hgx
                generalize hgy : l.getD q 0 = y at *
                have HGY := Lib.hid hgy
                clear hgy
                go_wp2_with fail
                refine (KX.out _).mono ?_
                rintro e w' ⟨rfl, rfl⟩
                go_wp2_with fail
                refine (KY.out _).mono ?_
                rintro e w' ⟨rfl, rfl⟩
                go_wp2_with fail
                go_roundw
                case rel => exact ⟨q + 1, _, by omega, by go_num, by rw [HS.out], by rw [HTK.out, HT2.out, List.append_assoc], by rw [List.length_append, List.length_singleton]; omega, HW2.out, hBqd⟩
                case measure => simp [intOf]; omega
        · have hend : q + 1 = l.length ∨ l.getD (q + 1) 0 ≠ l.getD q 0 + 1 := .inl (by omega)
          have hq1' : ¬ (q : Int) + 1 < (l.length : Int) := by omega
          have en : ((q : Int) + 1).toNat = q + 1 := by omega
          have e0 : (0 : Int) ≤ (q : Int) + 1 := by omega
          have ew : IntKind.i64.wrap ((q : Int) + 1) = (q : Int) + 1 := IntWalk.i64_in _ (by omega)
          have HEND := Lib.hid hend
          clear hend
          go_wp2
          refine wp_region_grow (fun w' => w' = wr.drew) hmx (by kernel_rfl) rfl ?_
          (refine textS_run ?_ ?_ (fun W hS => ?_) ?_; rotate_left; (focus go_simp); (focus (subst hS; go_simp; all_goals (first | exact ⟨rfl, rfl⟩ | rfl | (refine ⟨?_, rfl⟩; rfl)))); (try go_simp))
          (refine textS_run ?_ ?_ (fun W hS => ?_) ?_; rotate_left; (focus go_simp); (focus (subst hS; go_simp; all_goals (first | exact ⟨rfl, rfl⟩ | rfl | (refine ⟨?_, rfl⟩; rfl)))); (try go_simp))
          (refine textS_run ?_ ?_ (fun W hS => ?_) ?_; rotate_left; (focus go_simp); (focus (subst hS; go_simp; all_goals (first | exact ⟨rfl, rfl⟩ | rfl | (refine ⟨?_, rfl⟩; rfl)))); (try go_simp))
          (refine textS_run ?_ ?_ (fun W hS => ?_) ?_; rotate_left; (focus go_simp); (focus (subst hS; go_simp; all_goals (first | exact ⟨rfl, rfl⟩ | rfl | (refine ⟨?_, rfl⟩; rfl)))); (try go_simp))
          (refine textS_run ?_ ?_ (fun W hS => ?_) ?_; rotate_left; (focus go_simp); (focus (subst hS; go_simp; all_goals (first | exact ⟨rfl, rfl⟩ | rfl | (refine ⟨?_, rfl⟩; rfl)))); (try go_simp))
          (refine textS_run ?_ ?_ (fun W hS => ?_) ?_; rotate_left; (focus go_simp); (focus (subst hS; go_simp; all_goals (first | exact ⟨rfl, rfl⟩ | rfl | (refine ⟨?_, rfl⟩; rfl)))); (try go_simp))
          (refine textS_skip ?_ ?_; (focus (first | rfl | (go_simp; done) | (go_simp; rfl))); (try go_simp))
          (refine textS_skip ?_ ?_; (focus (first | rfl | (go_simp; done) | (go_simp; rfl))); (try go_simp))
          (refine textS_skip ?_ ?_; (focus (first | rfl | (go_simp; done) | (go_simp; rfl))); (try go_simp))
          (refine textS_skip ?_ ?_; (focus (first | rfl | (go_simp; done) | (go_simp; rfl))); (try go_simp))
          (refine textS_skip ?_ ?_; (focus (first | rfl | (go_simp; done) | (go_simp; rfl))); (try go_simp))
          (refine textS_skip ?_ ?_; (focus (first | rfl | (go_simp; done) | (go_simp; rfl))); (try go_simp))
          (refine textS_skip ?_ ?_; (focus (first | rfl | (go_simp; done) | (go_simp; rfl))); (try go_simp))
          (refine textS_skip ?_ ?_; (focus (first | rfl | (go_simp; done) | (go_simp; rfl))); (try go_simp))
          (refine textS_skip ?_ ?_; (focus (first | rfl | (go_simp; done) | (go_simp; rfl))); (try go_simp))
          (refine textS_skip ?_ ?_; (focus (first | rfl | (go_simp; done) | (go_simp; rfl))); (try go_simp))
          (refine textS_skip ?_ ?_; (focus (first | rfl | (go_simp; done) | (go_simp; rfl))); (try go_simp))
          (refine textS_run ?_ ?_ (fun W hS => ?_) ?_; rotate_left; (focus go_simp); (focus (subst hS; go_simp; all_goals (first | exact ⟨rfl, rfl⟩ | rfl | (refine ⟨?_, rfl⟩; rfl)))); (try go_simp))
          clear en e0 ew hq1'
          have hend := HEND.out
          refine textS_nil ?_
          by_cases hsh : q < i + 2
          · by_cases hwe : ws = []
            · skip
              have hsub : (q : Int) - (i : Int) < 2 := by omega
              have HT2 := Lib.hid (tok_short hiq (by omega) hql HRUN.out hend)
              have HW2 := Lib.hid (hW.snoc (word_one _ ) (t := dec2 (l.getD i 0).toNat))
              have HS := Lib.hid (show strB (Lib.join (ws ++ [dec2 (l.getD i 0).toNat]) [44]) = strB (Lib.join ws [44]) ++ strB (dec2 (l.getD i 0).toNat) by rw [join_snoc, if_pos hwe, hwe, Lib.join_nil, strB_app, List.nil_append])
              have hT0 : (strB (Lib.join ws [44])).toList = [] := by rw [ByteArray.toList_eq, strB_data]; exact (join_empty hW).2 hwe
              have hT1 : (strB (Lib.join ws [44])).toList.isEmpty = true := by rw [hT0]; rfl
              have hT2 : ((strB (Lib.join ws [44])).toList == []) = true := by rw [hT0]; rfl
              have hTs : (strB (Lib.join ws [44])).size ≤ 400 := by show (Lib.join ws [44]).toArray.size ≤ 400; rw [List.size_toArray]; omega
              have hDs : (strB (dec2 (l.getD i 0).toNat)).size ≤ 2 := dec2_len _
              have hDs2 : (strB (dec2 (l.getD q 0).toNat)).size ≤ 2 := dec2_len _
              have rx := HRg.out i hlt
              have ry := HRg.out q hql
              have KX := Lib.hid (fun W => rdig_any (l.getD i 0) rx.1 rx.2 W)
              have KY := Lib.hid (fun W => rdig_any (l.getD q 0) ry.1 ry.2 W)
              have cx := (hBq.cell (p := ⟨g, o + i, none⟩) (World.block_lt_of_cell? w _ (HC.out i hlt))).trans (HC.out i hlt)
              have cy := (hBq.cell (p := ⟨g, o + q, none⟩) (World.block_lt_of_cell? w _ (HC.out q hql))).trans (HC.out q hql)
              have hBqd := hBq.drew
              have hlt' : (i : Int) < (l.length : Int) := by omega
              have hql' : (q : Int) < (l.length : Int) := by omega
              have hgt : True := trivial
              clear hT0 rx ry hend hjl HRUN hwe
              generalize strB (Lib.join ws [44]) = T at *
              generalize strB (dec2 (l.getD i 0).toNat) = D at *
              generalize strB (dec2 (l.getD q 0).toNat) = D2 at *
              generalize hgx : l.getD i 0 = x at *
              have HGX := Lib.hid hgx
              clear hgx
              generalize hgy : l.getD q 0 = y at *
              have HGY := Lib.hid hgy
              clear hgy
              go_wp2_with fail
              refine (KX.out _).mono ?_
              rintro e w' ⟨rfl, rfl⟩
              go_wp2_with fail
              go_roundw
              case rel => exact ⟨i + 1, _, by omega, by go_num, by rw [HS.out], by rw [HTK.out, HT2.out, List.append_assoc], by rw [List.length_append, List.length_singleton]; omega, HW2.out, hBqd⟩
              case measure => simp [intOf]; omega
            · skip
              have hsub : (q : Int) - (i : Int) < 2 := by omega
              have HT2 := Lib.hid (tok_short hiq (by omega) hql HRUN.out hend)
              have HW2 := Lib.hid (hW.snoc (word_one _ ) (t := dec2 (l.getD i 0).toNat))
              have HS := Lib.hid (show strB (Lib.join (ws ++ [dec2 (l.getD i 0).toNat]) [44]) = strB (Lib.join ws [44]) ++ { data := #[44] } ++ strB (dec2 (l.getD i 0).toNat) by rw [join_snoc, if_neg hwe, show ({ data := #[44] } : ByteArray) = strB [44] from rfl, strB_app, strB_app, List.append_assoc]; rfl)
              have hT0 : (strB (Lib.join ws [44])).toList ≠ [] := by rw [ByteArray.toList_eq, strB_data]; exact fun h => hwe ((join_empty hW).1 h)
              have hT1 : (strB (Lib.join ws [44])).toList.isEmpty = false := by cases h : (strB (Lib.join ws [44])).toList with | nil => exact absurd h hT0 | cons _ _ => rfl
              have hT2 : ((strB (Lib.join ws [44])).toList == []) = false := by cases h : (strB (Lib.join ws [44])).toList with | nil => exact absurd h hT0 | cons _ _ => rfl
              have hTs : (strB (Lib.join ws [44])).size ≤ 400 := by show (Lib.join ws [44]).toArray.size ≤ 400; rw [List.size_toArray]; omega
              have hDs : (strB (dec2 (l.getD i 0).toNat)).size ≤ 2 := dec2_len _
              have hDs2 : (strB (dec2 (l.getD q 0).toNat)).size ≤ 2 := dec2_len _
              have rx := HRg.out i hlt
              have ry := HRg.out q hql
              have KX := Lib.hid (fun W => rdig_any (l.getD i 0) rx.1 rx.2 W)
              have KY := Lib.hid (fun W => rdig_any (l.getD q 0) ry.1 ry.2 W)
              have cx := (hBq.cell (p := ⟨g, o + i, none⟩) (World.block_lt_of_cell? w _ (HC.out i hlt))).trans (HC.out i hlt)
              have cy := (hBq.cell (p := ⟨g, o + q, none⟩) (World.block_lt_of_cell? w _ (HC.out q hql))).trans (HC.out q hql)
              have hBqd := hBq.drew
              have hlt' : (i : Int) < (l.length : Int) := by omega
              have hql' : (q : Int) < (l.length : Int) := by omega
              have hgt : True := trivial
              clear hT0 rx ry hend hjl HRUN hwe
              generalize strB (Lib.join ws [44]) = T at *
              generalize strB (dec2 (l.getD i 0).toNat) = D at *
              generalize strB (dec2 (l.getD q 0).toNat) = D2 at *
              generalize hgx : l.getD i 0 = x at *
              have HGX := Lib.hid hgx
              clear hgx
              generalize hgy : l.getD q 0 = y at *
              have HGY := Lib.hid hgy
              clear hgy
              go_wp2_with fail
              refine (KX.out _).mono ?_
              rintro e w' ⟨rfl, rfl⟩
              go_wp2_with fail
              go_roundw
              case rel => exact ⟨i + 1, _, by omega, by go_num, by rw [HS.out], by rw [HTK.out, HT2.out, List.append_assoc], by rw [List.length_append, List.length_singleton]; omega, HW2.out, hBqd⟩
              case measure => simp [intOf]; omega
          · by_cases hwe : ws = []
            · skip
              have hsub : ¬ (q : Int) - (i : Int) < 2 := by omega
              have HT2 := Lib.hid (tok_long (by omega) hql HRUN.out hend)
              have HW2 := Lib.hid (hW.snoc (word_two _ _) (t := dec2 (l.getD i 0).toNat ++ 45 :: dec2 (l.getD q 0).toNat))
              have HS := Lib.hid (show strB (Lib.join (ws ++ [dec2 (l.getD i 0).toNat ++ 45 :: dec2 (l.getD q 0).toNat]) [44]) = strB (Lib.join ws [44]) ++ strB (dec2 (l.getD i 0).toNat) ++ { data := #[45] } ++ strB (dec2 (l.getD q 0).toNat) by rw [join_snoc, if_pos hwe, hwe, Lib.join_nil, show ({ data := #[45] } : ByteArray) = strB [45] from rfl, strB_app, strB_app, strB_app, List.nil_append, List.append_assoc]; rfl)
              have hT0 : (strB (Lib.join ws [44])).toList = [] := by rw [ByteArray.toList_eq, strB_data]; exact (join_empty hW).2 hwe
              have hT1 : (strB (Lib.join ws [44])).toList.isEmpty = true := by rw [hT0]; rfl
              have hT2 : ((strB (Lib.join ws [44])).toList == []) = true := by rw [hT0]; rfl
              have hTs : (strB (Lib.join ws [44])).size ≤ 400 := by show (Lib.join ws [44]).toArray.size ≤ 400; rw [List.size_toArray]; omega
              have hDs : (strB (dec2 (l.getD i 0).toNat)).size ≤ 2 := dec2_len _
              have hDs2 : (strB (dec2 (l.getD q 0).toNat)).size ≤ 2 := dec2_len _
              have rx := HRg.out i hlt
              have ry := HRg.out q hql
              have KX := Lib.hid (fun W => rdig_any (l.getD i 0) rx.1 rx.2 W)
              have KY := Lib.hid (fun W => rdig_any (l.getD q 0) ry.1 ry.2 W)
              have cx := (hBq.cell (p := ⟨g, o + i, none⟩) (World.block_lt_of_cell? w _ (HC.out i hlt))).trans (HC.out i hlt)
              have cy := (hBq.cell (p := ⟨g, o + q, none⟩) (World.block_lt_of_cell? w _ (HC.out q hql))).trans (HC.out q hql)
              have hBqd := hBq.drew
              have hlt' : (i : Int) < (l.length : Int) := by omega
              have hql' : (q : Int) < (l.length : Int) := by omega
              have hgt : (i : Int) < (q : Int) := by omega
              clear hT0 rx ry hend hjl HRUN hwe
              generalize strB (Lib.join ws [44]) = T at *
              generalize strB (dec2 (l.getD i 0).toNat) = D at *
              generalize strB (dec2 (l.getD q 0).toNat) = D2 at *
              generalize hgx : l.getD i 0 = x at *
              have HGX := Lib.hid hgx
              clear hgx
              generalize hgy : l.getD q 0 = y at *
              have HGY := Lib.hid hgy
              clear hgy
              go_wp2_with fail
              refine (KX.out _).mono ?_
              rintro e w' ⟨rfl, rfl⟩
              go_wp2_with fail
              refine (KY.out _).mono ?_
              rintro e w' ⟨rfl, rfl⟩
              go_wp2_with fail
              go_roundw
              case rel => exact ⟨q + 1, _, by omega, by go_num, by rw [HS.out], by rw [HTK.out, HT2.out, List.append_assoc], by rw [List.length_append, List.length_singleton]; omega, HW2.out, hBqd⟩
              case measure => simp [intOf]; omega
            · skip
              have hsub : ¬ (q : Int) - (i : Int) < 2 := by omega
              have HT2 := Lib.hid (tok_long (by omega) hql HRUN.out hend)
              have HW2 := Lib.hid (hW.snoc (word_two _ _) (t := dec2 (l.getD i 0).toNat ++ 45 :: dec2 (l.getD q 0).toNat))
              have HS := Lib.hid (show strB (Lib.join (ws ++ [dec2 (l.getD i 0).toNat ++ 45 :: dec2 (l.getD q 0).toNat]) [44]) = strB (Lib.join ws [44]) ++ { data := #[44] } ++ strB (dec2 (l.getD i 0).toNat) ++ { data := #[45] } ++ strB (dec2 (l.getD q 0).toNat) by rw [join_snoc, if_neg hwe, show ({ data := #[44] } : ByteArray) = strB [44] from rfl, show ({ data := #[45] } : ByteArray) = strB [45] from rfl, strB_app, strB_app, strB_app, strB_app]; congr 1; simp)
              have hT0 : (strB (Lib.join ws [44])).toList ≠ [] := by rw [ByteArray.toList_eq, strB_data]; exact fun h => hwe ((join_empty hW).1 h)
              have hT1 : (strB (Lib.join ws [44])).toList.isEmpty = false := by cases h : (strB (Lib.join ws [44])).toList with | nil => exact absurd h hT0 | cons _ _ => rfl
              have hT2 : ((strB (Lib.join ws [44])).toList == []) = false := by cases h : (strB (Lib.join ws [44])).toList with | nil => exact absurd h hT0 | cons _ _ => rfl
              have hTs : (strB (Lib.join ws [44])).size ≤ 400 := by show (Lib.join ws [44]).toArray.size ≤ 400; rw [List.size_toArray]; omega
              have hDs : (strB (dec2 (l.getD i 0).toNat)).size ≤ 2 := dec2_len _
              have hDs2 : (strB (dec2 (l.getD q 0).toNat)).size ≤ 2 := dec2_len _
              have rx := HRg.out i hlt
              have ry := HRg.out q hql
              have KX := Lib.hid (fun W => rdig_any (l.getD i 0) rx.1 rx.2 W)
              have KY := Lib.hid (fun W => rdig_any (l.getD q 0) ry.1 ry.2 W)
              have cx := (hBq.cell (p := ⟨g, o + i, none⟩) (World.block_lt_of_cell? w _ (HC.out i hlt))).trans (HC.out i hlt)
              have cy := (hBq.cell (p := ⟨g, o + q, none⟩) (World.block_lt_of_cell? w _ (HC.out q hql))).trans (HC.out q hql)
              have hBqd := hBq.drew
              have hlt' : (i : Int) < (l.length : Int) := by omega
              have hql' : (q : Int) < (l.length : Int) := by omega
              have hgt : (i : Int) < (q : Int) := by omega
              clear hT0 rx ry hend hjl HRUN hwe
              generalize strB (Lib.join ws [44]) = T at *
              generalize strB (dec2 (l.getD i 0).toNat) = D at *
              generalize strB (dec2 (l.getD q 0).toNat) = D2 at *
              generalize hgx : l.getD i 0 = x at *
              have HGX := Lib.hid hgx
              clear hgx
              generalize hgy : l.getD q 0 = y at *
              have HGY := Lib.hid hgy
              clear hgy
              go_wp2_with fail
              refine (KX.out _).mono ?_
              rintro e w' ⟨rfl, rfl⟩
              go_wp2_with fail
              refine (KY.out _).mono ?_
              rintro e w' ⟨rfl, rfl⟩
              go_wp2_with fail
              go_roundw
              case rel => exact ⟨q + 1, _, by omega, by go_num, by rw [HS.out], by rw [HTK.out, HT2.out, List.append_assoc], by rw [List.length_append, List.length_singleton]; omega, HW2.out, hBqd⟩
              case measure => simp [intOf]; omega
    · obtain rfl : i = l.length := by omega
      rw [List.drop_length] at htk
      rw [show toks none ([] : List Int) = [] from rfl, List.append_nil] at htk
      have HT := Lib.hid (show strB (Lib.join (toks none l) [44]) = strB (Lib.join ws [44]) by rw [htk])
      have hnl : ¬ ((l.length : Int) < (l.length : Int)) := by omega
      clear htk hwl hW
      generalize strB (Lib.join ws [44]) = T at *
      go_wp2
      go_ret
      exact ⟨by rw [HT.out]; rfl, hB⟩
theorem rtext_none (a : Option Addr) (c : Nat) (w : World) : Calls Tryd.prog 27 #[.slice a 0 c] w fun e w' => e = .returned (.string ⟨#[110, 111, 110, 101]⟩) ∧ w = w' := by
  go_enter Tryd.func27, Tryd.ntmps27
  go_wp2
  go_ret
  exact ⟨rfl, rfl⟩
/-- the text of a set's nodes -/
theorem rtext_nodes {v : Value} (s : NSet) (w : World) (h : ReadsI w v (nodes s)) : Calls Tryd.prog 27 #[v] w fun e w' => e = .returned (.string (strB (textT (nodes s)))) ∧ Below w.heap.size w w' := by
  have hlen : (nodes s).length ≤ 64 := by rw [nodes_length _ s rfl]; exact card_le s
  rcases h with ⟨he, a, c, rfl⟩ | ⟨h0, h1, g, o, c, rfl, _, hc⟩
  · rw [he]
    exact (rtext_none a c w).mono fun e w' ⟨h1, h2⟩ => ⟨h1, h2 ▸ Below.refl _ _⟩
  · have := rtext_row g o c (nodes s) w hlen h0 (fun x hx => hasI_lt ((nodes_mem (card s) s rfl x).1 hx)) hc
    unfold textT
    rw [if_neg (fun e => by rw [e] at h0; exact absurd h0 (Nat.lt_irrefl _))]
    exact this
end Go.Proofs.YtkllhnfnkgkelaaDoor
