/- The document's Drop, Set and Due (layer 17). Conditions: no name twice; the list in order. -/
import Derived.Test.YtfakejfpicjedaaTmS
namespace Go.Proofs.Ytfakejfpicjedaa
set_option linter.unusedVariables false
open Go.ChangeShapes Go.WideShapes Go.ChangeAt Go.RowKit Tm
attribute [local go_sem ↓] Go.wp_at_zero Go.wp_at_succ comesTo_value_eq comesTo_skip_eq comesTo_enter_eq

set_option maxRecDepth 100000 in
set_option maxHeartbeats 4000000 in
theorem rdrop {w : World} {v : Value} {L : List AL} (h : RC w v L) (hl : L.length ≤ 4096) (hu : NU L) (id : Int) :
    Calls Try.prog 11 #[v, .int .i64 id] w fun e w' => ∃ u, e = .returned (.tuple #[u, .bool (inR L id)]) ∧ RC w' u (delR L id) ∧ Below w.heap.size w w' ∧ (u = v ∨ ∀ g, u.ownBlock = some g → w.heap.size ≤ g) := by
  have hmx : Try.prog.follows .mixedOrders = true := by kernel_rfl
  rcases h with ⟨rfl, rfl⟩ | ⟨g, off, cap, rfl, hc, hm, hR⟩
  · clear hl hu
    go_enter Try.func11, Try.ntmps11
    go_wp2_with fail
    go_loopw [6] (fun i wr => i = .int .i64 0 ∧ wr = w) (fun _ _ => 0)
    case atStart => exact ⟨rfl, rfl⟩
    case round =>
      obtain ⟨rfl, rfl⟩ := hrel
      go_wp2_with fail
      go_ret2
      exact ⟨_, rfl, .inl ⟨rfl, rfl⟩, Below.refl _ _, .inl rfl⟩
  · have HRR := Lib.hid hR
    have HU := Lib.hid hu
    have HC := Lib.hid (And.intro hc (And.intro hm hl))
    obtain ⟨n, hn⟩ : ∃ n, n = L.length := ⟨_, rfl⟩
    rw [← hn] at HC ⊢
    have HN := Lib.hid hn
    clear hc hm hl hu hR hn
    go_enter Try.func11, Try.ntmps11
    go_wp2_with fail
    go_loopw [6] (fun i wr => ∃ k : Nat, k ≤ n ∧ i = .int .i64 (k : Int) ∧ wr = w ∧ ∀ j, j < k → (gA L j).2 ≠ id) (fun i _ => n - (intOf i).toNat)
    case atStart => exact ⟨0, Nat.zero_le _, rfl, rfl, fun j hj => absurd hj (Nat.not_lt_zero _)⟩
    case round =>
      obtain ⟨k, hk, rfl, rfl, hno⟩ := hrel
      have HNO := Lib.hid hno
      clear hno
      by_cases hlt : k < n
      case pos =>
        obtain ⟨y0, y1⟩ := HRR.out.cells k (by rw [← HN.out]; exact hlt)
        have hkI : (k : Int) < (n : Int) := by omega
        have hw1 : IntKind.i64.wrap ((k : Int) + 1) = ((k + 1 : Nat) : Int) := by have := HC.out; rw [IntKind.wrap_i64]; omega
        by_cases he : (gA L k).2 = id
        case pos =>
          have HIN := Lib.hid (show inR L id = true from in_at.2 ⟨k, by rw [← HN.out]; exact hlt, he⟩)
          have HDL := Lib.hid (show delR L id = L.take k ++ L.drop (k + 1) from by rw [← he]; exact del_at HU.out (by rw [← HN.out]; exact hlt))
          rw [he] at y1
          generalize (gA L k).1 = y at *
          clear he
          obtain ⟨q, hq⟩ : ∃ q, q = k + 1 := ⟨_, rfl⟩
          rw [← hq] at hw1 HDL
          have hs1 : (k : Int) ≤ (cap : Int) := by have := HC.out.1; omega
          have hs2 : (k : Int) ≤ (n : Int) := by omega
          have hs3 : (q : Int) ≤ (cap : Int) := by have := HC.out.1; omega
          have hs4 : (q : Int) ≤ (n : Int) := by omega
          have hqn : q ≤ n := by omega
          clear hq
          go_upto_region 5 with fail
          clear y0 y1
          refine Ap.wp_region_K (S1 := fun _ => True) (S2 := fun _ => True) (js := 11) hmx ?_
          change Ap.wpAnyK _ _ _ _ _ _ _ 12 _ _ wr.drew
          have HD := Lib.hid (show Below wr.heap.size wr wr.drew from (Below.refl _ _).drew)
          have HR2 := Lib.hid (HRR.out.below HD.out)
          generalize hX : wr.drew = X0 at *
          clear hX
          refine Ap.wpAnyK_take1 (i := 1) (v := .slice (some ⟨g, off, none⟩) n cap) rfl (by decide) (by decide +kernel) (by decide +kernel) (by decide +kernel) (fun _ _ _ h => h) (.inl ⟨by first | rfl | (go_simp; done), fun X hX => by clear hX; first | (go_simp; done) | (go_simp; rfl)⟩) ⟨trivial, trivial⟩ ?_
          refine Ap.wpAnyK_take1 (i := 2) (v := .int .i64 (k : Int)) rfl (by decide) (by decide +kernel) (by decide +kernel) (by decide +kernel) (fun _ _ _ h => h) (.inl ⟨by first | rfl | (go_simp; done), fun X hX => by clear hX; first | (go_simp; done) | (go_simp; rfl)⟩) ⟨trivial, trivial⟩ ?_
          refine Ap.wpAnyK_take1 (i := 3) (v := .slice (some ⟨g, off, none⟩) k cap) rfl (by decide) (by decide +kernel) (by decide +kernel) (by decide +kernel) (fun _ _ _ h => h) (.inl ⟨by first | rfl | (go_simp; done), fun X hX => by clear hX; first | (go_simp; done) | (go_simp; rfl)⟩) ⟨trivial, trivial⟩ ?_
          refine Ap.wpAnyK_take1 (i := 5) (v := .slice (some ⟨g, off, none⟩) n cap) rfl (by decide) (by decide +kernel) (by decide +kernel) (by decide +kernel) (fun _ _ _ h => h) (.inl ⟨by first | rfl | (go_simp; done), fun X hX => by clear hX; first | (go_simp; done) | (go_simp; rfl)⟩) ⟨trivial, trivial⟩ ?_
          refine Ap.wpAnyK_take1 (i := 6) (v := .int .i64 (k : Int)) rfl (by decide) (by decide +kernel) (by decide +kernel) (by decide +kernel) (fun _ _ _ h => h) (.inl ⟨by first | rfl | (go_simp; done), fun X hX => by clear hX; first | (go_simp; done) | (go_simp; rfl)⟩) ⟨trivial, trivial⟩ ?_
          refine Ap.wpAnyK_take1 (i := 7) (v := .int .i64 (q : Int)) rfl (by decide) (by decide +kernel) (by decide +kernel) (by decide +kernel) (fun _ _ _ h => h) (.inl ⟨by first | rfl | (go_simp; done), fun X hX => by clear hX; first | (go_simp; done) | (go_simp; rfl)⟩) ⟨trivial, trivial⟩ ?_
          refine Ap.wpAnyK_take1 (i := 8) (v := .slice (if cap = q then some ⟨g, off, none⟩ else some ⟨g, off + q * 2, none⟩) (n - q) (cap - q)) rfl (by decide) (by decide +kernel) (by decide +kernel) (by decide +kernel) (fun _ _ _ h => h) (.inl ⟨by first | rfl | (go_simp; done), fun X hX => by clear hX; first | (go_simp; done) | (go_simp; rfl)⟩) ⟨trivial, trivial⟩ ?_
          have b1 := below_alloc (Below.refl _ X0) (.cells #[] 44)
          refine Ap.anyK_val1 (i := 0) (v := .slice (some ⟨X0.heap.size, 0, none⟩) 0 0) (w' := X0.alloc (.cells #[] 44)) (by decide +kernel) rfl rfl (by first | (go_simp; done) | (go_simp; rfl)) ⟨trivial, trivial⟩ ?_
          have rd1 : Ap.RdG X0 2 (.slice (some ⟨g, off, none⟩) k cap) k (flA (L.take k)) := (HR2.out.take (by rw [← HN.out]; omega)).rd (by rw [List.length_take, ← HN.out]; omega) _
          have rd2 : Ap.RdG X0 2 (.slice (if cap = q then some ⟨g, off, none⟩ else some ⟨g, off + q * 2, none⟩) (n - q) (cap - q)) (n - q) (flA (L.drop q)) := by
            have hlen : n - q = (L.drop q).length := by rw [List.length_drop, HN.out]
            by_cases hck : cap = q
            · rw [if_pos hck]
              have h0 : n - q = 0 := by have := HC.out.1; omega
              have h1 : L.drop q = [] := List.eq_nil_of_length_eq_zero (by rw [← hlen]; exact h0)
              rw [h1, h0]
              exact rd_none HR2.out.lt _
            · rw [if_neg hck]
              exact (HR2.out.drop q).rd hlen _
          obtain ⟨v1, X1, hrun1, hown1, _, hb1⟩ := Ap.run_app elt17 26 X0.heap.size _ 0 [] (Ap.own_made X0 44 (size := 2) (Nat.le_refl _)) _ k _ (rd1.mono b1) (by have := HC.out; unfold maxLen; omega) (by have := HC.out; omega) b1.size
          rw [Nat.zero_add, List.nil_append] at hown1
          obtain ⟨v2, X2, hrun2, hown2, _, hb2⟩ := Ap.run_app elt17 26 X0.heap.size v1 k _ hown1 _ (n - q) _ (rd2.mono (b1.trans hb1)) (by have := HC.out; unfold maxLen; omega) (by have := HC.out; omega) (Nat.le_trans b1.size hb1.size)
          refine Ap.anyK_val1 (i := 4) (v := v1) (w' := X1) (by decide +kernel) rfl rfl (Ap.exec_app rfl (by simp [Act.put, Act.eval]) (by simp [Act.put, Act.eval]) hrun1) ⟨trivial, trivial⟩ ?_
          refine Ap.anyK_val1 (i := 9) (v := v2) (w' := X2) (by decide +kernel) rfl rfl (Ap.exec_app rfl (by simp [Act.put, Act.eval]) (by simp [Act.put, Act.eval]) hrun2) ⟨trivial, trivial⟩ ?_
          have HRES := Lib.hid (show RC X2 v2 (delR L id) from by
            rw [HDL.out]
            refine RC.own (B := X0.heap.size) ?_
            have e1 : (L.take k ++ L.drop q).length = k + (n - q) := by rw [List.length_append, List.length_take, List.length_drop, ← HN.out]; omega
            rw [e1, flA_app]
            exact hown2)
          have HBB := Lib.hid (show Below wr.heap.size wr X2 from HD.out.trans (((b1.trans hb1).trans hb2).mono HD.out.size))
          have HGE := Lib.hid (show ∀ g, v2.ownBlock = some g → wr.heap.size ≤ g from fun g hg => Nat.le_trans HD.out.size (Ap.own_blk hown2 g hg))
          clear hown1 hown2 hrun1 hrun2 hb1 hb2 b1 rd1 rd2
          refine Ap.anyK_val1 (i := 10) (v := v2) (w' := X2) (by decide +kernel) rfl rfl (by first | (go_simp; done) | (go_simp; rfl)) ⟨trivial, trivial⟩ ?_
          refine Ap.anyK_val1 (i := 11) (v := .bool true) (w' := X2) (by decide +kernel) rfl rfl (by first | (go_simp; done) | (go_simp; rfl)) ⟨trivial, trivial⟩ ?_
          refine Ap.wpAnyK_done (by decide +kernel) ?_ _
          go_wp2_with fail
          all_goals (
            go_ret2
            rw [HIN.out]
            exact ⟨_, rfl, HRES.out, HBB.out, .inr HGE.out⟩)
        case neg =>
          have HNO2 := Lib.hid (show ∀ j, j < k + 1 → (gA L j).2 ≠ id from fun j hj => by
            rcases Nat.lt_or_ge j k with h | h
            · exact HNO.out j h
            · rw [show j = k by omega]; exact he)
          have hq : ((gA L k).2 == id) = false := by simpa using he
          generalize (gA L k).2 = y2 at *
          generalize (gA L k).1 = y at *
          clear he
          go_wp2_with fail
          go_roundw
          case rel => exact ⟨k + 1, by omega, by go_num, trivial, HNO2.out⟩
          case measure => simp [intOf]; omega
      case neg =>
        have hkI : ¬ (k : Int) < (n : Int) := by omega
        have HIN := Lib.hid (show inR L id = false from by
          rw [← Bool.not_eq_true, in_at]
          rintro ⟨i, hi, he⟩
          exact HNO.out i (by rw [← HN.out] at hi; omega) he)
        clear hlt hk
        go_wp2_with fail
        go_ret2
        rw [HIN.out, del_none HIN.out]
        refine ⟨.slice (some ⟨g, off, none⟩) n cap, rfl, .inr ⟨g, off, cap, by rw [HN.out], by rw [← HN.out]; exact HC.out.1, HC.out.2.1, HRR.out⟩, Below.refl _ _, .inl rfl⟩
theorem inj_RC_none {w : World} {L : List AL} {v : Value} (h : RC w v L) : (v = .slice none 0 0 ∧ L = []) ∨ ∃ g o cap, v = .slice (some ⟨g, o, none⟩) L.length cap ∧ L.length ≤ cap ∧ cap ≤ maxLen ∧ RCat w g o L := h
theorem nu_del {L : List AL} (h : NU L) (id : Int) : (delR L id).length ≤ L.length := List.length_filter_le _ _
set_option maxRecDepth 100000 in
set_option maxHeartbeats 8000000 in
theorem rset {w : World} {v : Value} {L : List AL} (h : RC w v L) (hl : L.length ≤ 4096) (hu : NU L) (hs : SrtT L) (id t : Int) :
    Calls Try.prog 9 #[v, .int .i64 id, .int .i64 t] w fun e w' => ∃ u, e = .returned (.tuple #[u, .int .i64 (setR L id t).2]) ∧ RC w' u (setR L id t).1 ∧ Below w.heap.size w w' ∧ (u = v ∨ ∀ g, u.ownBlock = some g → w.heap.size ≤ g) := by
  have hmx : Try.prog.follows .mixedOrders = true := by kernel_rfl
  have HRC := Lib.hid h
  have K1 := Lib.hid (rdrop h hl hu id)
  have HLL := Lib.hid hl
  obtain ⟨va, vn, vc, hvf⟩ : ∃ a n c, v = .slice a n c ∧ n = L.length := by
    rcases h with ⟨rfl, rfl⟩ | ⟨g, o, cap, rfl, _⟩
    · exact ⟨_, _, _, rfl, rfl⟩
    · exact ⟨_, _, _, rfl, rfl⟩
  obtain ⟨rfl, hvn⟩ := hvf
  have HVN := Lib.hid hvn
  clear h hl hu hvn
  by_cases h1 : t < 0 ∨ 1099511627776 ≤ t
  case pos =>
    have HE := Lib.hid (show setR L id t = (L, 18) from by unfold setR; rw [if_pos h1])
    clear hs
    rcases h1 with h1 | h1
    · go_enter Try.func9, Try.ntmps9
      go_wp2_with fail
      go_ret2
      rw [HE.out]
      exact ⟨_, rfl, HRC.out, Below.refl _ _, .inl rfl⟩
    · have h2 : ¬ t < 0 := by omega
      go_enter Try.func9, Try.ntmps9
      go_wp2_with fail
      go_ret2
      rw [HE.out]
      exact ⟨_, rfl, HRC.out, Below.refl _ _, .inl rfl⟩
  case neg =>
    have h2 : ¬ t < 0 := by omega
    have h3 : ¬ 1099511627776 ≤ t := by omega
    by_cases hf : inR L id = false ∧ 4096 ≤ L.length
    case pos =>
      have HE := Lib.hid (show setR L id t = (L, 15) from by unfold setR; rw [if_neg h1, if_pos hf])
      have hlI : (4096 : Int) ≤ (vn : Int) := by have := HVN.out; omega
      rw [hf.1] at K1
      clear hs h1 hf
      go_enter Try.func9, Try.ntmps9
      go_wp2_with fail
      refine K1.out.mono ?_
      rintro e w1 ⟨u, rfl, hR, hb, _⟩
      have HB := Lib.hid hb
      have HR1 := Lib.hid (HRC.out.below hb)
      clear hR hb K1
      go_wp2_with fail
      go_ret2
      rw [HE.out]
      exact ⟨_, rfl, HR1.out, HB.out, .inl rfl⟩
    case neg =>
      have HE := Lib.hid (show setR L id t = (insR (t, id) (delR L id), 0) from by unfold setR; rw [if_neg h1, if_neg hf])
      have hgd : inR L id = false → ¬ (4096 : Int) ≤ (vn : Int) := fun h => by have := HVN.out; have h4 : ¬ 4096 ≤ L.length := fun h5 => hf ⟨h, h5⟩; omega
      have HDL := Lib.hid (show (delR L id).length ≤ 4096 from Nat.le_trans (List.length_filter_le _ _) HLL.out)
      clear hs h1 hf
      generalize delR L id = D at *
      go_enter Try.func9, Try.ntmps9
      go_wp2_with fail
      refine K1.out.mono ?_
      rintro e w1 ⟨u, rfl, hR, hb, _⟩
      have HB := Lib.hid hb
      have HR := Lib.hid hR
      clear hb K1 HRC
      cases hin : inR L id
      case true =>
        clear hgd
        rcases HR.out with ⟨rfl, hD0⟩ | ⟨g, off, cap, rfl, hc, hm, hRR⟩
        · have HD0 := Lib.hid hD0
          clear HR hD0
          go_wp2_with fail
          go_loopw [10] (fun i wr => i = .int .i64 0 ∧ wr = w1) (fun _ _ => 0)
          case atStart => exact ⟨rfl, rfl⟩
          case round =>
            obtain ⟨rfl, hw⟩ := hrel
            subst hw
            go_upto_region 9 with fail
            refine Ap.wp_region_K (S1 := fun _ => True) (S2 := fun _ => True) (js := 15) hmx ?_
            change Ap.wpAnyK _ _ _ _ _ _ _ 16 _ _ wr.drew
            have HD := Lib.hid (show Below wr.heap.size wr wr.drew from (Below.refl _ _).drew)
            generalize hX : wr.drew = X0 at *
            clear hX
            refine Ap.wpAnyK_take1 (i := 1) (v := .slice none 0 0) rfl (by decide) (by decide +kernel) (by decide +kernel) (by decide +kernel) (fun _ _ _ h => h) (.inl ⟨by first | rfl | (go_simp; done), fun X hX => by clear hX; first | (go_simp; done) | (go_simp; rfl)⟩) ⟨trivial, trivial⟩ ?_
            refine Ap.wpAnyK_take1 (i := 2) (v := .int .i64 0) rfl (by decide) (by decide +kernel) (by decide +kernel) (by decide +kernel) (fun _ _ _ h => h) (.inl ⟨by first | rfl | (go_simp; done), fun X hX => by clear hX; first | (go_simp; done) | (go_simp; rfl)⟩) ⟨trivial, trivial⟩ ?_
            refine Ap.wpAnyK_take1 (i := 3) (v := .slice none 0 0) rfl (by decide) (by decide +kernel) (by decide +kernel) (by decide +kernel) (fun _ _ _ h => h) (.inl ⟨by first | rfl | (go_simp; done), fun X hX => by clear hX; first | (go_simp; done) | (go_simp; rfl)⟩) ⟨trivial, trivial⟩ ?_
            refine Ap.wpAnyK_take1 (i := 5) (v := .int .i64 t) rfl (by decide) (by decide +kernel) (by decide +kernel) (by decide +kernel) (fun _ _ _ h => h) (.inl ⟨by first | rfl | (go_simp; done), fun X hX => by clear hX; first | (go_simp; done) | (go_simp; rfl)⟩) ⟨trivial, trivial⟩ ?_
            refine Ap.wpAnyK_take1 (i := 6) (v := .int .i64 id) rfl (by decide) (by decide +kernel) (by decide +kernel) (by decide +kernel) (fun _ _ _ h => h) (.inl ⟨by first | rfl | (go_simp; done), fun X hX => by clear hX; first | (go_simp; done) | (go_simp; rfl)⟩) ⟨trivial, trivial⟩ ?_
            refine Ap.wpAnyK_take1 (i := 7) (v := .agg #[.int .i64 t, .int .i64 id]) rfl (by decide) (by decide +kernel) (by decide +kernel) (by decide +kernel) (fun _ _ _ h => h) (.inl ⟨by first | rfl | (go_simp; done), fun X hX => by clear hX; first | (go_simp; done) | (go_simp; rfl)⟩) ⟨trivial, trivial⟩ ?_
            refine Ap.wpAnyK_take1 (i := 10) (v := .slice none 0 0) rfl (by decide) (by decide +kernel) (by decide +kernel) (by decide +kernel) (fun _ _ _ h => h) (.inl ⟨by first | rfl | (go_simp; done), fun X hX => by clear hX; first | (go_simp; done) | (go_simp; rfl)⟩) ⟨trivial, trivial⟩ ?_
            refine Ap.wpAnyK_take1 (i := 11) (v := .int .i64 0) rfl (by decide) (by decide +kernel) (by decide +kernel) (by decide +kernel) (fun _ _ _ h => h) (.inl ⟨by first | rfl | (go_simp; done), fun X hX => by clear hX; first | (go_simp; done) | (go_simp; rfl)⟩) ⟨trivial, trivial⟩ ?_
            refine Ap.wpAnyK_take1 (i := 12) (v := .slice none 0 0) rfl (by decide) (by decide +kernel) (by decide +kernel) (by decide +kernel) (fun _ _ _ h => h) (.inl ⟨by first | rfl | (go_simp; done), fun X hX => by clear hX; first | (go_simp; done) | (go_simp; rfl)⟩) ⟨trivial, trivial⟩ ?_
            have rd1 : Ap.RdG X0 2 (.slice none 0 0) 0 (flA []) := ⟨⟨none, 0, rfl, fun _ => rfl, (fun a ha => by cases ha), fun a ha => by cases ha⟩, rfl, fun u hu => by cases hu⟩
            have rd2 : Ap.RdG X0 2 (.slice none 0 0) 0 (flA []) := rd1
            refine Ap.anyK_app2 (j0 := 0) (j1 := 4) (j2 := 8) (j3 := 9) (fuel := 3) (cs := #[.int .i64 t, .int .i64 id]) elt17 X0.heap.size (.inl (by decide +kernel)) (.inl (by decide +kernel)) (by decide +kernel) (by decide +kernel) (by decide +kernel) (by decide +kernel) (by decide) rfl rfl rfl rfl ⟨rfl, rfl, rfl, rfl⟩ (by decide) ⟨rfl, rfl, rfl, rfl⟩ rfl rfl
              (by simp [Act.put]) (fun a' X => by first | (go_simp; done) | (go_simp; rfl)) (.slice none 0 0) 0 (flA []) (fun u0 u2 => ⟨by simp [Act.put, Act.eval], by simp [Act.put, Act.eval]⟩) rd1
              (fun u0 u1 X => ⟨by first | (go_simp; done) | (go_simp; rfl), by first | (go_simp; done) | (go_simp; rfl), by first | (go_simp; done) | (go_simp; rfl)⟩) rfl (by intro u hu; simp at hu; rcases hu with rfl | rfl <;> rfl) (by unfold maxLen; omega) (by omega) (Nat.le_refl _)
              (fun X hb => ⟨trivial, trivial⟩) ?_
            intro u0 u1 u2 v0 X ho hb
            obtain ⟨v1, X1, hrun, hown, _, hbel⟩ := Ap.run_app elt17 26 X0.heap.size v0 (0 + 1) _ ho _ 0 _ (rd2.mono hb) (by unfold maxLen; omega) (by omega) (hb.size)
            refine Ap.anyK_val1 (i := 13) (v := v1) (w' := X1) (by decide +kernel) rfl rfl (Ap.exec_app rfl (by simp [Act.put, Act.eval]) (by simp [Act.put, Act.eval]) hrun) ⟨trivial, trivial⟩ ?_
            have HRES := Lib.hid (show RC X1 v1 (insR (t, id) D) from by
              rw [HD0.out]
              exact RC.own (B := X0.heap.size) hown)
            have HBB := Lib.hid (show Below w.heap.size w X1 from HB.out.trans ((HD.out.trans ((hb.trans hbel).mono HD.out.size)).mono HB.out.size))
            have HGE := Lib.hid (show ∀ g, v1.ownBlock = some g → w.heap.size ≤ g from fun g hg => Nat.le_trans HB.out.size (Nat.le_trans HD.out.size (Ap.own_blk hown g hg)))
            clear hown hrun hbel ho hb rd1 rd2
            refine Ap.anyK_val1 (i := 14) (v := v1) (w' := X1) (by decide +kernel) rfl rfl (by first | (go_simp; done) | (go_simp; rfl)) ⟨trivial, trivial⟩ ?_
            refine Ap.anyK_val1 (i := 15) (v := .int .i64 0) (w' := X1) (by decide +kernel) rfl rfl (by first | (go_simp; done) | (go_simp; rfl)) ⟨trivial, trivial⟩ ?_
            refine Ap.wpAnyK_done (by decide +kernel) ?_ _
            go_wp2_with fail
            all_goals (
              go_ret2
              rw [HE.out]
              refine ⟨v1, ?_, HRES.out, HBB.out, .inr HGE.out⟩
              simp [Act.put])
        · have HRR := Lib.hid hRR
          have HC := Lib.hid (And.intro hc hm)
          obtain ⟨n, hn⟩ : ∃ n, n = D.length := ⟨_, rfl⟩
          rw [← hn] at HC HDL ⊢
          have HN := Lib.hid hn
          clear HR hc hm hRR hn
          go_wp2_with fail
          go_loopw [10] (fun i wr => ∃ k : Nat, k ≤ n ∧ i = .int .i64 (k : Int) ∧ wr = w1 ∧ ∀ j, j < k → ltB (gA D j) (t, id) = true) (fun i _ => n - (intOf i).toNat)
          case atStart => exact ⟨0, Nat.zero_le _, rfl, rfl, fun j hj => absurd hj (Nat.not_lt_zero _)⟩
          case round =>
            obtain ⟨k, hk, rfl, hw, hall⟩ := hrel
            subst hw
            have HALL := Lib.hid hall
            clear hall
            by_cases hlt : k < n
            case pos =>
              obtain ⟨y0, y1⟩ := HRR.out.cells k (by rw [← HN.out]; exact hlt)
              have hkI : (k : Int) < (n : Int) := by omega
              have hw1 : IntKind.i64.wrap ((k : Int) + 1) = (k : Int) + 1 := by have := HDL.out; rw [IntKind.wrap_i64]; omega
              cases hlb : ltB (gA D k) (t, id) with
              | true =>
                have HALL2 := Lib.hid (show ∀ j, j < k + 1 → ltB (gA D j) (t, id) = true from fun j hj => by
                  rcases Nat.lt_or_ge j k with h | h
                  · exact HALL.out j h
                  · rw [show j = k by omega]; exact hlb)
                rw [lt_iff] at hlb
                dsimp only at hlb
                generalize gA D k = y at *
                obtain ⟨z1, z2⟩ := y
                dsimp only at y0 y1 hlb
                have HKK := Lib.hid hlt
                by_cases ha : z1 < t
                · clear hlb hlt hk
                  go_wp2_with fail
                  go_roundw
                  case rel => exact ⟨k + 1, by have := HKK.out; omega, by go_num, trivial, HALL2.out⟩
                  case measure => have := HKK.out; simp [intOf]; omega
                · obtain rfl : z1 = t := by omega
                  have hb2 : z2 < id := by omega
                  clear hlb hlt hk
                  go_wp2_with fail
                  go_roundw
                  case rel => exact ⟨k + 1, by have := HKK.out; omega, by go_num, trivial, HALL2.out⟩
                  case measure => have := HKK.out; simp [intOf]; omega
              | false =>
                have HINS := Lib.hid (ins_at (x := (t, id)) D k (by rw [← HN.out]; exact hk) HALL.out (fun _ => hlb))
                have hs1 : (k : Int) ≤ (cap : Int) := by have := HC.out.1; omega
                have hs2 : (k : Int) ≤ (n : Int) := by omega
                rw [lt_not] at hlb
                dsimp only at hlb
                generalize gA D k = y at *
                obtain ⟨z1, z2⟩ := y
                dsimp only at y0 y1 hlb
                have ha : ¬ z1 < t := by omega
                have hnc : n ≤ cap := HC.out.1
                have hdl : n ≤ 4096 := HDL.out
                by_cases he : z1 = t
                · have he2 := he.symm
                  clear he
                  subst he2
                  have hb2 : ¬ z2 < id := by omega
                  clear hlb
                  go_upto_region 9 with fail
                  refine Ap.wp_region_K (S1 := fun _ => True) (S2 := fun _ => True) (js := 15) hmx ?_
                  change Ap.wpAnyK _ _ _ _ _ _ _ 16 _ _ wr.drew
                  have HD := Lib.hid (show Below wr.heap.size wr wr.drew from (Below.refl _ _).drew)
                  have HR2 := Lib.hid (HRR.out.below HD.out)
                  generalize hX : wr.drew = X0 at *
                  clear hX
                  refine Ap.wpAnyK_take1 (i := 1) (v := .slice (some ⟨g, off, none⟩) n cap) rfl (by decide) (by decide +kernel) (by decide +kernel) (by decide +kernel) (fun _ _ _ h => h) (.inl ⟨by first | rfl | (go_simp; done), fun X hX => by clear hX; first | (go_simp; done) | (go_simp; rfl)⟩) ⟨trivial, trivial⟩ ?_
                  refine Ap.wpAnyK_take1 (i := 2) (v := .int .i64 (k : Int)) rfl (by decide) (by decide +kernel) (by decide +kernel) (by decide +kernel) (fun _ _ _ h => h) (.inl ⟨by first | rfl | (go_simp; done), fun X hX => by clear hX; first | (go_simp; done) | (go_simp; rfl)⟩) ⟨trivial, trivial⟩ ?_
                  refine Ap.wpAnyK_take1 (i := 3) (v := .slice (some ⟨g, off, none⟩) k cap) rfl (by decide) (by decide +kernel) (by decide +kernel) (by decide +kernel) (fun _ _ _ h => h) (.inl ⟨by first | rfl | (go_simp; done), fun X hX => by clear hX; first | (go_simp; done) | (go_simp; rfl)⟩) ⟨trivial, trivial⟩ ?_
                  refine Ap.wpAnyK_take1 (i := 5) (v := .int .i64 t) rfl (by decide) (by decide +kernel) (by decide +kernel) (by decide +kernel) (fun _ _ _ h => h) (.inl ⟨by first | rfl | (go_simp; done), fun X hX => by clear hX; first | (go_simp; done) | (go_simp; rfl)⟩) ⟨trivial, trivial⟩ ?_
                  refine Ap.wpAnyK_take1 (i := 6) (v := .int .i64 id) rfl (by decide) (by decide +kernel) (by decide +kernel) (by decide +kernel) (fun _ _ _ h => h) (.inl ⟨by first | rfl | (go_simp; done), fun X hX => by clear hX; first | (go_simp; done) | (go_simp; rfl)⟩) ⟨trivial, trivial⟩ ?_
                  refine Ap.wpAnyK_take1 (i := 7) (v := .agg #[.int .i64 t, .int .i64 id]) rfl (by decide) (by decide +kernel) (by decide +kernel) (by decide +kernel) (fun _ _ _ h => h) (.inl ⟨by first | rfl | (go_simp; done), fun X hX => by clear hX; first | (go_simp; done) | (go_simp; rfl)⟩) ⟨trivial, trivial⟩ ?_
                  refine Ap.wpAnyK_take1 (i := 10) (v := .slice (some ⟨g, off, none⟩) n cap) rfl (by decide) (by decide +kernel) (by decide +kernel) (by decide +kernel) (fun _ _ _ h => h) (.inl ⟨by first | rfl | (go_simp; done), fun X hX => by clear hX; first | (go_simp; done) | (go_simp; rfl)⟩) ⟨trivial, trivial⟩ ?_
                  refine Ap.wpAnyK_take1 (i := 11) (v := .int .i64 (k : Int)) rfl (by decide) (by decide +kernel) (by decide +kernel) (by decide +kernel) (fun _ _ _ h => h) (.inl ⟨by first | rfl | (go_simp; done), fun X hX => by clear hX; first | (go_simp; done) | (go_simp; rfl)⟩) ⟨trivial, trivial⟩ ?_
                  refine Ap.wpAnyK_take1 (i := 12) (v := .slice (if cap = k then some ⟨g, off, none⟩ else some ⟨g, off + k * 2, none⟩) (n - k) (cap - k)) rfl (by decide) (by decide +kernel) (by decide +kernel) (by decide +kernel) (fun _ _ _ h => h) (.inl ⟨by first | rfl | (go_simp; done), fun X hX => by clear hX; first | (go_simp; done) | (go_simp; rfl)⟩) ⟨trivial, trivial⟩ ?_
                  have rd1 : Ap.RdG X0 2 (.slice (some ⟨g, off, none⟩) k cap) k (flA (D.take k)) := (HR2.out.take (by rw [← HN.out]; omega)).rd (by rw [List.length_take, ← HN.out]; omega) _
                  have rd2 : Ap.RdG X0 2 (.slice (if cap = k then some ⟨g, off, none⟩ else some ⟨g, off + k * 2, none⟩) (n - k) (cap - k)) (n - k) (flA (D.drop k)) := by
                    have hlen : n - k = (D.drop k).length := by rw [List.length_drop, HN.out]
                    by_cases hck : cap = k
                    · rw [if_pos hck]
                      have h0 : n - k = 0 := by have := HC.out.1; omega
                      have h1 : D.drop k = [] := List.eq_nil_of_length_eq_zero (by rw [← hlen]; exact h0)
                      rw [h1, h0]
                      exact rd_none HR2.out.lt _
                    · rw [if_neg hck]
                      exact (HR2.out.drop k).rd hlen _
                  refine Ap.anyK_app2 (j0 := 0) (j1 := 4) (j2 := 8) (j3 := 9) (fuel := 3) (cs := #[.int .i64 t, .int .i64 id]) elt17 X0.heap.size (.inl (by decide +kernel)) (.inl (by decide +kernel)) (by decide +kernel) (by decide +kernel) (by decide +kernel) (by decide +kernel) (by decide) rfl rfl rfl rfl ⟨rfl, rfl, rfl, rfl⟩ (by decide) ⟨rfl, rfl, rfl, rfl⟩ rfl rfl
                    (by simp [Act.put]) (fun a' X => by first | (go_simp; done) | (go_simp; rfl)) (.slice (some ⟨g, off, none⟩) k cap) k (flA (D.take k)) (fun u0 u2 => ⟨by simp [Act.put, Act.eval], by simp [Act.put, Act.eval]⟩) rd1
                    (fun u0 u1 X => ⟨by first | (go_simp; done) | (go_simp; rfl), by first | (go_simp; done) | (go_simp; rfl), by first | (go_simp; done) | (go_simp; rfl)⟩) rfl (by intro u hu; simp at hu; rcases hu with rfl | rfl <;> rfl) (by unfold maxLen; omega) (by omega) (Nat.le_refl _)
                    (fun X hb => ⟨trivial, trivial⟩) ?_
                  intro u0 u1 u2 v0 X ho hb
                  obtain ⟨v1, X1, hrun, hown, _, hbel⟩ := Ap.run_app elt17 26 X0.heap.size v0 (k + 1) _ ho _ (n - k) _ (rd2.mono hb) (by unfold maxLen; omega) (by omega) (hb.size)
                  refine Ap.anyK_val1 (i := 13) (v := v1) (w' := X1) (by decide +kernel) rfl rfl (Ap.exec_app rfl (by simp [Act.put, Act.eval]) (by simp [Act.put, Act.eval]) hrun) ⟨trivial, trivial⟩ ?_
                  have HRES := Lib.hid (show RC X1 v1 (insR (t, id) D) from by
                    rw [HINS.out]
                    refine RC.own (B := X0.heap.size) ?_
                    have e1 : (D.take k ++ (t, id) :: D.drop k).length = k + 1 + (n - k) := by rw [List.length_append, List.length_cons, List.length_take, List.length_drop, ← HN.out]; omega
                    have e2 : flA (D.take k ++ (t, id) :: D.drop k) = flA (D.take k) ++ [.int .i64 t, .int .i64 id] ++ flA (D.drop k) := by rw [flA_app, List.append_assoc]; rfl
                    rw [e1, e2]
                    exact hown)
                  have HBB := Lib.hid (show Below w.heap.size w X1 from HB.out.trans ((HD.out.trans ((hb.trans hbel).mono HD.out.size)).mono HB.out.size))
                  have HGE := Lib.hid (show ∀ g, v1.ownBlock = some g → w.heap.size ≤ g from fun g hg => Nat.le_trans HB.out.size (Nat.le_trans HD.out.size (Ap.own_blk hown g hg)))
                  clear hown hrun hbel ho hb rd1 rd2
                  refine Ap.anyK_val1 (i := 14) (v := v1) (w' := X1) (by decide +kernel) rfl rfl (by first | (go_simp; done) | (go_simp; rfl)) ⟨trivial, trivial⟩ ?_
                  refine Ap.anyK_val1 (i := 15) (v := .int .i64 0) (w' := X1) (by decide +kernel) rfl rfl (by first | (go_simp; done) | (go_simp; rfl)) ⟨trivial, trivial⟩ ?_
                  refine Ap.wpAnyK_done (by decide +kernel) ?_ _
                  go_wp2_with fail
                  all_goals (
                    go_ret2
                    rw [HE.out]
                    refine ⟨v1, ?_, HRES.out, HBB.out, .inr HGE.out⟩
                    simp [Act.put])
                · have he2 : (z1 == t) = false := by simpa using he
                  clear hlb he
                  go_upto_region 9 with fail
                  refine Ap.wp_region_K (S1 := fun _ => True) (S2 := fun _ => True) (js := 15) hmx ?_
                  change Ap.wpAnyK _ _ _ _ _ _ _ 16 _ _ wr.drew
                  have HD := Lib.hid (show Below wr.heap.size wr wr.drew from (Below.refl _ _).drew)
                  have HR2 := Lib.hid (HRR.out.below HD.out)
                  generalize hX : wr.drew = X0 at *
                  clear hX
                  refine Ap.wpAnyK_take1 (i := 1) (v := .slice (some ⟨g, off, none⟩) n cap) rfl (by decide) (by decide +kernel) (by decide +kernel) (by decide +kernel) (fun _ _ _ h => h) (.inl ⟨by first | rfl | (go_simp; done), fun X hX => by clear hX; first | (go_simp; done) | (go_simp; rfl)⟩) ⟨trivial, trivial⟩ ?_
                  refine Ap.wpAnyK_take1 (i := 2) (v := .int .i64 (k : Int)) rfl (by decide) (by decide +kernel) (by decide +kernel) (by decide +kernel) (fun _ _ _ h => h) (.inl ⟨by first | rfl | (go_simp; done), fun X hX => by clear hX; first | (go_simp; done) | (go_simp; rfl)⟩) ⟨trivial, trivial⟩ ?_
                  refine Ap.wpAnyK_take1 (i := 3) (v := .slice (some ⟨g, off, none⟩) k cap) rfl (by decide) (by decide +kernel) (by decide +kernel) (by decide +kernel) (fun _ _ _ h => h) (.inl ⟨by first | rfl | (go_simp; done), fun X hX => by clear hX; first | (go_simp; done) | (go_simp; rfl)⟩) ⟨trivial, trivial⟩ ?_
                  refine Ap.wpAnyK_take1 (i := 5) (v := .int .i64 t) rfl (by decide) (by decide +kernel) (by decide +kernel) (by decide +kernel) (fun _ _ _ h => h) (.inl ⟨by first | rfl | (go_simp; done), fun X hX => by clear hX; first | (go_simp; done) | (go_simp; rfl)⟩) ⟨trivial, trivial⟩ ?_
                  refine Ap.wpAnyK_take1 (i := 6) (v := .int .i64 id) rfl (by decide) (by decide +kernel) (by decide +kernel) (by decide +kernel) (fun _ _ _ h => h) (.inl ⟨by first | rfl | (go_simp; done), fun X hX => by clear hX; first | (go_simp; done) | (go_simp; rfl)⟩) ⟨trivial, trivial⟩ ?_
                  refine Ap.wpAnyK_take1 (i := 7) (v := .agg #[.int .i64 t, .int .i64 id]) rfl (by decide) (by decide +kernel) (by decide +kernel) (by decide +kernel) (fun _ _ _ h => h) (.inl ⟨by first | rfl | (go_simp; done), fun X hX => by clear hX; first | (go_simp; done) | (go_simp; rfl)⟩) ⟨trivial, trivial⟩ ?_
                  refine Ap.wpAnyK_take1 (i := 10) (v := .slice (some ⟨g, off, none⟩) n cap) rfl (by decide) (by decide +kernel) (by decide +kernel) (by decide +kernel) (fun _ _ _ h => h) (.inl ⟨by first | rfl | (go_simp; done), fun X hX => by clear hX; first | (go_simp; done) | (go_simp; rfl)⟩) ⟨trivial, trivial⟩ ?_
                  refine Ap.wpAnyK_take1 (i := 11) (v := .int .i64 (k : Int)) rfl (by decide) (by decide +kernel) (by decide +kernel) (by decide +kernel) (fun _ _ _ h => h) (.inl ⟨by first | rfl | (go_simp; done), fun X hX => by clear hX; first | (go_simp; done) | (go_simp; rfl)⟩) ⟨trivial, trivial⟩ ?_
                  refine Ap.wpAnyK_take1 (i := 12) (v := .slice (if cap = k then some ⟨g, off, none⟩ else some ⟨g, off + k * 2, none⟩) (n - k) (cap - k)) rfl (by decide) (by decide +kernel) (by decide +kernel) (by decide +kernel) (fun _ _ _ h => h) (.inl ⟨by first | rfl | (go_simp; done), fun X hX => by clear hX; first | (go_simp; done) | (go_simp; rfl)⟩) ⟨trivial, trivial⟩ ?_
                  have rd1 : Ap.RdG X0 2 (.slice (some ⟨g, off, none⟩) k cap) k (flA (D.take k)) := (HR2.out.take (by rw [← HN.out]; omega)).rd (by rw [List.length_take, ← HN.out]; omega) _
                  have rd2 : Ap.RdG X0 2 (.slice (if cap = k then some ⟨g, off, none⟩ else some ⟨g, off + k * 2, none⟩) (n - k) (cap - k)) (n - k) (flA (D.drop k)) := by
                    have hlen : n - k = (D.drop k).length := by rw [List.length_drop, HN.out]
                    by_cases hck : cap = k
                    · rw [if_pos hck]
                      have h0 : n - k = 0 := by have := HC.out.1; omega
                      have h1 : D.drop k = [] := List.eq_nil_of_length_eq_zero (by rw [← hlen]; exact h0)
                      rw [h1, h0]
                      exact rd_none HR2.out.lt _
                    · rw [if_neg hck]
                      exact (HR2.out.drop k).rd hlen _
                  refine Ap.anyK_app2 (j0 := 0) (j1 := 4) (j2 := 8) (j3 := 9) (fuel := 3) (cs := #[.int .i64 t, .int .i64 id]) elt17 X0.heap.size (.inl (by decide +kernel)) (.inl (by decide +kernel)) (by decide +kernel) (by decide +kernel) (by decide +kernel) (by decide +kernel) (by decide) rfl rfl rfl rfl ⟨rfl, rfl, rfl, rfl⟩ (by decide) ⟨rfl, rfl, rfl, rfl⟩ rfl rfl
                    (by simp [Act.put]) (fun a' X => by first | (go_simp; done) | (go_simp; rfl)) (.slice (some ⟨g, off, none⟩) k cap) k (flA (D.take k)) (fun u0 u2 => ⟨by simp [Act.put, Act.eval], by simp [Act.put, Act.eval]⟩) rd1
                    (fun u0 u1 X => ⟨by first | (go_simp; done) | (go_simp; rfl), by first | (go_simp; done) | (go_simp; rfl), by first | (go_simp; done) | (go_simp; rfl)⟩) rfl (by intro u hu; simp at hu; rcases hu with rfl | rfl <;> rfl) (by unfold maxLen; omega) (by omega) (Nat.le_refl _)
                    (fun X hb => ⟨trivial, trivial⟩) ?_
                  intro u0 u1 u2 v0 X ho hb
                  obtain ⟨v1, X1, hrun, hown, _, hbel⟩ := Ap.run_app elt17 26 X0.heap.size v0 (k + 1) _ ho _ (n - k) _ (rd2.mono hb) (by unfold maxLen; omega) (by omega) (hb.size)
                  refine Ap.anyK_val1 (i := 13) (v := v1) (w' := X1) (by decide +kernel) rfl rfl (Ap.exec_app rfl (by simp [Act.put, Act.eval]) (by simp [Act.put, Act.eval]) hrun) ⟨trivial, trivial⟩ ?_
                  have HRES := Lib.hid (show RC X1 v1 (insR (t, id) D) from by
                    rw [HINS.out]
                    refine RC.own (B := X0.heap.size) ?_
                    have e1 : (D.take k ++ (t, id) :: D.drop k).length = k + 1 + (n - k) := by rw [List.length_append, List.length_cons, List.length_take, List.length_drop, ← HN.out]; omega
                    have e2 : flA (D.take k ++ (t, id) :: D.drop k) = flA (D.take k) ++ [.int .i64 t, .int .i64 id] ++ flA (D.drop k) := by rw [flA_app, List.append_assoc]; rfl
                    rw [e1, e2]
                    exact hown)
                  have HBB := Lib.hid (show Below w.heap.size w X1 from HB.out.trans ((HD.out.trans ((hb.trans hbel).mono HD.out.size)).mono HB.out.size))
                  have HGE := Lib.hid (show ∀ g, v1.ownBlock = some g → w.heap.size ≤ g from fun g hg => Nat.le_trans HB.out.size (Nat.le_trans HD.out.size (Ap.own_blk hown g hg)))
                  clear hown hrun hbel ho hb rd1 rd2
                  refine Ap.anyK_val1 (i := 14) (v := v1) (w' := X1) (by decide +kernel) rfl rfl (by first | (go_simp; done) | (go_simp; rfl)) ⟨trivial, trivial⟩ ?_
                  refine Ap.anyK_val1 (i := 15) (v := .int .i64 0) (w' := X1) (by decide +kernel) rfl rfl (by first | (go_simp; done) | (go_simp; rfl)) ⟨trivial, trivial⟩ ?_
                  refine Ap.wpAnyK_done (by decide +kernel) ?_ _
                  go_wp2_with fail
                  all_goals (
                    go_ret2
                    rw [HE.out]
                    refine ⟨v1, ?_, HRES.out, HBB.out, .inr HGE.out⟩
                    simp [Act.put])
            case neg =>
              have HINS := Lib.hid (ins_at (x := (t, id)) D k (by rw [← HN.out]; exact hk) HALL.out (fun h => absurd h (by rw [← HN.out]; exact hlt)))
              have hkI : ¬ (k : Int) < (n : Int) := by omega
              have hs1 : (k : Int) ≤ (cap : Int) := by have := HC.out.1; omega
              have hs2 : (k : Int) ≤ (n : Int) := by omega
              have hnc : n ≤ cap := HC.out.1
              have hdl : n ≤ 4096 := HDL.out
              go_upto_region 9 with fail
              refine Ap.wp_region_K (S1 := fun _ => True) (S2 := fun _ => True) (js := 15) hmx ?_
              change Ap.wpAnyK _ _ _ _ _ _ _ 16 _ _ wr.drew
              have HD := Lib.hid (show Below wr.heap.size wr wr.drew from (Below.refl _ _).drew)
              have HR2 := Lib.hid (HRR.out.below HD.out)
              generalize hX : wr.drew = X0 at *
              clear hX
              refine Ap.wpAnyK_take1 (i := 1) (v := .slice (some ⟨g, off, none⟩) n cap) rfl (by decide) (by decide +kernel) (by decide +kernel) (by decide +kernel) (fun _ _ _ h => h) (.inl ⟨by first | rfl | (go_simp; done), fun X hX => by clear hX; first | (go_simp; done) | (go_simp; rfl)⟩) ⟨trivial, trivial⟩ ?_
              refine Ap.wpAnyK_take1 (i := 2) (v := .int .i64 (k : Int)) rfl (by decide) (by decide +kernel) (by decide +kernel) (by decide +kernel) (fun _ _ _ h => h) (.inl ⟨by first | rfl | (go_simp; done), fun X hX => by clear hX; first | (go_simp; done) | (go_simp; rfl)⟩) ⟨trivial, trivial⟩ ?_
              refine Ap.wpAnyK_take1 (i := 3) (v := .slice (some ⟨g, off, none⟩) k cap) rfl (by decide) (by decide +kernel) (by decide +kernel) (by decide +kernel) (fun _ _ _ h => h) (.inl ⟨by first | rfl | (go_simp; done), fun X hX => by clear hX; first | (go_simp; done) | (go_simp; rfl)⟩) ⟨trivial, trivial⟩ ?_
              refine Ap.wpAnyK_take1 (i := 5) (v := .int .i64 t) rfl (by decide) (by decide +kernel) (by decide +kernel) (by decide +kernel) (fun _ _ _ h => h) (.inl ⟨by first | rfl | (go_simp; done), fun X hX => by clear hX; first | (go_simp; done) | (go_simp; rfl)⟩) ⟨trivial, trivial⟩ ?_
              refine Ap.wpAnyK_take1 (i := 6) (v := .int .i64 id) rfl (by decide) (by decide +kernel) (by decide +kernel) (by decide +kernel) (fun _ _ _ h => h) (.inl ⟨by first | rfl | (go_simp; done), fun X hX => by clear hX; first | (go_simp; done) | (go_simp; rfl)⟩) ⟨trivial, trivial⟩ ?_
              refine Ap.wpAnyK_take1 (i := 7) (v := .agg #[.int .i64 t, .int .i64 id]) rfl (by decide) (by decide +kernel) (by decide +kernel) (by decide +kernel) (fun _ _ _ h => h) (.inl ⟨by first | rfl | (go_simp; done), fun X hX => by clear hX; first | (go_simp; done) | (go_simp; rfl)⟩) ⟨trivial, trivial⟩ ?_
              refine Ap.wpAnyK_take1 (i := 10) (v := .slice (some ⟨g, off, none⟩) n cap) rfl (by decide) (by decide +kernel) (by decide +kernel) (by decide +kernel) (fun _ _ _ h => h) (.inl ⟨by first | rfl | (go_simp; done), fun X hX => by clear hX; first | (go_simp; done) | (go_simp; rfl)⟩) ⟨trivial, trivial⟩ ?_
              refine Ap.wpAnyK_take1 (i := 11) (v := .int .i64 (k : Int)) rfl (by decide) (by decide +kernel) (by decide +kernel) (by decide +kernel) (fun _ _ _ h => h) (.inl ⟨by first | rfl | (go_simp; done), fun X hX => by clear hX; first | (go_simp; done) | (go_simp; rfl)⟩) ⟨trivial, trivial⟩ ?_
              refine Ap.wpAnyK_take1 (i := 12) (v := .slice (if cap = k then some ⟨g, off, none⟩ else some ⟨g, off + k * 2, none⟩) (n - k) (cap - k)) rfl (by decide) (by decide +kernel) (by decide +kernel) (by decide +kernel) (fun _ _ _ h => h) (.inl ⟨by first | rfl | (go_simp; done), fun X hX => by clear hX; first | (go_simp; done) | (go_simp; rfl)⟩) ⟨trivial, trivial⟩ ?_
              have rd1 : Ap.RdG X0 2 (.slice (some ⟨g, off, none⟩) k cap) k (flA (D.take k)) := (HR2.out.take (by rw [← HN.out]; omega)).rd (by rw [List.length_take, ← HN.out]; omega) _
              have rd2 : Ap.RdG X0 2 (.slice (if cap = k then some ⟨g, off, none⟩ else some ⟨g, off + k * 2, none⟩) (n - k) (cap - k)) (n - k) (flA (D.drop k)) := by
                have hlen : n - k = (D.drop k).length := by rw [List.length_drop, HN.out]
                by_cases hck : cap = k
                · rw [if_pos hck]
                  have h0 : n - k = 0 := by have := HC.out.1; omega
                  have h1 : D.drop k = [] := List.eq_nil_of_length_eq_zero (by rw [← hlen]; exact h0)
                  rw [h1, h0]
                  exact rd_none HR2.out.lt _
                · rw [if_neg hck]
                  exact (HR2.out.drop k).rd hlen _
              refine Ap.anyK_app2 (j0 := 0) (j1 := 4) (j2 := 8) (j3 := 9) (fuel := 3) (cs := #[.int .i64 t, .int .i64 id]) elt17 X0.heap.size (.inl (by decide +kernel)) (.inl (by decide +kernel)) (by decide +kernel) (by decide +kernel) (by decide +kernel) (by decide +kernel) (by decide) rfl rfl rfl rfl ⟨rfl, rfl, rfl, rfl⟩ (by decide) ⟨rfl, rfl, rfl, rfl⟩ rfl rfl
                (by simp [Act.put]) (fun a' X => by first | (go_simp; done) | (go_simp; rfl)) (.slice (some ⟨g, off, none⟩) k cap) k (flA (D.take k)) (fun u0 u2 => ⟨by simp [Act.put, Act.eval], by simp [Act.put, Act.eval]⟩) rd1
                (fun u0 u1 X => ⟨by first | (go_simp; done) | (go_simp; rfl), by first | (go_simp; done) | (go_simp; rfl), by first | (go_simp; done) | (go_simp; rfl)⟩) rfl (by intro u hu; simp at hu; rcases hu with rfl | rfl <;> rfl) (by unfold maxLen; omega) (by omega) (Nat.le_refl _)
                (fun X hb => ⟨trivial, trivial⟩) ?_
              intro u0 u1 u2 v0 X ho hb
              obtain ⟨v1, X1, hrun, hown, _, hbel⟩ := Ap.run_app elt17 26 X0.heap.size v0 (k + 1) _ ho _ (n - k) _ (rd2.mono hb) (by unfold maxLen; omega) (by omega) (hb.size)
              refine Ap.anyK_val1 (i := 13) (v := v1) (w' := X1) (by decide +kernel) rfl rfl (Ap.exec_app rfl (by simp [Act.put, Act.eval]) (by simp [Act.put, Act.eval]) hrun) ⟨trivial, trivial⟩ ?_
              have HRES := Lib.hid (show RC X1 v1 (insR (t, id) D) from by
                rw [HINS.out]
                refine RC.own (B := X0.heap.size) ?_
                have e1 : (D.take k ++ (t, id) :: D.drop k).length = k + 1 + (n - k) := by rw [List.length_append, List.length_cons, List.length_take, List.length_drop, ← HN.out]; omega
                have e2 : flA (D.take k ++ (t, id) :: D.drop k) = flA (D.take k) ++ [.int .i64 t, .int .i64 id] ++ flA (D.drop k) := by rw [flA_app, List.append_assoc]; rfl
                rw [e1, e2]
                exact hown)
              have HBB := Lib.hid (show Below w.heap.size w X1 from HB.out.trans ((HD.out.trans ((hb.trans hbel).mono HD.out.size)).mono HB.out.size))
              have HGE := Lib.hid (show ∀ g, v1.ownBlock = some g → w.heap.size ≤ g from fun g hg => Nat.le_trans HB.out.size (Nat.le_trans HD.out.size (Ap.own_blk hown g hg)))
              clear hown hrun hbel ho hb rd1 rd2
              refine Ap.anyK_val1 (i := 14) (v := v1) (w' := X1) (by decide +kernel) rfl rfl (by first | (go_simp; done) | (go_simp; rfl)) ⟨trivial, trivial⟩ ?_
              refine Ap.anyK_val1 (i := 15) (v := .int .i64 0) (w' := X1) (by decide +kernel) rfl rfl (by first | (go_simp; done) | (go_simp; rfl)) ⟨trivial, trivial⟩ ?_
              refine Ap.wpAnyK_done (by decide +kernel) ?_ _
              go_wp2_with fail
              all_goals (
                go_ret2
                rw [HE.out]
                refine ⟨v1, ?_, HRES.out, HBB.out, .inr HGE.out⟩
                simp [Act.put])
      case false =>
        have hgd := hgd hin
        rcases HR.out with ⟨rfl, hD0⟩ | ⟨g, off, cap, rfl, hc, hm, hRR⟩
        · have HD0 := Lib.hid hD0
          clear HR hD0
          go_wp2_with fail
          go_loopw [10] (fun i wr => i = .int .i64 0 ∧ wr = w1) (fun _ _ => 0)
          case atStart => exact ⟨rfl, rfl⟩
          case round =>
            obtain ⟨rfl, hw⟩ := hrel
            subst hw
            go_upto_region 9 with fail
            refine Ap.wp_region_K (S1 := fun _ => True) (S2 := fun _ => True) (js := 15) hmx ?_
            change Ap.wpAnyK _ _ _ _ _ _ _ 16 _ _ wr.drew
            have HD := Lib.hid (show Below wr.heap.size wr wr.drew from (Below.refl _ _).drew)
            generalize hX : wr.drew = X0 at *
            clear hX
            refine Ap.wpAnyK_take1 (i := 1) (v := .slice none 0 0) rfl (by decide) (by decide +kernel) (by decide +kernel) (by decide +kernel) (fun _ _ _ h => h) (.inl ⟨by first | rfl | (go_simp; done), fun X hX => by clear hX; first | (go_simp; done) | (go_simp; rfl)⟩) ⟨trivial, trivial⟩ ?_
            refine Ap.wpAnyK_take1 (i := 2) (v := .int .i64 0) rfl (by decide) (by decide +kernel) (by decide +kernel) (by decide +kernel) (fun _ _ _ h => h) (.inl ⟨by first | rfl | (go_simp; done), fun X hX => by clear hX; first | (go_simp; done) | (go_simp; rfl)⟩) ⟨trivial, trivial⟩ ?_
            refine Ap.wpAnyK_take1 (i := 3) (v := .slice none 0 0) rfl (by decide) (by decide +kernel) (by decide +kernel) (by decide +kernel) (fun _ _ _ h => h) (.inl ⟨by first | rfl | (go_simp; done), fun X hX => by clear hX; first | (go_simp; done) | (go_simp; rfl)⟩) ⟨trivial, trivial⟩ ?_
            refine Ap.wpAnyK_take1 (i := 5) (v := .int .i64 t) rfl (by decide) (by decide +kernel) (by decide +kernel) (by decide +kernel) (fun _ _ _ h => h) (.inl ⟨by first | rfl | (go_simp; done), fun X hX => by clear hX; first | (go_simp; done) | (go_simp; rfl)⟩) ⟨trivial, trivial⟩ ?_
            refine Ap.wpAnyK_take1 (i := 6) (v := .int .i64 id) rfl (by decide) (by decide +kernel) (by decide +kernel) (by decide +kernel) (fun _ _ _ h => h) (.inl ⟨by first | rfl | (go_simp; done), fun X hX => by clear hX; first | (go_simp; done) | (go_simp; rfl)⟩) ⟨trivial, trivial⟩ ?_
            refine Ap.wpAnyK_take1 (i := 7) (v := .agg #[.int .i64 t, .int .i64 id]) rfl (by decide) (by decide +kernel) (by decide +kernel) (by decide +kernel) (fun _ _ _ h => h) (.inl ⟨by first | rfl | (go_simp; done), fun X hX => by clear hX; first | (go_simp; done) | (go_simp; rfl)⟩) ⟨trivial, trivial⟩ ?_
            refine Ap.wpAnyK_take1 (i := 10) (v := .slice none 0 0) rfl (by decide) (by decide +kernel) (by decide +kernel) (by decide +kernel) (fun _ _ _ h => h) (.inl ⟨by first | rfl | (go_simp; done), fun X hX => by clear hX; first | (go_simp; done) | (go_simp; rfl)⟩) ⟨trivial, trivial⟩ ?_
            refine Ap.wpAnyK_take1 (i := 11) (v := .int .i64 0) rfl (by decide) (by decide +kernel) (by decide +kernel) (by decide +kernel) (fun _ _ _ h => h) (.inl ⟨by first | rfl | (go_simp; done), fun X hX => by clear hX; first | (go_simp; done) | (go_simp; rfl)⟩) ⟨trivial, trivial⟩ ?_
            refine Ap.wpAnyK_take1 (i := 12) (v := .slice none 0 0) rfl (by decide) (by decide +kernel) (by decide +kernel) (by decide +kernel) (fun _ _ _ h => h) (.inl ⟨by first | rfl | (go_simp; done), fun X hX => by clear hX; first | (go_simp; done) | (go_simp; rfl)⟩) ⟨trivial, trivial⟩ ?_
            have rd1 : Ap.RdG X0 2 (.slice none 0 0) 0 (flA []) := ⟨⟨none, 0, rfl, fun _ => rfl, (fun a ha => by cases ha), fun a ha => by cases ha⟩, rfl, fun u hu => by cases hu⟩
            have rd2 : Ap.RdG X0 2 (.slice none 0 0) 0 (flA []) := rd1
            refine Ap.anyK_app2 (j0 := 0) (j1 := 4) (j2 := 8) (j3 := 9) (fuel := 3) (cs := #[.int .i64 t, .int .i64 id]) elt17 X0.heap.size (.inl (by decide +kernel)) (.inl (by decide +kernel)) (by decide +kernel) (by decide +kernel) (by decide +kernel) (by decide +kernel) (by decide) rfl rfl rfl rfl ⟨rfl, rfl, rfl, rfl⟩ (by decide) ⟨rfl, rfl, rfl, rfl⟩ rfl rfl
              (by simp [Act.put]) (fun a' X => by first | (go_simp; done) | (go_simp; rfl)) (.slice none 0 0) 0 (flA []) (fun u0 u2 => ⟨by simp [Act.put, Act.eval], by simp [Act.put, Act.eval]⟩) rd1
              (fun u0 u1 X => ⟨by first | (go_simp; done) | (go_simp; rfl), by first | (go_simp; done) | (go_simp; rfl), by first | (go_simp; done) | (go_simp; rfl)⟩) rfl (by intro u hu; simp at hu; rcases hu with rfl | rfl <;> rfl) (by unfold maxLen; omega) (by omega) (Nat.le_refl _)
              (fun X hb => ⟨trivial, trivial⟩) ?_
            intro u0 u1 u2 v0 X ho hb
            obtain ⟨v1, X1, hrun, hown, _, hbel⟩ := Ap.run_app elt17 26 X0.heap.size v0 (0 + 1) _ ho _ 0 _ (rd2.mono hb) (by unfold maxLen; omega) (by omega) (hb.size)
            refine Ap.anyK_val1 (i := 13) (v := v1) (w' := X1) (by decide +kernel) rfl rfl (Ap.exec_app rfl (by simp [Act.put, Act.eval]) (by simp [Act.put, Act.eval]) hrun) ⟨trivial, trivial⟩ ?_
            have HRES := Lib.hid (show RC X1 v1 (insR (t, id) D) from by
              rw [HD0.out]
              exact RC.own (B := X0.heap.size) hown)
            have HBB := Lib.hid (show Below w.heap.size w X1 from HB.out.trans ((HD.out.trans ((hb.trans hbel).mono HD.out.size)).mono HB.out.size))
            have HGE := Lib.hid (show ∀ g, v1.ownBlock = some g → w.heap.size ≤ g from fun g hg => Nat.le_trans HB.out.size (Nat.le_trans HD.out.size (Ap.own_blk hown g hg)))
            clear hown hrun hbel ho hb rd1 rd2
            refine Ap.anyK_val1 (i := 14) (v := v1) (w' := X1) (by decide +kernel) rfl rfl (by first | (go_simp; done) | (go_simp; rfl)) ⟨trivial, trivial⟩ ?_
            refine Ap.anyK_val1 (i := 15) (v := .int .i64 0) (w' := X1) (by decide +kernel) rfl rfl (by first | (go_simp; done) | (go_simp; rfl)) ⟨trivial, trivial⟩ ?_
            refine Ap.wpAnyK_done (by decide +kernel) ?_ _
            go_wp2_with fail
            all_goals (
              go_ret2
              rw [HE.out]
              refine ⟨v1, ?_, HRES.out, HBB.out, .inr HGE.out⟩
              simp [Act.put])
        · have HRR := Lib.hid hRR
          have HC := Lib.hid (And.intro hc hm)
          obtain ⟨n, hn⟩ : ∃ n, n = D.length := ⟨_, rfl⟩
          rw [← hn] at HC HDL ⊢
          have HN := Lib.hid hn
          clear HR hc hm hRR hn
          go_wp2_with fail
          go_loopw [10] (fun i wr => ∃ k : Nat, k ≤ n ∧ i = .int .i64 (k : Int) ∧ wr = w1 ∧ ∀ j, j < k → ltB (gA D j) (t, id) = true) (fun i _ => n - (intOf i).toNat)
          case atStart => exact ⟨0, Nat.zero_le _, rfl, rfl, fun j hj => absurd hj (Nat.not_lt_zero _)⟩
          case round =>
            obtain ⟨k, hk, rfl, hw, hall⟩ := hrel
            subst hw
            have HALL := Lib.hid hall
            clear hall
            by_cases hlt : k < n
            case pos =>
              obtain ⟨y0, y1⟩ := HRR.out.cells k (by rw [← HN.out]; exact hlt)
              have hkI : (k : Int) < (n : Int) := by omega
              have hw1 : IntKind.i64.wrap ((k : Int) + 1) = (k : Int) + 1 := by have := HDL.out; rw [IntKind.wrap_i64]; omega
              cases hlb : ltB (gA D k) (t, id) with
              | true =>
                have HALL2 := Lib.hid (show ∀ j, j < k + 1 → ltB (gA D j) (t, id) = true from fun j hj => by
                  rcases Nat.lt_or_ge j k with h | h
                  · exact HALL.out j h
                  · rw [show j = k by omega]; exact hlb)
                rw [lt_iff] at hlb
                dsimp only at hlb
                generalize gA D k = y at *
                obtain ⟨z1, z2⟩ := y
                dsimp only at y0 y1 hlb
                have HKK := Lib.hid hlt
                by_cases ha : z1 < t
                · clear hlb hlt hk
                  go_wp2_with fail
                  go_roundw
                  case rel => exact ⟨k + 1, by have := HKK.out; omega, by go_num, trivial, HALL2.out⟩
                  case measure => have := HKK.out; simp [intOf]; omega
                · obtain rfl : z1 = t := by omega
                  have hb2 : z2 < id := by omega
                  clear hlb hlt hk
                  go_wp2_with fail
                  go_roundw
                  case rel => exact ⟨k + 1, by have := HKK.out; omega, by go_num, trivial, HALL2.out⟩
                  case measure => have := HKK.out; simp [intOf]; omega
              | false =>
                have HINS := Lib.hid (ins_at (x := (t, id)) D k (by rw [← HN.out]; exact hk) HALL.out (fun _ => hlb))
                have hs1 : (k : Int) ≤ (cap : Int) := by have := HC.out.1; omega
                have hs2 : (k : Int) ≤ (n : Int) := by omega
                rw [lt_not] at hlb
                dsimp only at hlb
                generalize gA D k = y at *
                obtain ⟨z1, z2⟩ := y
                dsimp only at y0 y1 hlb
                have ha : ¬ z1 < t := by omega
                have hnc : n ≤ cap := HC.out.1
                have hdl : n ≤ 4096 := HDL.out
                by_cases he : z1 = t
                · have he2 := he.symm
                  clear he
                  subst he2
                  have hb2 : ¬ z2 < id := by omega
                  clear hlb
                  go_upto_region 9 with fail
                  refine Ap.wp_region_K (S1 := fun _ => True) (S2 := fun _ => True) (js := 15) hmx ?_
                  change Ap.wpAnyK _ _ _ _ _ _ _ 16 _ _ wr.drew
                  have HD := Lib.hid (show Below wr.heap.size wr wr.drew from (Below.refl _ _).drew)
                  have HR2 := Lib.hid (HRR.out.below HD.out)
                  generalize hX : wr.drew = X0 at *
                  clear hX
                  refine Ap.wpAnyK_take1 (i := 1) (v := .slice (some ⟨g, off, none⟩) n cap) rfl (by decide) (by decide +kernel) (by decide +kernel) (by decide +kernel) (fun _ _ _ h => h) (.inl ⟨by first | rfl | (go_simp; done), fun X hX => by clear hX; first | (go_simp; done) | (go_simp; rfl)⟩) ⟨trivial, trivial⟩ ?_
                  refine Ap.wpAnyK_take1 (i := 2) (v := .int .i64 (k : Int)) rfl (by decide) (by decide +kernel) (by decide +kernel) (by decide +kernel) (fun _ _ _ h => h) (.inl ⟨by first | rfl | (go_simp; done), fun X hX => by clear hX; first | (go_simp; done) | (go_simp; rfl)⟩) ⟨trivial, trivial⟩ ?_
                  refine Ap.wpAnyK_take1 (i := 3) (v := .slice (some ⟨g, off, none⟩) k cap) rfl (by decide) (by decide +kernel) (by decide +kernel) (by decide +kernel) (fun _ _ _ h => h) (.inl ⟨by first | rfl | (go_simp; done), fun X hX => by clear hX; first | (go_simp; done) | (go_simp; rfl)⟩) ⟨trivial, trivial⟩ ?_
                  refine Ap.wpAnyK_take1 (i := 5) (v := .int .i64 t) rfl (by decide) (by decide +kernel) (by decide +kernel) (by decide +kernel) (fun _ _ _ h => h) (.inl ⟨by first | rfl | (go_simp; done), fun X hX => by clear hX; first | (go_simp; done) | (go_simp; rfl)⟩) ⟨trivial, trivial⟩ ?_
                  refine Ap.wpAnyK_take1 (i := 6) (v := .int .i64 id) rfl (by decide) (by decide +kernel) (by decide +kernel) (by decide +kernel) (fun _ _ _ h => h) (.inl ⟨by first | rfl | (go_simp; done), fun X hX => by clear hX; first | (go_simp; done) | (go_simp; rfl)⟩) ⟨trivial, trivial⟩ ?_
                  refine Ap.wpAnyK_take1 (i := 7) (v := .agg #[.int .i64 t, .int .i64 id]) rfl (by decide) (by decide +kernel) (by decide +kernel) (by decide +kernel) (fun _ _ _ h => h) (.inl ⟨by first | rfl | (go_simp; done), fun X hX => by clear hX; first | (go_simp; done) | (go_simp; rfl)⟩) ⟨trivial, trivial⟩ ?_
                  refine Ap.wpAnyK_take1 (i := 10) (v := .slice (some ⟨g, off, none⟩) n cap) rfl (by decide) (by decide +kernel) (by decide +kernel) (by decide +kernel) (fun _ _ _ h => h) (.inl ⟨by first | rfl | (go_simp; done), fun X hX => by clear hX; first | (go_simp; done) | (go_simp; rfl)⟩) ⟨trivial, trivial⟩ ?_
                  refine Ap.wpAnyK_take1 (i := 11) (v := .int .i64 (k : Int)) rfl (by decide) (by decide +kernel) (by decide +kernel) (by decide +kernel) (fun _ _ _ h => h) (.inl ⟨by first | rfl | (go_simp; done), fun X hX => by clear hX; first | (go_simp; done) | (go_simp; rfl)⟩) ⟨trivial, trivial⟩ ?_
                  refine Ap.wpAnyK_take1 (i := 12) (v := .slice (if cap = k then some ⟨g, off, none⟩ else some ⟨g, off + k * 2, none⟩) (n - k) (cap - k)) rfl (by decide) (by decide +kernel) (by decide +kernel) (by decide +kernel) (fun _ _ _ h => h) (.inl ⟨by first | rfl | (go_simp; done), fun X hX => by clear hX; first | (go_simp; done) | (go_simp; rfl)⟩) ⟨trivial, trivial⟩ ?_
                  have rd1 : Ap.RdG X0 2 (.slice (some ⟨g, off, none⟩) k cap) k (flA (D.take k)) := (HR2.out.take (by rw [← HN.out]; omega)).rd (by rw [List.length_take, ← HN.out]; omega) _
                  have rd2 : Ap.RdG X0 2 (.slice (if cap = k then some ⟨g, off, none⟩ else some ⟨g, off + k * 2, none⟩) (n - k) (cap - k)) (n - k) (flA (D.drop k)) := by
                    have hlen : n - k = (D.drop k).length := by rw [List.length_drop, HN.out]
                    by_cases hck : cap = k
                    · rw [if_pos hck]
                      have h0 : n - k = 0 := by have := HC.out.1; omega
                      have h1 : D.drop k = [] := List.eq_nil_of_length_eq_zero (by rw [← hlen]; exact h0)
                      rw [h1, h0]
                      exact rd_none HR2.out.lt _
                    · rw [if_neg hck]
                      exact (HR2.out.drop k).rd hlen _
                  refine Ap.anyK_app2 (j0 := 0) (j1 := 4) (j2 := 8) (j3 := 9) (fuel := 3) (cs := #[.int .i64 t, .int .i64 id]) elt17 X0.heap.size (.inl (by decide +kernel)) (.inl (by decide +kernel)) (by decide +kernel) (by decide +kernel) (by decide +kernel) (by decide +kernel) (by decide) rfl rfl rfl rfl ⟨rfl, rfl, rfl, rfl⟩ (by decide) ⟨rfl, rfl, rfl, rfl⟩ rfl rfl
                    (by simp [Act.put]) (fun a' X => by first | (go_simp; done) | (go_simp; rfl)) (.slice (some ⟨g, off, none⟩) k cap) k (flA (D.take k)) (fun u0 u2 => ⟨by simp [Act.put, Act.eval], by simp [Act.put, Act.eval]⟩) rd1
                    (fun u0 u1 X => ⟨by first | (go_simp; done) | (go_simp; rfl), by first | (go_simp; done) | (go_simp; rfl), by first | (go_simp; done) | (go_simp; rfl)⟩) rfl (by intro u hu; simp at hu; rcases hu with rfl | rfl <;> rfl) (by unfold maxLen; omega) (by omega) (Nat.le_refl _)
                    (fun X hb => ⟨trivial, trivial⟩) ?_
                  intro u0 u1 u2 v0 X ho hb
                  obtain ⟨v1, X1, hrun, hown, _, hbel⟩ := Ap.run_app elt17 26 X0.heap.size v0 (k + 1) _ ho _ (n - k) _ (rd2.mono hb) (by unfold maxLen; omega) (by omega) (hb.size)
                  refine Ap.anyK_val1 (i := 13) (v := v1) (w' := X1) (by decide +kernel) rfl rfl (Ap.exec_app rfl (by simp [Act.put, Act.eval]) (by simp [Act.put, Act.eval]) hrun) ⟨trivial, trivial⟩ ?_
                  have HRES := Lib.hid (show RC X1 v1 (insR (t, id) D) from by
                    rw [HINS.out]
                    refine RC.own (B := X0.heap.size) ?_
                    have e1 : (D.take k ++ (t, id) :: D.drop k).length = k + 1 + (n - k) := by rw [List.length_append, List.length_cons, List.length_take, List.length_drop, ← HN.out]; omega
                    have e2 : flA (D.take k ++ (t, id) :: D.drop k) = flA (D.take k) ++ [.int .i64 t, .int .i64 id] ++ flA (D.drop k) := by rw [flA_app, List.append_assoc]; rfl
                    rw [e1, e2]
                    exact hown)
                  have HBB := Lib.hid (show Below w.heap.size w X1 from HB.out.trans ((HD.out.trans ((hb.trans hbel).mono HD.out.size)).mono HB.out.size))
                  have HGE := Lib.hid (show ∀ g, v1.ownBlock = some g → w.heap.size ≤ g from fun g hg => Nat.le_trans HB.out.size (Nat.le_trans HD.out.size (Ap.own_blk hown g hg)))
                  clear hown hrun hbel ho hb rd1 rd2
                  refine Ap.anyK_val1 (i := 14) (v := v1) (w' := X1) (by decide +kernel) rfl rfl (by first | (go_simp; done) | (go_simp; rfl)) ⟨trivial, trivial⟩ ?_
                  refine Ap.anyK_val1 (i := 15) (v := .int .i64 0) (w' := X1) (by decide +kernel) rfl rfl (by first | (go_simp; done) | (go_simp; rfl)) ⟨trivial, trivial⟩ ?_
                  refine Ap.wpAnyK_done (by decide +kernel) ?_ _
                  go_wp2_with fail
                  all_goals (
                    go_ret2
                    rw [HE.out]
                    refine ⟨v1, ?_, HRES.out, HBB.out, .inr HGE.out⟩
                    simp [Act.put])
                · have he2 : (z1 == t) = false := by simpa using he
                  clear hlb he
                  go_upto_region 9 with fail
                  refine Ap.wp_region_K (S1 := fun _ => True) (S2 := fun _ => True) (js := 15) hmx ?_
                  change Ap.wpAnyK _ _ _ _ _ _ _ 16 _ _ wr.drew
                  have HD := Lib.hid (show Below wr.heap.size wr wr.drew from (Below.refl _ _).drew)
                  have HR2 := Lib.hid (HRR.out.below HD.out)
                  generalize hX : wr.drew = X0 at *
                  clear hX
                  refine Ap.wpAnyK_take1 (i := 1) (v := .slice (some ⟨g, off, none⟩) n cap) rfl (by decide) (by decide +kernel) (by decide +kernel) (by decide +kernel) (fun _ _ _ h => h) (.inl ⟨by first | rfl | (go_simp; done), fun X hX => by clear hX; first | (go_simp; done) | (go_simp; rfl)⟩) ⟨trivial, trivial⟩ ?_
                  refine Ap.wpAnyK_take1 (i := 2) (v := .int .i64 (k : Int)) rfl (by decide) (by decide +kernel) (by decide +kernel) (by decide +kernel) (fun _ _ _ h => h) (.inl ⟨by first | rfl | (go_simp; done), fun X hX => by clear hX; first | (go_simp; done) | (go_simp; rfl)⟩) ⟨trivial, trivial⟩ ?_
                  refine Ap.wpAnyK_take1 (i := 3) (v := .slice (some ⟨g, off, none⟩) k cap) rfl (by decide) (by decide +kernel) (by decide +kernel) (by decide +kernel) (fun _ _ _ h => h) (.inl ⟨by first | rfl | (go_simp; done), fun X hX => by clear hX; first | (go_simp; done) | (go_simp; rfl)⟩) ⟨trivial, trivial⟩ ?_
                  refine Ap.wpAnyK_take1 (i := 5) (v := .int .i64 t) rfl (by decide) (by decide +kernel) (by decide +kernel) (by decide +kernel) (fun _ _ _ h => h) (.inl ⟨by first | rfl | (go_simp; done), fun X hX => by clear hX; first | (go_simp; done) | (go_simp; rfl)⟩) ⟨trivial, trivial⟩ ?_
                  refine Ap.wpAnyK_take1 (i := 6) (v := .int .i64 id) rfl (by decide) (by decide +kernel) (by decide +kernel) (by decide +kernel) (fun _ _ _ h => h) (.inl ⟨by first | rfl | (go_simp; done), fun X hX => by clear hX; first | (go_simp; done) | (go_simp; rfl)⟩) ⟨trivial, trivial⟩ ?_
                  refine Ap.wpAnyK_take1 (i := 7) (v := .agg #[.int .i64 t, .int .i64 id]) rfl (by decide) (by decide +kernel) (by decide +kernel) (by decide +kernel) (fun _ _ _ h => h) (.inl ⟨by first | rfl | (go_simp; done), fun X hX => by clear hX; first | (go_simp; done) | (go_simp; rfl)⟩) ⟨trivial, trivial⟩ ?_
                  refine Ap.wpAnyK_take1 (i := 10) (v := .slice (some ⟨g, off, none⟩) n cap) rfl (by decide) (by decide +kernel) (by decide +kernel) (by decide +kernel) (fun _ _ _ h => h) (.inl ⟨by first | rfl | (go_simp; done), fun X hX => by clear hX; first | (go_simp; done) | (go_simp; rfl)⟩) ⟨trivial, trivial⟩ ?_
                  refine Ap.wpAnyK_take1 (i := 11) (v := .int .i64 (k : Int)) rfl (by decide) (by decide +kernel) (by decide +kernel) (by decide +kernel) (fun _ _ _ h => h) (.inl ⟨by first | rfl | (go_simp; done), fun X hX => by clear hX; first | (go_simp; done) | (go_simp; rfl)⟩) ⟨trivial, trivial⟩ ?_
                  refine Ap.wpAnyK_take1 (i := 12) (v := .slice (if cap = k then some ⟨g, off, none⟩ else some ⟨g, off + k * 2, none⟩) (n - k) (cap - k)) rfl (by decide) (by decide +kernel) (by decide +kernel) (by decide +kernel) (fun _ _ _ h => h) (.inl ⟨by first | rfl | (go_simp; done), fun X hX => by clear hX; first | (go_simp; done) | (go_simp; rfl)⟩) ⟨trivial, trivial⟩ ?_
                  have rd1 : Ap.RdG X0 2 (.slice (some ⟨g, off, none⟩) k cap) k (flA (D.take k)) := (HR2.out.take (by rw [← HN.out]; omega)).rd (by rw [List.length_take, ← HN.out]; omega) _
                  have rd2 : Ap.RdG X0 2 (.slice (if cap = k then some ⟨g, off, none⟩ else some ⟨g, off + k * 2, none⟩) (n - k) (cap - k)) (n - k) (flA (D.drop k)) := by
                    have hlen : n - k = (D.drop k).length := by rw [List.length_drop, HN.out]
                    by_cases hck : cap = k
                    · rw [if_pos hck]
                      have h0 : n - k = 0 := by have := HC.out.1; omega
                      have h1 : D.drop k = [] := List.eq_nil_of_length_eq_zero (by rw [← hlen]; exact h0)
                      rw [h1, h0]
                      exact rd_none HR2.out.lt _
                    · rw [if_neg hck]
                      exact (HR2.out.drop k).rd hlen _
                  refine Ap.anyK_app2 (j0 := 0) (j1 := 4) (j2 := 8) (j3 := 9) (fuel := 3) (cs := #[.int .i64 t, .int .i64 id]) elt17 X0.heap.size (.inl (by decide +kernel)) (.inl (by decide +kernel)) (by decide +kernel) (by decide +kernel) (by decide +kernel) (by decide +kernel) (by decide) rfl rfl rfl rfl ⟨rfl, rfl, rfl, rfl⟩ (by decide) ⟨rfl, rfl, rfl, rfl⟩ rfl rfl
                    (by simp [Act.put]) (fun a' X => by first | (go_simp; done) | (go_simp; rfl)) (.slice (some ⟨g, off, none⟩) k cap) k (flA (D.take k)) (fun u0 u2 => ⟨by simp [Act.put, Act.eval], by simp [Act.put, Act.eval]⟩) rd1
                    (fun u0 u1 X => ⟨by first | (go_simp; done) | (go_simp; rfl), by first | (go_simp; done) | (go_simp; rfl), by first | (go_simp; done) | (go_simp; rfl)⟩) rfl (by intro u hu; simp at hu; rcases hu with rfl | rfl <;> rfl) (by unfold maxLen; omega) (by omega) (Nat.le_refl _)
                    (fun X hb => ⟨trivial, trivial⟩) ?_
                  intro u0 u1 u2 v0 X ho hb
                  obtain ⟨v1, X1, hrun, hown, _, hbel⟩ := Ap.run_app elt17 26 X0.heap.size v0 (k + 1) _ ho _ (n - k) _ (rd2.mono hb) (by unfold maxLen; omega) (by omega) (hb.size)
                  refine Ap.anyK_val1 (i := 13) (v := v1) (w' := X1) (by decide +kernel) rfl rfl (Ap.exec_app rfl (by simp [Act.put, Act.eval]) (by simp [Act.put, Act.eval]) hrun) ⟨trivial, trivial⟩ ?_
                  have HRES := Lib.hid (show RC X1 v1 (insR (t, id) D) from by
                    rw [HINS.out]
                    refine RC.own (B := X0.heap.size) ?_
                    have e1 : (D.take k ++ (t, id) :: D.drop k).length = k + 1 + (n - k) := by rw [List.length_append, List.length_cons, List.length_take, List.length_drop, ← HN.out]; omega
                    have e2 : flA (D.take k ++ (t, id) :: D.drop k) = flA (D.take k) ++ [.int .i64 t, .int .i64 id] ++ flA (D.drop k) := by rw [flA_app, List.append_assoc]; rfl
                    rw [e1, e2]
                    exact hown)
                  have HBB := Lib.hid (show Below w.heap.size w X1 from HB.out.trans ((HD.out.trans ((hb.trans hbel).mono HD.out.size)).mono HB.out.size))
                  have HGE := Lib.hid (show ∀ g, v1.ownBlock = some g → w.heap.size ≤ g from fun g hg => Nat.le_trans HB.out.size (Nat.le_trans HD.out.size (Ap.own_blk hown g hg)))
                  clear hown hrun hbel ho hb rd1 rd2
                  refine Ap.anyK_val1 (i := 14) (v := v1) (w' := X1) (by decide +kernel) rfl rfl (by first | (go_simp; done) | (go_simp; rfl)) ⟨trivial, trivial⟩ ?_
                  refine Ap.anyK_val1 (i := 15) (v := .int .i64 0) (w' := X1) (by decide +kernel) rfl rfl (by first | (go_simp; done) | (go_simp; rfl)) ⟨trivial, trivial⟩ ?_
                  refine Ap.wpAnyK_done (by decide +kernel) ?_ _
                  go_wp2_with fail
                  all_goals (
                    go_ret2
                    rw [HE.out]
                    refine ⟨v1, ?_, HRES.out, HBB.out, .inr HGE.out⟩
                    simp [Act.put])
            case neg =>
              have HINS := Lib.hid (ins_at (x := (t, id)) D k (by rw [← HN.out]; exact hk) HALL.out (fun h => absurd h (by rw [← HN.out]; exact hlt)))
              have hkI : ¬ (k : Int) < (n : Int) := by omega
              have hs1 : (k : Int) ≤ (cap : Int) := by have := HC.out.1; omega
              have hs2 : (k : Int) ≤ (n : Int) := by omega
              have hnc : n ≤ cap := HC.out.1
              have hdl : n ≤ 4096 := HDL.out
              go_upto_region 9 with fail
              refine Ap.wp_region_K (S1 := fun _ => True) (S2 := fun _ => True) (js := 15) hmx ?_
              change Ap.wpAnyK _ _ _ _ _ _ _ 16 _ _ wr.drew
              have HD := Lib.hid (show Below wr.heap.size wr wr.drew from (Below.refl _ _).drew)
              have HR2 := Lib.hid (HRR.out.below HD.out)
              generalize hX : wr.drew = X0 at *
              clear hX
              refine Ap.wpAnyK_take1 (i := 1) (v := .slice (some ⟨g, off, none⟩) n cap) rfl (by decide) (by decide +kernel) (by decide +kernel) (by decide +kernel) (fun _ _ _ h => h) (.inl ⟨by first | rfl | (go_simp; done), fun X hX => by clear hX; first | (go_simp; done) | (go_simp; rfl)⟩) ⟨trivial, trivial⟩ ?_
              refine Ap.wpAnyK_take1 (i := 2) (v := .int .i64 (k : Int)) rfl (by decide) (by decide +kernel) (by decide +kernel) (by decide +kernel) (fun _ _ _ h => h) (.inl ⟨by first | rfl | (go_simp; done), fun X hX => by clear hX; first | (go_simp; done) | (go_simp; rfl)⟩) ⟨trivial, trivial⟩ ?_
              refine Ap.wpAnyK_take1 (i := 3) (v := .slice (some ⟨g, off, none⟩) k cap) rfl (by decide) (by decide +kernel) (by decide +kernel) (by decide +kernel) (fun _ _ _ h => h) (.inl ⟨by first | rfl | (go_simp; done), fun X hX => by clear hX; first | (go_simp; done) | (go_simp; rfl)⟩) ⟨trivial, trivial⟩ ?_
              refine Ap.wpAnyK_take1 (i := 5) (v := .int .i64 t) rfl (by decide) (by decide +kernel) (by decide +kernel) (by decide +kernel) (fun _ _ _ h => h) (.inl ⟨by first | rfl | (go_simp; done), fun X hX => by clear hX; first | (go_simp; done) | (go_simp; rfl)⟩) ⟨trivial, trivial⟩ ?_
              refine Ap.wpAnyK_take1 (i := 6) (v := .int .i64 id) rfl (by decide) (by decide +kernel) (by decide +kernel) (by decide +kernel) (fun _ _ _ h => h) (.inl ⟨by first | rfl | (go_simp; done), fun X hX => by clear hX; first | (go_simp; done) | (go_simp; rfl)⟩) ⟨trivial, trivial⟩ ?_
              refine Ap.wpAnyK_take1 (i := 7) (v := .agg #[.int .i64 t, .int .i64 id]) rfl (by decide) (by decide +kernel) (by decide +kernel) (by decide +kernel) (fun _ _ _ h => h) (.inl ⟨by first | rfl | (go_simp; done), fun X hX => by clear hX; first | (go_simp; done) | (go_simp; rfl)⟩) ⟨trivial, trivial⟩ ?_
              refine Ap.wpAnyK_take1 (i := 10) (v := .slice (some ⟨g, off, none⟩) n cap) rfl (by decide) (by decide +kernel) (by decide +kernel) (by decide +kernel) (fun _ _ _ h => h) (.inl ⟨by first | rfl | (go_simp; done), fun X hX => by clear hX; first | (go_simp; done) | (go_simp; rfl)⟩) ⟨trivial, trivial⟩ ?_
              refine Ap.wpAnyK_take1 (i := 11) (v := .int .i64 (k : Int)) rfl (by decide) (by decide +kernel) (by decide +kernel) (by decide +kernel) (fun _ _ _ h => h) (.inl ⟨by first | rfl | (go_simp; done), fun X hX => by clear hX; first | (go_simp; done) | (go_simp; rfl)⟩) ⟨trivial, trivial⟩ ?_
              refine Ap.wpAnyK_take1 (i := 12) (v := .slice (if cap = k then some ⟨g, off, none⟩ else some ⟨g, off + k * 2, none⟩) (n - k) (cap - k)) rfl (by decide) (by decide +kernel) (by decide +kernel) (by decide +kernel) (fun _ _ _ h => h) (.inl ⟨by first | rfl | (go_simp; done), fun X hX => by clear hX; first | (go_simp; done) | (go_simp; rfl)⟩) ⟨trivial, trivial⟩ ?_
              have rd1 : Ap.RdG X0 2 (.slice (some ⟨g, off, none⟩) k cap) k (flA (D.take k)) := (HR2.out.take (by rw [← HN.out]; omega)).rd (by rw [List.length_take, ← HN.out]; omega) _
              have rd2 : Ap.RdG X0 2 (.slice (if cap = k then some ⟨g, off, none⟩ else some ⟨g, off + k * 2, none⟩) (n - k) (cap - k)) (n - k) (flA (D.drop k)) := by
                have hlen : n - k = (D.drop k).length := by rw [List.length_drop, HN.out]
                by_cases hck : cap = k
                · rw [if_pos hck]
                  have h0 : n - k = 0 := by have := HC.out.1; omega
                  have h1 : D.drop k = [] := List.eq_nil_of_length_eq_zero (by rw [← hlen]; exact h0)
                  rw [h1, h0]
                  exact rd_none HR2.out.lt _
                · rw [if_neg hck]
                  exact (HR2.out.drop k).rd hlen _
              refine Ap.anyK_app2 (j0 := 0) (j1 := 4) (j2 := 8) (j3 := 9) (fuel := 3) (cs := #[.int .i64 t, .int .i64 id]) elt17 X0.heap.size (.inl (by decide +kernel)) (.inl (by decide +kernel)) (by decide +kernel) (by decide +kernel) (by decide +kernel) (by decide +kernel) (by decide) rfl rfl rfl rfl ⟨rfl, rfl, rfl, rfl⟩ (by decide) ⟨rfl, rfl, rfl, rfl⟩ rfl rfl
                (by simp [Act.put]) (fun a' X => by first | (go_simp; done) | (go_simp; rfl)) (.slice (some ⟨g, off, none⟩) k cap) k (flA (D.take k)) (fun u0 u2 => ⟨by simp [Act.put, Act.eval], by simp [Act.put, Act.eval]⟩) rd1
                (fun u0 u1 X => ⟨by first | (go_simp; done) | (go_simp; rfl), by first | (go_simp; done) | (go_simp; rfl), by first | (go_simp; done) | (go_simp; rfl)⟩) rfl (by intro u hu; simp at hu; rcases hu with rfl | rfl <;> rfl) (by unfold maxLen; omega) (by omega) (Nat.le_refl _)
                (fun X hb => ⟨trivial, trivial⟩) ?_
              intro u0 u1 u2 v0 X ho hb
              obtain ⟨v1, X1, hrun, hown, _, hbel⟩ := Ap.run_app elt17 26 X0.heap.size v0 (k + 1) _ ho _ (n - k) _ (rd2.mono hb) (by unfold maxLen; omega) (by omega) (hb.size)
              refine Ap.anyK_val1 (i := 13) (v := v1) (w' := X1) (by decide +kernel) rfl rfl (Ap.exec_app rfl (by simp [Act.put, Act.eval]) (by simp [Act.put, Act.eval]) hrun) ⟨trivial, trivial⟩ ?_
              have HRES := Lib.hid (show RC X1 v1 (insR (t, id) D) from by
                rw [HINS.out]
                refine RC.own (B := X0.heap.size) ?_
                have e1 : (D.take k ++ (t, id) :: D.drop k).length = k + 1 + (n - k) := by rw [List.length_append, List.length_cons, List.length_take, List.length_drop, ← HN.out]; omega
                have e2 : flA (D.take k ++ (t, id) :: D.drop k) = flA (D.take k) ++ [.int .i64 t, .int .i64 id] ++ flA (D.drop k) := by rw [flA_app, List.append_assoc]; rfl
                rw [e1, e2]
                exact hown)
              have HBB := Lib.hid (show Below w.heap.size w X1 from HB.out.trans ((HD.out.trans ((hb.trans hbel).mono HD.out.size)).mono HB.out.size))
              have HGE := Lib.hid (show ∀ g, v1.ownBlock = some g → w.heap.size ≤ g from fun g hg => Nat.le_trans HB.out.size (Nat.le_trans HD.out.size (Ap.own_blk hown g hg)))
              clear hown hrun hbel ho hb rd1 rd2
              refine Ap.anyK_val1 (i := 14) (v := v1) (w' := X1) (by decide +kernel) rfl rfl (by first | (go_simp; done) | (go_simp; rfl)) ⟨trivial, trivial⟩ ?_
              refine Ap.anyK_val1 (i := 15) (v := .int .i64 0) (w' := X1) (by decide +kernel) rfl rfl (by first | (go_simp; done) | (go_simp; rfl)) ⟨trivial, trivial⟩ ?_
              refine Ap.wpAnyK_done (by decide +kernel) ?_ _
              go_wp2_with fail
              all_goals (
                go_ret2
                rw [HE.out]
                refine ⟨v1, ?_, HRES.out, HBB.out, .inr HGE.out⟩
                simp [Act.put])
end Go.Proofs.Ytfakejfpicjedaa
