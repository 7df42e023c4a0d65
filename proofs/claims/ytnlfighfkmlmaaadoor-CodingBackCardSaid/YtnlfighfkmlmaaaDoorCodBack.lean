/- The law CodingBack walked. Its condition: errors.errorType reads as the program's text lays it. -/
import Derived.Test.YtnlfighfkmlmaaaDoorCodQ
import Derived.Test.YtnlfighfkmlmaaaDoorRelT
namespace Go.Proofs.YtnlfighfkmlmaaaDoor
set_option linter.unusedVariables false
open Go.ChangeShapes Go.WideShapes Go.ChangeAt Go.RowKit Go.Lib
attribute [local go_sem ↓] Go.wp_at_zero Go.wp_at_succ comesTo_value_eq comesTo_skip_eq comesTo_enter_eq Rl.comesToR_value_eq Rl.comesToR_skip_eq Rl.comesToR_enter_eq

theorem OwnTxt.put_form {w : World} {B : Nat} {v : Value} {xs : List Int} (h : OwnTxt w B v xs) (h0 : 0 < xs.length) : ∃ g c, v = .slice (some ⟨g, 0, none⟩) xs.length c ∧ xs.length ≤ c := by
  rcases h.form with ⟨_, rfl⟩ | ⟨g, c, h1, h2, _⟩
  · simp at h0
  · exact ⟨g, c, h1, h2⟩
theorem toList_inj {a b : ByteArray} (h : a.toList = b.toList) : a = b := by
  rw [ByteArray.toList_eq, ByteArray.toList_eq] at h
  rcases a with ⟨⟨a⟩⟩
  rcases b with ⟨⟨b⟩⟩
  simp at h
  rw [h]
set_option maxRecDepth 100000 in
set_option maxHeartbeats 16000000 in
theorem back_walk (v0 : Int) (hv : -9223372036854775808 ≤ v0 ∧ v0 ≤ 9223372036854775807) (s : ByteArray) (hs : s.size ≤ 3000) (la : Option Addr) (ll lc : Nat) (l : List Int) (W : World) (hL : ReadsL W (.slice la ll lc) l) (hln : l.length = ll) (hll : ll ≤ 400) (hin : ∀ x ∈ l, -9223372036854775808 ≤ x ∧ x ≤ 9223372036854775807) (hE : ErrAt W) :
    Calls Tryd.prog 5 #[.int .i64 v0, .string s, .slice la ll lc] W fun e w' => e = .returned (.bool true) ∧ Below W.heap.size W w' := by
  have hmx : Tryd.prog.follows .mixedOrders = true := by kernel_rfl
  have hd1 : decide ((s.size : Int) > 3000) = false := decide_eq_false (by omega)
  have hd2 : decide ((ll : Int) > 400) = false := decide_eq_false (by omega)
  have hbl : (bytesOf s).length ≤ 3000 := by rw [bytesOf_length]; exact hs
  have hpl := putI_len hv
  have hts := putI_len (v := (bytesOf s).length) (by omega)
  have K1 := Lib.hid (putint_any (w := W) (v := .slice none 0 0) (xs := []) (n := v0) (.inr ⟨rfl, none, 0, rfl, fun _ => rfl⟩) (by decide) hv)
  have HL := Lib.hid hL
  have HLN := Lib.hid hln
  have HIN := Lib.hid hin
  have HE := Lib.hid hE
  have HS := Lib.hid hs
  have HV := Lib.hid hv
  have HB0 := Lib.hid hbl
  have HPL := Lib.hid hpl
  have HTS := Lib.hid hts
  have HLL := Lib.hid hll
  clear hL hln hin hE hv hbl hpl hts
  go_enter Tryd.func5, Tryd.ntmps5
  go_wp2_with fail
  refine K1.out.mono ?_
  rintro e w1 ⟨u1, rfl, ho, hb⟩
  have K2 := Lib.hid (puttext_any ho.at (by have := HPL.out; simp; omega) s (by omega))
  have HB1 := Lib.hid hb
  clear ho hb K1
  go_wp2_with fail
  refine K2.out.mono ?_
  rintro e w2 ⟨u2, rfl, ho, hb⟩
  have hlt2 : ([] ++ putI v0 ++ putT (bytesOf s)).length ≤ 1099511627 := by
    have := HPL.out; have := HTS.out; have := HB0.out
    unfold putT; simp only [List.length_append, List.length_nil]; omega
  have HB2 := Lib.hid (below_next HB1.out hb)
  have K3 := Lib.hid (putints_any ho.at hlt2 (HL.out.below HB2.out) HLN.out (by omega) HIN.out)
  clear ho hb K2 HB1
  go_wp2_with fail
  refine K3.out.mono ?_
  rintro e w3 ⟨u3, rfl, ho, hb⟩
  have HB3 := Lib.hid (below_next HB2.out hb)
  have hX : ∃ X : List Int, [] ++ putI v0 ++ putT (bytesOf s) ++ putL l = X := ⟨_, rfl⟩
  obtain ⟨X, hX⟩ := hX
  rw [hX] at ho
  have hfl : X.length ≤ 1099511627775 := by
    rw [← hX]
    have h1 := HPL.out; have h2 := HTS.out; have h3 := HB0.out
    have h4 := flat_len l HIN.out
    have h5 := putI_len (v := (l.length : Int)) (by have := HLN.out; omega)
    have h6 := HLN.out
    unfold putT putL
    simp only [List.length_append, List.length_nil]
    omega
  have hpos : 0 < X.length := by
    rw [← hX]
    have := putI_pos l.length
    unfold putL
    simp only [List.length_append]
    omega
  obtain ⟨g, c, rfl, hgc⟩ := ho.put_form hpos
  have HX := Lib.hid hX
  have HO := Lib.hid ho
  have hq : ((X.length : Int) == 0) = false := by rw [beq_eq_false_iff_ne]; omega
  have K4 := Lib.hid (read_cur ho.at hfl)
  have HPOS := Lib.hid hpos
  have HFL := Lib.hid hfl
  have HGC := Lib.hid hgc
  clear ho hb K3 HB2 hX hfl hpos hgc
  go_wp2_with fail
  refine K4.out.mono ?_
  rintro e w4 ⟨C, rfl, hc, hb⟩
  have eX : X = putI v0 ++ (putT (bytesOf s) ++ putL l) := by rw [← HX.out, List.nil_append, List.append_assoc]
  have eT : X.take (X.length - 1) = putI v0 ++ (putT (bytesOf s) ++ (putL l).take ((putL l).length - 1)) := by
    have hp : 1 ≤ (putL l).length := by have := putI_pos l.length; unfold putL; simp only [List.length_append]; omega
    rw [eX]
    generalize putI v0 = A
    generalize putT (bytesOf s) = B
    rw [List.length_append, List.length_append, List.take_append, List.take_append, List.take_of_length_le (by omega), List.take_of_length_le (by omega), show A.length + (B.length + (putL l).length) - 1 - A.length - B.length = (putL l).length - 1 by omega]
  have HET := Lib.hid eT
  have HB4 := Lib.hid hb
  have HCm := Lib.hid hc.mem
  have HE3 := Lib.hid (HE.out.below HB3.out)
  have k5 := int_cur hc
  rw [eX, intF_put HV.out] at k5
  have K5 := Lib.hid k5
  clear hc hb k5 K4 eX eT HX
  go_wp2_with fail
  refine K5.out.mono ?_
  rintro e w5 ⟨rfl, hc, hf⟩
  have HB5 := Lib.hid (HB4.out.trans (hf.below HB4.out.size fun j hj => by subst hj; exact HCm.out))
  have k6 := text_cur hc
  rw [textF_put (by have := HB0.out; omega), str_bytes] at k6
  have K6 := Lib.hid k6
  clear hc hf k6 K5
  go_wp2_with fail
  refine K6.out.mono ?_
  rintro e w6 ⟨rfl, hc, hf⟩
  have HB6 := Lib.hid (HB5.out.trans (hf.below HB5.out.size fun j hj => by subst hj; exact HCm.out))
  have eI : intsF ⟨putL l, 0⟩ 400 = (⟨[], 0⟩, l) := by
    have := intsF_put (l := l) HIN.out (most := 400) (by have := HLN.out; omega) (by have := HLN.out; omega) []
    rwa [List.append_nil] at this
  have k7 := ints_cur hc (HE3.out.below HB6.out) (most := 400) (by decide)
  rw [eI] at k7
  have K7 := Lib.hid k7
  clear hc hf k7 K6 eI
  go_wp2_with fail
  refine K7.out.mono ?_
  rintro e w7 ⟨um, rfl, hom, hc, hf⟩
  have HB7 := Lib.hid (HB6.out.trans (hf.below HB6.out.size fun j hj => by subst hj; exact HCm.out))
  have k8 := end_cur hc (HE3.out.below HB7.out)
  rw [show endF ⟨[], 0⟩ = 0 from rfl] at k8
  have K8 := Lib.hid k8
  obtain ⟨ma, mc, rfl⟩ := hom.form
  have hmr := hom.ints
  rw [HLN.out] at hmr
  have HM := Lib.hid hmr
  have hLn := HLN.out
  clear hc hf k8 K7 hom hmr
  go_wp2_with fail
  refine K8.out.mono ?_
  rintro e w8 ⟨rfl, hb⟩
  have HB78 := Lib.hid hb
  have HB8 := Lib.hid (below_next HB7.out hb)
  clear hb K8
  go_wp2_with fail
  clear hLn
  go_loopw [12] (fun i wr => ∃ k : Nat, k ≤ ll ∧ i = .int .i64 k ∧ Below w8.heap.size w8 wr) (fun i _ => ll - (intOf i).toNat)
  case atStart => exact ⟨0, Nat.zero_le _, rfl, Below.refl _ _⟩
  case round =>
    obtain ⟨k, hk, rfl, hbr⟩ := hrel
    have HBR := Lib.hid hbr
    have hmr := (HM.out.below HB78.out).below hbr
    have hlr := HL.out.below (HB3.out.trans ((below_next HB8.out hbr).mono HB3.out.size))
    by_cases hlt : k < ll
    · have hd3 : decide ((k : Int) < (ll : Int)) = true := decide_eq_true (by omega)
      have hln := HLN.out
      obtain ⟨mg, mo, rfl, hmc⟩ : ∃ g o, ma = some ⟨g, o, none⟩ ∧ wr.drew.cell? ⟨g, o + k, none⟩ = some (.int .i64 (l.getD k 0)) := by
        rcases hmr with ⟨rfl, _⟩ | ⟨_, _, g, o, c, e, _, hc⟩
        · simp at hln; omega
        · rw [hln] at e; cases e; exact ⟨g, o, rfl, hc k (by omega)⟩
      obtain ⟨lg, lo, rfl, hlc⟩ : ∃ g o, la = some ⟨g, o, none⟩ ∧ wr.drew.cell? ⟨g, o + k, none⟩ = some (.int .i64 (l.getD k 0)) := by
        rcases hlr with ⟨rfl, _⟩ | ⟨_, _, g, o, c, e, _, hc⟩
        · simp at hln; omega
        · rw [hln] at e; cases e; exact ⟨g, o, rfl, hc k (by omega)⟩
      generalize l.getD k 0 = x at *
      clear hmr hlr hbr hln
      go_wp2_with fail
      refine wp_region_grow (fun w' => w' = wr.drew) hmx (by kernel_rfl) rfl ?_
      iterate 9 (refine textS_run ?_ ?_ (fun W hS => ?_) ?_; rotate_left; (focus go_simp); (focus (subst hS; go_simp; all_goals (first | exact ⟨rfl, rfl⟩ | rfl | (refine ⟨?_, rfl⟩; rfl)))); (try go_simp))
      refine textS_nil ?_
      go_wp2_with fail
      go_roundw
      case rel => exact ⟨k + 1, by omega, by go_num, HBR.out.drew⟩
      case measure => simp [intOf]; omega
    · have hd3 : decide ((k : Int) < (ll : Int)) = false := decide_eq_false (by omega)
      obtain rfl : k = ll := by omega
      have hpx := HPOS.out
      have hw1 : IntKind.i64.wrap ((X.length : Int) - 1) = ((X.length - 1 : Nat) : Int) := by rw [IntWalk.i64_in _ (by have := HO.out.len; omega)]; omega
      have hsl := fun W => slice_to (ad := some ⟨g, 0, none⟩) (n := X.length) (c := c) (s := X.length - 1) (.inr ⟨g, rfl⟩) (by have := HGC.out; omega) W
      have hot := (HO.out.take (k := X.length - 1) (by omega)).below (below_next HB8.out hbr)
      rw [HET.out] at hot
      have hlen9 : (putI v0 ++ (putT (bytesOf s) ++ (putL l).take ((putL l).length - 1))).length ≤ 1099511627775 := by
        rw [← HET.out, List.length_take]
        have := HFL.out
        omega
      have K9 := Lib.hid (read_cur hot.at hlen9)
      have HBR3 := Lib.hid (below_next HB8.out hbr)
      clear hot hlen9 hmr hlr hbr hpx
      go_wp2_with fail
      refine K9.out.mono ?_
      rintro e w9 ⟨D, rfl, hc, hb⟩
      have HB9 := Lib.hid (below_next HBR3.out hb)
      have HDm := Lib.hid (Nat.le_trans HBR3.out.size hc.mem)
      have k10 := int_cur hc
      rw [intF_put HV.out] at k10
      have K10 := Lib.hid k10
      clear hc hb k10 K9
      go_wp2_with fail
      refine K10.out.mono ?_
      rintro e w10 ⟨rfl, hc, hf⟩
      have HB10 := Lib.hid (HB9.out.trans (hf.below HB9.out.size fun j hj => by subst hj; exact HDm.out))
      have k11 := text_cur hc
      rw [textF_put (by have := HB0.out; omega), str_bytes] at k11
      have K11 := Lib.hid k11
      clear hc hf k11 K10
      go_wp2_with fail
      refine K11.out.mono ?_
      rintro e w11 ⟨rfl, hc, hf⟩
      have HB11 := Lib.hid (HB10.out.trans (hf.below HB10.out.size fun j hj => by subst hj; exact HDm.out))
      have k12 := ints_cur hc (HE3.out.below HB11.out) (most := 400) (by decide)
      rw [intsF_cut HIN.out (by have := HLN.out; omega) (by have := HLN.out; omega)] at k12
      have K12 := Lib.hid k12
      clear hc hf k12 K11
      go_wp2_with fail
      refine K12.out.mono ?_
      rintro e w12 ⟨un, rfl, hon, hc, hf⟩
      have HB12 := Lib.hid (HB11.out.trans (hf.below HB11.out.size fun j hj => by subst hj; exact HDm.out))
      have k13 := end_cur hc (HE3.out.below HB12.out)
      rw [show endF ⟨[], 10⟩ = 10 from rfl] at k13
      have K13 := Lib.hid k13
      clear hc hf hon k13 K12
      go_wp2_with fail
      refine K13.out.mono ?_
      rintro e w13 ⟨rfl, hb⟩
      have HB13 := Lib.hid (below_next HB12.out hb)
      clear hb K13
      go_wp2_with fail
      go_loopw [14] (fun i wr => ∃ q : Nat, q ≤ k ∧ i = .int .i64 q ∧ Below w13.heap.size w13 wr) (fun i _ => k - (intOf i).toNat)
      case atStart => exact ⟨0, Nat.zero_le _, rfl, Below.refl _ _⟩
      case round =>
        obtain ⟨q, hq2, rfl, hbq⟩ := hrel
        have HBQ := Lib.hid hbq
        have hlr := HL.out.below (HB3.out.trans ((below_next HB13.out hbq).mono HB3.out.size))
        by_cases hlt2 : q < k
        · have hd4 : decide ((q : Int) < (k : Int)) = true := decide_eq_true (by omega)
          have hln := HLN.out
          have hxm : l.getD q 0 ∈ l := by
            have hq' : q < l.length := by omega
            simp [List.getD, List.getElem?_eq_getElem hq']
          have hxb := HIN.out _ hxm
          obtain ⟨lg, lo, rfl, hlc⟩ : ∃ g o, la = some ⟨g, o, none⟩ ∧ wr.cell? ⟨g, o + q, none⟩ = some (.int .i64 (l.getD q 0)) := by
            rcases hlr with ⟨rfl, _⟩ | ⟨_, _, g, o, c, e, _, hc⟩
            · simp at hln; omega
            · rw [hln] at e; cases e; exact ⟨g, o, rfl, hc q (by omega)⟩
          generalize l.getD q 0 = x at *
          have hlb : lg < wr.heap.size := World.block_lt_of_cell? wr _ hlc
          have KX := Lib.hid (fun W => putint_any (w := W) (v := .slice none 0 0) (xs := []) (n := x) (.inr ⟨rfl, none, 0, rfl, fun _ => rfl⟩) (by decide) hxb)
          have KV := Lib.hid (fun W => putint_any (w := W) (v := .slice none 0 0) (xs := []) (n := v0) (.inr ⟨rfl, none, 0, rfl, fun _ => rfl⟩) (by decide) HV.out)
          clear hlr hbq hln hxm hxb
          go_wp2_with fail
          refine Rl.wp_region_rel (fun a b => Below a.heap.size a b) wr (fun a b c h h' => below_next h h') (fun a => Below.refl _ _) hmx (by kernel_rfl) (Below.refl _ _).drew ?_
          iterate 4 (refine Rl.textR_run ?_ (fun ρ => ?_) (fun ρ W hS hd => ?_) ?_; rotate_left; (focus go_simp); (focus (obtain ⟨hc, hf⟩ := bcell hS; go_simp; first | exact ⟨rfl, Below.refl _ _⟩ | (refine ⟨?_, Below.refl _ _⟩; rfl))); (try go_simp))
          refine Rl.textR_rel 100 (fun v w => TxtAt w v (putI x)) rfl (fun v w w' hg h => h.below hg) (fun ρ => ?_) (fun ρ W hS hd => ?_) ?_
          · go_simp
          · go_simp
            refine (KX.out W).mono ?_
            rintro e w1 ⟨u, rfl, ho, hb⟩
            exact ⟨u, rfl, ho.at, hb⟩
          (try go_simp)
          refine Rl.textR_run (.string (strOfNums (putI x))) (fun ρ => ?_) (fun ρ W hS hd => ?_) ?_
          · go_simp
          · have hcv := txt_conv (hd (100, fun v w => TxtAt w v (putI x)) List.mem_cons_self (show (100 : Nat) ∈ _ by decide)) W (Below.refl _ _)
            simp only at hcv
            go_simp
            first | exact ⟨rfl, Below.refl _ _⟩ | exact Below.refl _ _
          (try go_simp)
          (refine Rl.textR_run ?_ (fun ρ => ?_) (fun ρ W hS hd => ?_) ?_; rotate_left; (focus go_simp); (focus (obtain ⟨hc, hf⟩ := bcell hS; go_simp; first | exact ⟨rfl, Below.refl _ _⟩ | (refine ⟨?_, Below.refl _ _⟩; rfl))); (try go_simp))
          refine Rl.textR_rel 103 (fun v w => TxtAt w v (putI v0)) rfl (fun v w w' hg h => h.below hg) (fun ρ => ?_) (fun ρ W hS hd => ?_) ?_
          · go_simp
          · go_simp
            refine (KV.out W).mono ?_
            rintro e w1 ⟨u, rfl, ho, hb⟩
            exact ⟨u, rfl, ho.at, hb⟩
          (try go_simp)
          refine Rl.textR_run (.string (strOfNums (putI v0))) (fun ρ => ?_) (fun ρ W hS hd => ?_) ?_
          · go_simp
          · have hcv := txt_conv (hd (103, fun v w => TxtAt w v (putI v0)) List.mem_cons_self (show (103 : Nat) ∈ _ by decide)) W (Below.refl _ _)
            simp only at hcv
            go_simp
            first | exact ⟨rfl, Below.refl _ _⟩ | exact Below.refl _ _
          (try go_simp)
          iterate 8 (refine Rl.textR_run ?_ (fun ρ => ?_) (fun ρ W hS hd => ?_) ?_; rotate_left; (focus go_simp); (focus (obtain ⟨hc, hf⟩ := bcell hS; go_simp; first | exact ⟨rfl, Below.refl _ _⟩ | (refine ⟨?_, Below.refl _ _⟩; rfl))); (try go_simp))
          refine Rl.textR_nil ?_
          intro ρ w1 hg hk1
          have hEQ : ((strOfNums (putI x)).toList == (strOfNums (putI v0)).toList) = (x == v0) := by
            by_cases h : x = v0
            · subst h; simp
            · have h1 : ¬ (strOfNums (putI x)).toList = (strOfNums (putI v0)).toList := fun e => h (putI_inj (strOf_inj (putI_mem x) (putI_mem v0) (toList_inj e)))
              rw [beq_eq_false_iff_ne.2 h1, beq_eq_false_iff_ne.2 h]
          have hNE : (!((strOfNums (putI x)).toList == (strOfNums (putI v0)).toList) == (x == v0)) = false := by rw [hEQ]; simp
          clear hEQ
          have HG := Lib.hid (HBQ.out.trans (hg.mono HBQ.out.size))
          clear hg hk1
          dsimp only
          rw [hNE]
          clear hNE
          generalize ρ 100 = z1
          generalize ρ 103 = z2
          go_wp2_with fail
          go_roundw
          case rel => exact ⟨q + 1, by omega, by go_num, HG.out⟩
          case measure => simp [intOf]; omega
        · have hd4 : decide ((q : Int) < (k : Int)) = false := decide_eq_false (by omega)
          obtain rfl : q = k := by omega
          have KO := Lib.hid (cod_one wr (HE3.out.below (below_next HB13.out hbq)))
          have HBF := Lib.hid (HB3.out.trans ((below_next HB13.out hbq).mono HB3.out.size))
          clear hlr hbq
          go_wp2_with fail
          refine KO.out.mono ?_
          rintro e w14 ⟨rfl, hb⟩
          have HBE := Lib.hid (below_next HBF.out hb)
          clear hb
          go_wp2
          go_ret
          exact ⟨rfl, HBE.out⟩
/-- too long: nothing is asked -/
theorem back_long (v0 : Int) (s : ByteArray) (la : Option Addr) (ll lc : Nat) (W : World) (h : ¬ (s.size ≤ 3000 ∧ ll ≤ 400)) :
    Calls Tryd.prog 5 #[.int .i64 v0, .string s, .slice la ll lc] W fun e w' => e = .returned (.bool true) ∧ Below W.heap.size W w' := by
  by_cases h1 : s.size ≤ 3000
  · have hd1 : decide ((s.size : Int) > 3000) = false := decide_eq_false (by omega)
    have hd2 : decide ((ll : Int) > 400) = true := decide_eq_true (by omega)
    go_enter Tryd.func5, Tryd.ntmps5
    go_wp2
    go_ret
    exact ⟨rfl, Below.refl _ _⟩
  · have hd1 : decide ((s.size : Int) > 3000) = true := decide_eq_true (by omega)
    go_enter Tryd.func5, Tryd.ntmps5
    go_wp2
    go_ret
    exact ⟨rfl, Below.refl _ _⟩
theorem back_any (v0 : Int) (hv : -9223372036854775808 ≤ v0 ∧ v0 ≤ 9223372036854775807) (s : ByteArray) (la : Option Addr) (ll lc : Nat) (l : List Int) (W : World) (hL : ReadsL W (.slice la ll lc) l ∧ l.length = ll ∧ ll ≤ lc ∧ ∀ x ∈ l, -9223372036854775808 ≤ x ∧ x ≤ 9223372036854775807) (hE : ErrAt W) :
    Calls Tryd.prog 5 #[.int .i64 v0, .string s, .slice la ll lc] W fun e w' => e = .returned (.bool true) ∧ Below W.heap.size W w' := by
  by_cases h : s.size ≤ 3000 ∧ ll ≤ 400
  · exact back_walk v0 hv s h.1 la ll lc l W hL.1 hL.2.1 h.2 hL.2.2.2 hE
  · exact back_long v0 s la ll lc W h
end Go.Proofs.YtnlfighfkmlmaaaDoor
