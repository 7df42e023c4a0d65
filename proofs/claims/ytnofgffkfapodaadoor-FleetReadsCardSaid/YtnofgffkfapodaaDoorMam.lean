/- Laws that belong together: The bytes of a fleet (Put). Condition: its numbers fit.; The bytes of a fleet (Put). Condition: its numbers fit. -/
import Derived.Test.YtnofgffkfapodaaDoorMaj
import Derived.Test.YtnofgffkfapodaaDoorMal
import Derived.Test.YtnofgffkfapodaaDoorMah
namespace Go.Proofs.YtnofgffkfapodaaDoor
set_option linter.unusedVariables false
open Go.ChangeShapes Go.WideShapes Go.ChangeAt Go.RowKit
attribute [local go_sem ↓] Go.wp_at_zero Go.wp_at_succ comesTo_value_eq comesTo_skip_eq comesTo_enter_eq

def i64In' (x : Int) : Prop := -9223372036854775808 ≤ x ∧ x ≤ 9223372036854775807
def putsF (l : List Int) : List Int := l.flatMap putI
theorem putsF_take (l : List Int) {k : Nat} (hk : k < l.length) : putsF (l.take (k + 1)) = putsF (l.take k) ++ putI (l.getD k 0) := by
  unfold putsF
  rw [List.take_succ_eq_append_getElem hk, List.flatMap_append]
  simp [List.getD, List.getElem?_eq_getElem hk]
theorem putsF_len {l : List Int} (h : ∀ x ∈ l, i64In' x) : (putsF l).length ≤ 10 * l.length := flat_len l h
theorem putsF_app (l m : List Int) : putsF (l ++ m) = putsF l ++ putsF m := by unfold putsF; rw [List.flatMap_append]
/-- the box of the bytes, and a row of its own behind it -/
structure LayAt (w0 : World) (B : Nat) (xs : List Int) (wr : World) : Prop where
  ex : ∃ v, wr.heap[B]? = some (.cells #[v] 46 (0, 0)) ∧ OwnTxt wr (B + 1) v xs ∧ (∃ a n c, v = .slice a n c)
  fr : Fr (fun j => j = B) w0 wr
set_option maxRecDepth 100000 in
set_option maxHeartbeats 4000000 in
theorem lay1_any {w : World} {B : Nat} {xs : List Int} (h : LayAt w B xs w) (hl : xs.length ≤ 100000) {la : Option Addr} {ll lc : Nat} {l : List Int} (hln : l.length = ll) (hll : ll ≤ 1000) (hin : ∀ x ∈ l, i64In' x)
    (hL : ∀ X, Fr (fun j => j = B) w X → ∀ k, k < ll → ∃ g o, la = some ⟨g, o, none⟩ ∧ X.cell? ⟨g, o + k, none⟩ = some (.int .i64 (l.getD k 0))) :
    Calls Tryd.prog 53 #[.slice la ll lc, .pointer (some ⟨B, 0, none⟩)] w fun e w' => (∃ v, e = .returned v) ∧ LayAt w B (xs ++ putsF l) w' := by
  have H := Lib.hid h
  have HL := Lib.hid hL
  have HIN := Lib.hid hin
  have HXL := Lib.hid hl
  have HLN := Lib.hid hln
  have HLL := Lib.hid hll
  clear h hL hin hl hln hll
  go_enter Tryd.func53, Tryd.ntmps53
  go_wp2_with fail
  go_loopw [7] (fun i wr => ∃ k : Nat, k ≤ ll ∧ i = .int .i64 k ∧ LayAt w B (xs ++ putsF (l.take k)) wr) (fun i _ => ll - (intOf i).toNat)
  case atStart => exact ⟨0, Nat.zero_le _, rfl, by simpa [putsF] using H.out⟩
  case round =>
    obtain ⟨k, hk, rfl, hlay⟩ := hrel
    have HY := Lib.hid hlay
    clear hlay
    by_cases hlt : k < ll
    · have hd : decide (k < ll) = true := decide_eq_true hlt
      have hd2 : decide ((k : Int) < (ll : Int)) = true := decide_eq_true (by omega)
      have hkl : (k : Int) < (ll : Int) := by omega
      obtain ⟨g, o, hg, hcl⟩ := HL.out wr HY.out.fr k hlt
      subst hg
      obtain ⟨v, hv, ho, a, n, c, rfl⟩ := HY.out.ex
      have hkl' : k < l.length := by rw [HLN.out]; exact hlt
      have hx := HIN.out (l.getD k 0) (by simp [List.getD, List.getElem?_eq_getElem hkl'])
      have hlen : (xs ++ putsF (l.take k)).length ≤ 1099511627776 := by
        have := putsF_len (l := l.take k) (fun x hx => HIN.out x (List.mem_of_mem_take hx))
        rw [List.length_append]
        rw [List.length_take] at this
        have := HXL.out
        have := HLL.out
        omega
      have KP := Lib.hid (putint_any ho.at hlen hx)
      have HST := Lib.hid (putsF_take l hkl')
      rw [List.append_assoc, ← HST.out] at KP
      have b0 := cell_of_block (o := 0) hv rfl
      have HV := Lib.hid hv
      have hw1 : IntKind.i64.wrap ((k : Int) + 1) = (k : Int) + 1 := by have := HLL.out; rw [IntKind.wrap_i64]; omega
      clear hv ho hx hlen hkl'
      generalize l.getD k 0 = x at *
      go_wp2_with fail
      refine KP.out.mono ?_
      rintro e w2 ⟨u, rfl, hu, hb⟩
      have hlt2 := (Array.getElem?_eq_some_iff.1 HV.out).1
      have hV2 := (hb.block _ hlt2).trans HV.out
      have d0 := cell_of_block (o := 0) hV2 rfl
      have e0 := free_of_block 0 hV2
      have hw := (wrote_refl hV2).set 0 u
      have HU := Lib.hid ((hu.base (B' := B + 1) (by omega)).of_block (fun g hg => hw.rest g (by have := hu.blockGe hg; omega)))
      have HFR := Lib.hid ((HY.out.fr.trans (Fr.of_below (F := fun _ => False) hb) (fun _ h => h.elim)).set (D := B) rfl 0 u)
      have HTH := Lib.hid (show (w2.setCell ⟨B, 0, none⟩ u).heap[B]? = some (.cells #[u] 46 (0, 0)) from hw.there)
      obtain ⟨ua, un, uc, hue⟩ : ∃ a n c, u = .slice a n c := by
        obtain ⟨a, c, h1, _⟩ := hu.shape
        exact ⟨a, _, c, h1⟩
      have HUE := Lib.hid (show ∃ a n c, u = .slice a n c from ⟨_, _, _, hue⟩)
      subst hue
      clear hu hb hV2 hw hlt2 b0 HV KP HY
      go_wp2_with fail
      go_roundw
      case rel => exact ⟨k + 1, by omega, by go_num, ⟨⟨_, HTH.out, HU.out, HUE.out⟩, HFR.out⟩⟩
      case measure => simp [intOf]; omega
    · obtain rfl : k = ll := by omega
      have hd : decide (k < k) = false := decide_eq_false (by omega)
      have hd2 : decide ((k : Int) < (k : Int)) = false := decide_eq_false (by omega)
      have HE := Lib.hid (show LayAt w B (xs ++ putsF l) wr from by have := HY.out; rwa [List.take_of_length_le (by rw [HLN.out]; exact Nat.le_refl _)] at this)
      go_wp2_with fail
      exact bodyPost_end (v := .tuple #[]) (by simp [results, Tryd.results53, go_sem]) rfl ⟨⟨_, rfl⟩, HE.out⟩
end Go.Proofs.YtnofgffkfapodaaDoor
namespace Go.Proofs.YtnofgffkfapodaaDoor
set_option linter.unusedVariables false
open Go.ChangeShapes Go.WideShapes Go.ChangeAt Go.RowKit
attribute [local go_sem ↓] Go.wp_at_zero Go.wp_at_succ comesTo_value_eq comesTo_skip_eq comesTo_enter_eq

def numsF (f : FV) : List Int := [(f.ns.length : Int), f.S, f.D, f.P, IntKind.i64.wrap (nv f.sp), f.sw]
def ndL (ns : List N3) : List Int := ns.flatMap fun x => [x.1, x.2.1, x.2.2]
def bytesF (f : FV) : List Int := putsF (numsF f ++ ndL f.ns)
structure FB (f : FV) : Prop where
  len : f.ns.length ≤ 64
  S : i64In' f.S
  D : i64In' f.D
  P : i64In' f.P
  sw : i64In' f.sw
  ns : ∀ x ∈ f.ns, i64In' x.1 ∧ i64In' x.2.1 ∧ i64In' x.2.2
theorem FB.nums {f : FV} (h : FB f) : ∀ x ∈ numsF f, i64In' x := by
  intro x hx
  unfold numsF at hx
  simp only [List.mem_cons, List.not_mem_nil, or_false] at hx
  rcases hx with rfl | rfl | rfl | rfl | rfl | rfl
  · have := h.len; unfold i64In'; omega
  · exact h.S
  · exact h.D
  · exact h.P
  · unfold i64In'; rw [IntKind.wrap_i64]; omega
  · exact h.sw
theorem FB.nds {f : FV} (h : FB f) : ∀ x ∈ ndL f.ns, i64In' x := by
  intro x hx
  unfold ndL at hx
  obtain ⟨y, hy, hxy⟩ := List.mem_flatMap.1 hx
  have := h.ns y hy
  simp only [List.mem_cons, List.not_mem_nil, or_false] at hxy
  rcases hxy with rfl | rfl | rfl
  · exact this.1
  · exact this.2.1
  · exact this.2.2
theorem ndL_take (ns : List N3) {k : Nat} (hk : k < ns.length) : ndL (ns.take (k + 1)) = ndL (ns.take k) ++ [(ns.getD k (0, 0, 0)).1, (ns.getD k (0, 0, 0)).2.1, (ns.getD k (0, 0, 0)).2.2] := by
  unfold ndL
  rw [List.take_succ_eq_append_getElem hk, List.flatMap_append]
  simp [List.getD, List.getElem?_eq_getElem hk]
theorem ndL_len : ∀ ns : List N3, (ndL ns).length = 3 * ns.length
  | [] => rfl
  | x :: l => by
    have := ndL_len l
    unfold ndL at *
    rw [List.flatMap_cons, List.length_append, this]
    simp
    omega
/-- a row of ints, in a block that stays -/
theorem rowK {w : World} {b B : Nat} {l : List Int} (hb : w.heap[b]? = some (.cells (l.map (Value.int .i64)).toArray 3 (0, 0))) (hne : b ≠ B) : ∀ X, Fr (fun j => j = B) w X → ∀ k, k < l.length → ∃ g o, (some ⟨b, 0, none⟩ : Option Addr) = some ⟨g, o, none⟩ ∧ X.cell? ⟨g, o + k, none⟩ = some (.int .i64 (l.getD k 0)) := by
  intro X hX k hk
  have h1 := (hX.block b (Array.getElem?_eq_some_iff.1 hb).1 hne).trans hb
  refine ⟨b, 0, rfl, ?_⟩
  rw [Nat.zero_add]
  refine cell_of_block h1 ?_
  simp [List.getD, List.getElem?_eq_getElem hk]
set_option maxRecDepth 100000 in
set_option maxHeartbeats 8000000 in
theorem fput_fl {w : World} {F G : Nat} {f : FV} (h : Fl w F G f) (hb : FB f) : Calls Tryd.prog 19 #[.pointer (some ⟨F, 0, none⟩)] w fun e w' => ∃ u, e = .returned u ∧ OwnTxt w' w.heap.size u (bytesF f) ∧ Below w.heap.size w w' := by
  have hmx : Tryd.prog.follows .mixedOrders = true := by kernel_rfl
  have hE := enters_of (P := Tryd.prog) Tryd.func53 (by kernel_rfl) rfl
  have K0 := Lib.hid (there_fl h)
  have hA := below_alloc (Below.refl _ w) (.cells #[.slice none 0 0] 46)
  have HBX := Lib.hid (World.alloc_heap_new w (.cells #[.slice none 0 0] 46))
  have HF := Lib.hid (h.below hA)
  have HA := Lib.hid hA
  have HLT := Lib.hid h.lt
  have HNB := Lib.hid hb.nums
  have HDB := Lib.hid hb.nds
  have HL := Lib.hid h.len
  have HZ := Lib.hid (show (w.alloc (.cells #[.slice none 0 0] 46)).heap.size = w.heap.size + 1 by simp)
  clear h hA hb
  go_enter Tryd.func19, Tryd.ntmps19
  go_wp2_with fail
  refine K0.out.mono ?_
  rintro e w' ⟨rfl, rfl⟩
  go_upto_region 5 with fail
  generalize w.alloc (.cells #[.slice none 0 0] 46) = W1 at *
  have c0 := HF.out.c0
  have c1 := HF.out.c1
  have c2 := HF.out.c2
  have c3 := HF.out.c3
  have c4 := HF.out.c4
  have c5 := HF.out.c5
  have hltF := HF.out.lt.1
  obtain ⟨n, hn⟩ : ∃ n, n = f.ns.length := ⟨_, rfl⟩
  have HN := Lib.hid hn
  rw [← hn] at c3 HL
  obtain ⟨zs, hzs⟩ : ∃ zs, zs = IntKind.i64.wrap (nv f.sp) := ⟨_, rfl⟩
  have hzs' := hzs.symm
  have HNM := Lib.hid (show numsF f = [(n : Int), f.S, f.D, f.P, zs, f.sw] by unfold numsF; rw [← hn, ← hzs])
  clear hn hzs K0
  unfold Go.Proofs.Enters at hE
  refine wp_region_held (S := fun X => X.cell? ⟨F, 0, none⟩ = some (.int .i64 f.S) ∧ X.cell? ⟨F, 1, none⟩ = some (.int .i64 f.D) ∧ X.cell? ⟨F, 2, none⟩ = some (.int .i64 f.P) ∧ X.cell? ⟨F, 3, none⟩ = some (.slice (some ⟨G, 0, none⟩) n n) ∧ X.cell? ⟨F, 4, none⟩ = some (.int .u64 (nv f.sp)) ∧ X.cell? ⟨F, 5, none⟩ = some (.int .i64 f.sw)) hmx ?_
  have hS : W1.drew.cell? ⟨F, 0, none⟩ = some (.int .i64 f.S) ∧ W1.drew.cell? ⟨F, 1, none⟩ = some (.int .i64 f.D) ∧ W1.drew.cell? ⟨F, 2, none⟩ = some (.int .i64 f.P) ∧ W1.drew.cell? ⟨F, 3, none⟩ = some (.slice (some ⟨G, 0, none⟩) n n) ∧ W1.drew.cell? ⟨F, 4, none⟩ = some (.int .u64 (nv f.sp)) ∧ W1.drew.cell? ⟨F, 5, none⟩ = some (.int .i64 f.sw) := ⟨c0, c1, c2, c3, c4, c5⟩
  have HF2 := Lib.hid (HF.out.below (show Below W1.heap.size W1 W1.drew from (Below.refl _ _).drew))
  have HA2 := Lib.hid (show Below w.heap.size w W1.drew from HA.out.drew)
  have HBX2 := Lib.hid (show W1.drew.heap[w.heap.size]? = _ from HBX.out)
  have HZ2 := Lib.hid (show W1.drew.heap.size = w.heap.size + 1 from HZ.out)
  clear c0 c1 c2 c3 c4 c5 hltF HF HA HBX HZ
  change wpAnyH _ _ _ _ _ 32 _ _ W1.drew
  generalize W1.drew = w2 at *
  (refine wpAnyH_take (i := 0) (v := .func (.func 53) #[] #[.pointer (some ⟨w.heap.size, 0, none⟩)]) rfl (by decide +kernel) (by decide +kernel) (by decide +kernel) (fun _ _ _ h => h) (.inl ⟨by first | rfl | (go_simp; done), fun X hX => by obtain ⟨hx0, hx1, hx2, hx3, hx4, hx5⟩ := hX; first | (go_simp; done) | (go_simp; rfl)⟩) hS ?_)
  (refine wpAnyH_take (i := 1) (v := .pointer (some ⟨F, 0, none⟩)) rfl (by decide +kernel) (by decide +kernel) (by decide +kernel) (fun _ _ _ h => h) (.inl ⟨by first | rfl | (go_simp; done), fun X hX => by obtain ⟨hx0, hx1, hx2, hx3, hx4, hx5⟩ := hX; first | (go_simp; done) | (go_simp; rfl)⟩) hS ?_)
  (refine wpAnyH_take (i := 2) (v := .pointer (some ⟨F, 0, none⟩)) rfl (by decide +kernel) (by decide +kernel) (by decide +kernel) (fun _ _ _ h => h) (.inl ⟨by first | rfl | (go_simp; done), fun X hX => by obtain ⟨hx0, hx1, hx2, hx3, hx4, hx5⟩ := hX; first | (go_simp; done) | (go_simp; rfl)⟩) hS ?_)
  (refine wpAnyH_take (i := 3) (v := .pointer (some ⟨F, 3, none⟩)) rfl (by decide +kernel) (by decide +kernel) (by decide +kernel) (fun _ _ _ h => h) (.inl ⟨by first | rfl | (go_simp; done), fun X hX => by obtain ⟨hx0, hx1, hx2, hx3, hx4, hx5⟩ := hX; first | (go_simp; done) | (go_simp; rfl)⟩) hS ?_)
  (refine wpAnyH_take (i := 4) (v := .slice (some ⟨G, 0, none⟩) n n) rfl (by decide +kernel) (by decide +kernel) (by decide +kernel) (fun _ _ _ h => h) (.inl ⟨by first | rfl | (go_simp; done), fun X hX => by obtain ⟨hx0, hx1, hx2, hx3, hx4, hx5⟩ := hX; first | (go_simp; done) | (go_simp; rfl)⟩) hS ?_)
  (refine wpAnyH_take (i := 5) (v := .int .i64 n) rfl (by decide +kernel) (by decide +kernel) (by decide +kernel) (fun _ _ _ h => h) (.inl ⟨by first | rfl | (go_simp; done), fun X hX => by obtain ⟨hx0, hx1, hx2, hx3, hx4, hx5⟩ := hX; first | (go_simp; done) | (go_simp; rfl)⟩) hS ?_)
  (refine wpAnyH_take (i := 6) (v := .pointer (some ⟨F, 0, none⟩)) rfl (by decide +kernel) (by decide +kernel) (by decide +kernel) (fun _ _ _ h => h) (.inl ⟨by first | rfl | (go_simp; done), fun X hX => by obtain ⟨hx0, hx1, hx2, hx3, hx4, hx5⟩ := hX; first | (go_simp; done) | (go_simp; rfl)⟩) hS ?_)
  (refine wpAnyH_take (i := 7) (v := .pointer (some ⟨F, 0, none⟩)) rfl (by decide +kernel) (by decide +kernel) (by decide +kernel) (fun _ _ _ h => h) (.inl ⟨by first | rfl | (go_simp; done), fun X hX => by obtain ⟨hx0, hx1, hx2, hx3, hx4, hx5⟩ := hX; first | (go_simp; done) | (go_simp; rfl)⟩) hS ?_)
  (refine wpAnyH_take (i := 8) (v := .pointer (some ⟨F, 0, none⟩)) rfl (by decide +kernel) (by decide +kernel) (by decide +kernel) (fun _ _ _ h => h) (.inl ⟨by first | rfl | (go_simp; done), fun X hX => by obtain ⟨hx0, hx1, hx2, hx3, hx4, hx5⟩ := hX; first | (go_simp; done) | (go_simp; rfl)⟩) hS ?_)
  (refine wpAnyH_take (i := 9) (v := .pointer (some ⟨F, 0, none⟩)) rfl (by decide +kernel) (by decide +kernel) (by decide +kernel) (fun _ _ _ h => h) (.inl ⟨by first | rfl | (go_simp; done), fun X hX => by obtain ⟨hx0, hx1, hx2, hx3, hx4, hx5⟩ := hX; first | (go_simp; done) | (go_simp; rfl)⟩) hS ?_)
  (refine wpAnyH_take (i := 10) (v := .int .i64 f.S) rfl (by decide +kernel) (by decide +kernel) (by decide +kernel) (fun _ _ _ h => h) (.inl ⟨by first | rfl | (go_simp; done), fun X hX => by obtain ⟨hx0, hx1, hx2, hx3, hx4, hx5⟩ := hX; first | (go_simp; done) | (go_simp; rfl)⟩) hS ?_)
  (refine wpAnyH_take (i := 11) (v := .pointer (some ⟨F, 0, none⟩)) rfl (by decide +kernel) (by decide +kernel) (by decide +kernel) (fun _ _ _ h => h) (.inl ⟨by first | rfl | (go_simp; done), fun X hX => by obtain ⟨hx0, hx1, hx2, hx3, hx4, hx5⟩ := hX; first | (go_simp; done) | (go_simp; rfl)⟩) hS ?_)
  (refine wpAnyH_take (i := 12) (v := .pointer (some ⟨F, 0, none⟩)) rfl (by decide +kernel) (by decide +kernel) (by decide +kernel) (fun _ _ _ h => h) (.inl ⟨by first | rfl | (go_simp; done), fun X hX => by obtain ⟨hx0, hx1, hx2, hx3, hx4, hx5⟩ := hX; first | (go_simp; done) | (go_simp; rfl)⟩) hS ?_)
  (refine wpAnyH_take (i := 13) (v := .pointer (some ⟨F, 0, none⟩)) rfl (by decide +kernel) (by decide +kernel) (by decide +kernel) (fun _ _ _ h => h) (.inl ⟨by first | rfl | (go_simp; done), fun X hX => by obtain ⟨hx0, hx1, hx2, hx3, hx4, hx5⟩ := hX; first | (go_simp; done) | (go_simp; rfl)⟩) hS ?_)
  (refine wpAnyH_take (i := 14) (v := .pointer (some ⟨F, 1, none⟩)) rfl (by decide +kernel) (by decide +kernel) (by decide +kernel) (fun _ _ _ h => h) (.inl ⟨by first | rfl | (go_simp; done), fun X hX => by obtain ⟨hx0, hx1, hx2, hx3, hx4, hx5⟩ := hX; first | (go_simp; done) | (go_simp; rfl)⟩) hS ?_)
  (refine wpAnyH_take (i := 15) (v := .int .i64 f.D) rfl (by decide +kernel) (by decide +kernel) (by decide +kernel) (fun _ _ _ h => h) (.inl ⟨by first | rfl | (go_simp; done), fun X hX => by obtain ⟨hx0, hx1, hx2, hx3, hx4, hx5⟩ := hX; first | (go_simp; done) | (go_simp; rfl)⟩) hS ?_)
  (refine wpAnyH_take (i := 16) (v := .pointer (some ⟨F, 0, none⟩)) rfl (by decide +kernel) (by decide +kernel) (by decide +kernel) (fun _ _ _ h => h) (.inl ⟨by first | rfl | (go_simp; done), fun X hX => by obtain ⟨hx0, hx1, hx2, hx3, hx4, hx5⟩ := hX; first | (go_simp; done) | (go_simp; rfl)⟩) hS ?_)
  (refine wpAnyH_take (i := 17) (v := .pointer (some ⟨F, 0, none⟩)) rfl (by decide +kernel) (by decide +kernel) (by decide +kernel) (fun _ _ _ h => h) (.inl ⟨by first | rfl | (go_simp; done), fun X hX => by obtain ⟨hx0, hx1, hx2, hx3, hx4, hx5⟩ := hX; first | (go_simp; done) | (go_simp; rfl)⟩) hS ?_)
  (refine wpAnyH_take (i := 18) (v := .pointer (some ⟨F, 0, none⟩)) rfl (by decide +kernel) (by decide +kernel) (by decide +kernel) (fun _ _ _ h => h) (.inl ⟨by first | rfl | (go_simp; done), fun X hX => by obtain ⟨hx0, hx1, hx2, hx3, hx4, hx5⟩ := hX; first | (go_simp; done) | (go_simp; rfl)⟩) hS ?_)
  (refine wpAnyH_take (i := 19) (v := .pointer (some ⟨F, 2, none⟩)) rfl (by decide +kernel) (by decide +kernel) (by decide +kernel) (fun _ _ _ h => h) (.inl ⟨by first | rfl | (go_simp; done), fun X hX => by obtain ⟨hx0, hx1, hx2, hx3, hx4, hx5⟩ := hX; first | (go_simp; done) | (go_simp; rfl)⟩) hS ?_)
  (refine wpAnyH_take (i := 20) (v := .int .i64 f.P) rfl (by decide +kernel) (by decide +kernel) (by decide +kernel) (fun _ _ _ h => h) (.inl ⟨by first | rfl | (go_simp; done), fun X hX => by obtain ⟨hx0, hx1, hx2, hx3, hx4, hx5⟩ := hX; first | (go_simp; done) | (go_simp; rfl)⟩) hS ?_)
  (refine wpAnyH_take (i := 21) (v := .pointer (some ⟨F, 0, none⟩)) rfl (by decide +kernel) (by decide +kernel) (by decide +kernel) (fun _ _ _ h => h) (.inl ⟨by first | rfl | (go_simp; done), fun X hX => by obtain ⟨hx0, hx1, hx2, hx3, hx4, hx5⟩ := hX; first | (go_simp; done) | (go_simp; rfl)⟩) hS ?_)
  (refine wpAnyH_take (i := 22) (v := .pointer (some ⟨F, 0, none⟩)) rfl (by decide +kernel) (by decide +kernel) (by decide +kernel) (fun _ _ _ h => h) (.inl ⟨by first | rfl | (go_simp; done), fun X hX => by obtain ⟨hx0, hx1, hx2, hx3, hx4, hx5⟩ := hX; first | (go_simp; done) | (go_simp; rfl)⟩) hS ?_)
  (refine wpAnyH_take (i := 23) (v := .pointer (some ⟨F, 4, none⟩)) rfl (by decide +kernel) (by decide +kernel) (by decide +kernel) (fun _ _ _ h => h) (.inl ⟨by first | rfl | (go_simp; done), fun X hX => by obtain ⟨hx0, hx1, hx2, hx3, hx4, hx5⟩ := hX; first | (go_simp; done) | (go_simp; rfl)⟩) hS ?_)
  (refine wpAnyH_take (i := 24) (v := .int .u64 (nv f.sp)) rfl (by decide +kernel) (by decide +kernel) (by decide +kernel) (fun _ _ _ h => h) (.inl ⟨by first | rfl | (go_simp; done), fun X hX => by obtain ⟨hx0, hx1, hx2, hx3, hx4, hx5⟩ := hX; first | (go_simp; done) | (go_simp; rfl)⟩) hS ?_)
  (refine wpAnyH_take (i := 25) (v := .int .i64 zs) rfl (by decide +kernel) (by decide +kernel) (by decide +kernel) (fun _ _ _ h => h) (.inl ⟨by first | rfl | (go_simp; done), fun X hX => by obtain ⟨hx0, hx1, hx2, hx3, hx4, hx5⟩ := hX; first | (go_simp; done) | (go_simp; rfl)⟩) hS ?_)
  (refine wpAnyH_take (i := 26) (v := .pointer (some ⟨F, 0, none⟩)) rfl (by decide +kernel) (by decide +kernel) (by decide +kernel) (fun _ _ _ h => h) (.inl ⟨by first | rfl | (go_simp; done), fun X hX => by obtain ⟨hx0, hx1, hx2, hx3, hx4, hx5⟩ := hX; first | (go_simp; done) | (go_simp; rfl)⟩) hS ?_)
  (refine wpAnyH_take (i := 27) (v := .pointer (some ⟨F, 0, none⟩)) rfl (by decide +kernel) (by decide +kernel) (by decide +kernel) (fun _ _ _ h => h) (.inl ⟨by first | rfl | (go_simp; done), fun X hX => by obtain ⟨hx0, hx1, hx2, hx3, hx4, hx5⟩ := hX; first | (go_simp; done) | (go_simp; rfl)⟩) hS ?_)
  (refine wpAnyH_take (i := 28) (v := .pointer (some ⟨F, 5, none⟩)) rfl (by decide +kernel) (by decide +kernel) (by decide +kernel) (fun _ _ _ h => h) (.inl ⟨by first | rfl | (go_simp; done), fun X hX => by obtain ⟨hx0, hx1, hx2, hx3, hx4, hx5⟩ := hX; first | (go_simp; done) | (go_simp; rfl)⟩) hS ?_)
  (refine wpAnyH_take (i := 29) (v := .int .i64 f.sw) rfl (by decide +kernel) (by decide +kernel) (by decide +kernel) (fun _ _ _ h => h) (.inl ⟨by first | rfl | (go_simp; done), fun X hX => by obtain ⟨hx0, hx1, hx2, hx3, hx4, hx5⟩ := hX; first | (go_simp; done) | (go_simp; rfl)⟩) hS ?_)
  have HS := Lib.hid hS
  clear hS hzs'
  refine anyH_one (i := 30) (by decide +kernel) ?_
  refine opH_val (i := 30) (v := .slice (some ⟨w2.heap.size, 0, none⟩) 6 6) (w' := w2.alloc (.cells #[.int .i64 n, .int .i64 f.S, .int .i64 f.D, .int .i64 f.P, .int .i64 zs, .int .i64 f.sw] 3)) rfl (by first | rfl | (go_simp; done)) (by first | (go_simp; done) | (go_simp; rfl)) ?_
  have hA3 := below_alloc (Below.refl _ w2) (.cells #[.int .i64 n, .int .i64 f.S, .int .i64 f.D, .int .i64 f.P, .int .i64 zs, .int .i64 f.sw] 3)
  have HRW := Lib.hid (World.alloc_heap_new w2 (.cells #[.int .i64 n, .int .i64 f.S, .int .i64 f.D, .int .i64 f.P, .int .i64 zs, .int .i64 f.sw] 3))
  have HF3 := Lib.hid (HF2.out.below hA3)
  have HA3 := Lib.hid (below_next HA2.out hA3)
  have HBX3 := Lib.hid ((hA3.block _ (Array.getElem?_eq_some_iff.1 HBX2.out).1).trans HBX2.out)
  have HNE := Lib.hid (show w2.heap.size ≠ w.heap.size from by have := HZ2.out; omega)
  have HWS := Lib.hid (show w.heap.size < (w2.alloc (.cells #[.int .i64 n, .int .i64 f.S, .int .i64 f.D, .int .i64 f.P, .int .i64 zs, .int .i64 f.sw] 3)).heap.size from by have := HZ2.out; simp; omega)
  clear hA3 HF2 HA2 HBX2 HZ2 HS
  generalize w2.alloc (.cells #[.int .i64 n, .int .i64 f.S, .int .i64 f.D, .int .i64 f.P, .int .i64 zs, .int .i64 f.sw] 3) = w3 at *
  generalize w2.heap.size = R at *
  have hS3 : w3.cell? ⟨F, 0, none⟩ = some (.int .i64 f.S) ∧ w3.cell? ⟨F, 1, none⟩ = some (.int .i64 f.D) ∧ w3.cell? ⟨F, 2, none⟩ = some (.int .i64 f.P) ∧ w3.cell? ⟨F, 3, none⟩ = some (.slice (some ⟨G, 0, none⟩) n n) ∧ w3.cell? ⟨F, 4, none⟩ = some (.int .u64 (nv f.sp)) ∧ w3.cell? ⟨F, 5, none⟩ = some (.int .i64 f.sw) := ⟨HF3.out.c0, HF3.out.c1, HF3.out.c2, by rw [HN.out]; exact HF3.out.c3, HF3.out.c4, HF3.out.c5⟩
  refine ⟨hS3, ?_⟩
  have HS3 := Lib.hid hS3
  clear hS3
  have HLY := Lib.hid (show LayAt w3 w.heap.size [] w3 from ⟨⟨_, HBX3.out, OwnTxt.nil, ⟨_, _, _, rfl⟩⟩, Fr.refl _ _⟩)
  have KL := Lib.hid (lay1_any (l := [(n : Int), f.S, f.D, f.P, zs, f.sw]) (la := some ⟨R, 0, none⟩) (ll := 6) (lc := 6) HLY.out (by simp) rfl (by decide) (by rw [← HNM.out]; exact HNB.out) (fun X hX k hk => rowK (l := [(n : Int), f.S, f.D, f.P, zs, f.sw]) HRW.out HNE.out X hX k hk))
  rw [List.nil_append] at KL
  refine anyH_call (i := 31) (by decide +kernel) rfl (by first | rfl | (go_simp; done)) (by go_simp) (KL.out) ?_
  rintro e w4 ⟨⟨v4, rfl⟩, hly⟩
  have HY4 := Lib.hid hly
  have HF4 := Lib.hid (HF3.out.fr hly.fr (by have := HLT.out.1; omega) (by have := HLT.out.2; omega))
  have HA4 := Lib.hid (HA3.out.trans (hly.fr.below (B := w.heap.size) HA3.out.size (fun j hj => by omega)))
  clear hly HBX3 HRW HLY KL HS3

  have hS4 : w4.cell? ⟨F, 0, none⟩ = some (.int .i64 f.S) ∧ w4.cell? ⟨F, 1, none⟩ = some (.int .i64 f.D) ∧ w4.cell? ⟨F, 2, none⟩ = some (.int .i64 f.P) ∧ w4.cell? ⟨F, 3, none⟩ = some (.slice (some ⟨G, 0, none⟩) n n) ∧ w4.cell? ⟨F, 4, none⟩ = some (.int .u64 (nv f.sp)) ∧ w4.cell? ⟨F, 5, none⟩ = some (.int .i64 f.sw) := ⟨HF4.out.c0, HF4.out.c1, HF4.out.c2, by rw [HN.out]; exact HF4.out.c3, HF4.out.c4, HF4.out.c5⟩
  refine ⟨_, rfl, hS4, ?_⟩
  clear hS4
  refine wpAnyH_done (by decide +kernel) ?_ _
  go_simp
  have c3 := HF4.out.c3
  rw [← HN.out] at c3
  go_wp2_with fail
  clear c3
  obtain ⟨l6, hl6⟩ : ∃ l, l = [(n : Int), f.S, f.D, f.P, zs, f.sw] := ⟨_, rfl⟩
  have HL6 := Lib.hid (show numsF f = l6 by rw [HNM.out, hl6])
  rw [← hl6] at HY4
  have HLL := Lib.hid (show l6.length = 6 by rw [hl6]; rfl)
  clear hl6
  go_loopw [48] (fun i wr => ∃ k : Nat, k ≤ n ∧ i = .int .i64 k ∧ LayAt w3 w.heap.size (putsF (l6 ++ ndL (f.ns.take k))) wr) (fun i _ => n - (intOf i).toNat)
  case atStart => exact ⟨0, Nat.zero_le _, rfl, by simpa [ndL] using HY4.out⟩
  case round =>
    obtain ⟨k, hk, rfl, hlay⟩ := hrel
    have HY := Lib.hid hlay
    have HFr := Lib.hid (HF3.out.fr hlay.fr (by have := HLT.out.1; omega) (by have := HLT.out.2; omega))
    clear hlay
    by_cases hlt : k < n
    · have hd : decide (k < n) = true := decide_eq_true hlt
      have hd2 : decide ((k : Int) < (n : Int)) = true := decide_eq_true (by omega)
      have hkI : (k : Int) < (n : Int) := by omega
      have hkn : k < f.ns.length := by rw [← HN.out]; exact hlt
      have hw1 : IntKind.i64.wrap ((k : Int) + 1) = (k : Int) + 1 := by have := HL.out; rw [IntKind.wrap_i64]; omega
      obtain ⟨n0, n1, n2⟩ := HFr.out.node hkn
      have HTK := Lib.hid (ndL_take f.ns hkn)
      have hmem : ∀ x ∈ [(f.ns.getD k (0, 0, 0)).1, (f.ns.getD k (0, 0, 0)).2.1, (f.ns.getD k (0, 0, 0)).2.2], i64In' x := fun x hx => HDB.out x (by
        unfold ndL
        refine List.mem_flatMap.2 ⟨f.ns.getD k (0, 0, 0), by simp [List.getD, List.getElem?_eq_getElem hkn], hx⟩)
      have HMEM := Lib.hid hmem
      clear hmem hkn
      generalize f.ns.getD k (0, 0, 0) = nd at *
      obtain ⟨t, m, b⟩ := nd
      dsimp only at n0 n1 n2 HTK HMEM
      have b1 := below_alloc (Below.refl _ wr) (.cells #[.int .i64 t, .int .i64 m, .int .i64 b] 62)
      have b2 := below_alloc (Below.refl _ (wr.alloc (.cells #[.int .i64 t, .int .i64 m, .int .i64 b] 62))) (.cells #[.int .i64 t, .int .i64 m, .int .i64 b] 3)
      have q1 := World.alloc_heap_new wr (.cells #[.int .i64 t, .int .i64 m, .int .i64 b] 62)
      have q2 := World.alloc_heap_new (wr.alloc (.cells #[.int .i64 t, .int .i64 m, .int .i64 b] 62)) (.cells #[.int .i64 t, .int .i64 m, .int .i64 b] 3)
      rw [World.size_alloc] at q2
      have d0 := cell_of_block (o := 0) q1 rfl
      have d1 := cell_of_block (o := 1) q1 rfl
      have d2 := cell_of_block (o := 2) q1 rfl
      have HQ2 := Lib.hid q2
      have HB5 := Lib.hid (below_next b1 b2)
      have HZR := Lib.hid (show w.heap.size < wr.heap.size by have := HY.out.fr.size; have := HWS.out; omega)
      clear b1 b2 q1 q2
      go_wp2_with fail
      clear d0 d1 d2 n0 n1 n2
      generalize (wr.alloc (.cells #[.int .i64 t, .int .i64 m, .int .i64 b] 62)).alloc (.cells #[.int .i64 t, .int .i64 m, .int .i64 b] 3) = w5 at *
      have HLY := Lib.hid (show LayAt w5 w.heap.size (putsF (l6 ++ ndL (f.ns.take k))) w5 from by
        obtain ⟨v, hv, ho, hs⟩ := HY.out.ex
        exact ⟨⟨v, (HB5.out.block _ (Array.getElem?_eq_some_iff.1 hv).1).trans hv, ho.below HB5.out, hs⟩, Fr.refl _ _⟩)
      have hlen : (putsF (l6 ++ ndL (f.ns.take k))).length ≤ 100000 := by
        have h1 := putsF_len (l := l6 ++ ndL (f.ns.take k)) (fun x hx => by
          rcases List.mem_append.1 hx with h | h
          · exact HNB.out x (by rw [HL6.out]; exact h)
          · refine HDB.out x ?_
            unfold ndL at h ⊢
            obtain ⟨y, hy, hxy⟩ := List.mem_flatMap.1 h
            exact List.mem_flatMap.2 ⟨y, List.mem_of_mem_take hy, hxy⟩)
        rw [List.length_append, ndL_len, List.length_take, HLL.out] at h1
        have := HL.out
        omega
      have KL := Lib.hid (lay1_any (l := [t, m, b]) (la := some ⟨wr.heap.size + 1, 0, none⟩) (ll := 3) (lc := 3) HLY.out hlen rfl (by decide) HMEM.out (fun X hX k hk => rowK (l := [t, m, b]) HQ2.out (by have := HZR.out; omega) X hX k hk))
      clear hlen
      refine KL.out.mono ?_
      rintro e w6 ⟨⟨v6, rfl⟩, hly⟩
      have HY6 := Lib.hid (show LayAt w3 w.heap.size (putsF (l6 ++ ndL (f.ns.take (k + 1)))) w6 from ⟨by rw [HTK.out, ← List.append_assoc, putsF_app]; exact hly.ex, (HY.out.fr.trans (Fr.of_below (F := fun _ => False) HB5.out) (fun _ h => h.elim)).trans hly.fr (fun _ h => .inl h)⟩)
      clear hly KL HLY HY HFr HB5 HQ2
      go_wp2_with fail
      go_roundw
      case rel => exact ⟨k + 1, by omega, by go_num, HY6.out⟩
      case measure => simp [intOf]; omega
    · obtain rfl : k = n := by omega
      have hd : decide (k < k) = false := decide_eq_false (by omega)
      have hd2 : decide ((k : Int) < (k : Int)) = false := decide_eq_false (by omega)
      obtain ⟨v, hv, ho, hs⟩ := HY.out.ex
      have HO := Lib.hid (show OwnTxt wr w.heap.size v (bytesF f) from by
        have := ho.base (B' := w.heap.size) (by omega)
        rw [List.take_of_length_le (by rw [HN.out]; exact Nat.le_refl _), ← HL6.out] at this
        exact this)
      have HBE := Lib.hid (HA3.out.trans (HY.out.fr.below (B := w.heap.size) HA3.out.size (fun j hj => by omega)))
      have b0 := cell_of_block (o := 0) hv rfl
      clear hv ho hs
      go_wp2_with fail
      go_ret
      exact ⟨_, rfl, HO.out, HBE.out⟩
end Go.Proofs.YtnofgffkfapodaaDoor
