/- Levels (layer 10), the document's: what was done to levels in memory; At, Add, Set, Forget. Condition: at most 2^32 changes. -/
import Derived.Test.YthdljigcfhjikaaUsx
import Derived.Test.YthdljigcfhjikaaAppTwo
namespace Go.Proofs.Ythdljigcfhjikaa
set_option linter.unusedVariables false
open Go.ChangeShapes Go.WideShapes Go.ChangeAt Go.RowKit
attribute [local go_sem ↓] Go.wp_at_zero Go.wp_at_succ comesTo_value_eq comesTo_skip_eq comesTo_enter_eq

structure ChgC where
  f : Int
  t : Int
  set : Bool
  n : Int
def chgD : ChgC := ⟨0, 0, false, 0⟩
def chgV (c : ChgC) : List Value := [.int .i64 c.f, .int .i64 c.t, .bool c.set, .int .i64 c.n]
def flatC : List ChgC → List Value
  | [] => []
  | c :: r => .int .i64 c.f :: .int .i64 c.t :: .bool c.set :: .int .i64 c.n :: flatC r
theorem flatC_length : ∀ l, (flatC l).length = l.length * 4
  | [] => rfl
  | p :: r => by simp [flatC, flatC_length r]; omega
theorem flatC_append : ∀ a b, flatC (a ++ b) = flatC a ++ flatC b
  | [], b => rfl
  | p :: r, b => by simp [flatC, flatC_append r b]
theorem flatC_get : ∀ (l : List ChgC) (k : Nat), k < l.length → (flatC l)[k * 4]? = some (.int .i64 (l.getD k chgD).f) ∧ (flatC l)[k * 4 + 1]? = some (.int .i64 (l.getD k chgD).t) ∧ (flatC l)[k * 4 + 2]? = some (.bool (l.getD k chgD).set) ∧ (flatC l)[k * 4 + 3]? = some (.int .i64 (l.getD k chgD).n)
  | [], k, h => by simp at h
  | p :: r, 0, _ => by simp [flatC]
  | p :: r, k + 1, h => by
    have := flatC_get r k (by simpa using h)
    rw [show (k + 1) * 4 = k * 4 + 1 + 1 + 1 + 1 by omega]
    simpa [flatC] using this
theorem flatC_one (l : List ChgC) : ∀ u ∈ flatC l, u.oneCell' = true := by
  induction l with
  | nil => intro u hu; simp [flatC] at hu
  | cons p r ih =>
    intro u hu
    simp only [flatC, List.mem_cons] at hu
    rcases hu with rfl | rfl | rfl | rfl | hu
    · rfl
    · rfl
    · rfl
    · rfl
    · exact ih u hu
/-- a row of changes that may be read -/
def RowC (w : World) (v : Value) (C : List ChgC) : Prop := ∃ ad c, v = .slice ad C.length c ∧ (ad = none → C.length = 0) ∧ ∀ a, ad = some a → ∃ g, a = ⟨g, 0, none⟩ ∧ (0 < C.length → g < w.heap.size ∧ ∀ j u, (flatC C)[j]? = some u → w.cell? ⟨g, j, none⟩ = some u)
theorem RowC.mono {w w' : World} {v : Value} {C : List ChgC} (h : RowC w v C) (hs : w.heap.size ≤ w'.heap.size) (hk : ∀ g, g < w.heap.size → (∀ j u, (flatC C)[j]? = some u → w.cell? ⟨g, j, none⟩ = some u) → 0 < C.length → w'.heap[g]? = w.heap[g]?) : RowC w' v C := by
  obtain ⟨ad, c, rfl, h0, h1⟩ := h
  refine ⟨ad, c, rfl, h0, fun a ha => ?_⟩
  obtain ⟨g, rfl, hg⟩ := h1 a ha
  refine ⟨g, rfl, fun hp => ?_⟩
  obtain ⟨g1, g2⟩ := hg hp
  refine ⟨Nat.lt_of_lt_of_le g1 hs, fun j u hj => ?_⟩
  have := g2 j u hj
  unfold World.cell? at this ⊢
  simp only [hk g g1 g2 hp]
  exact this
theorem RowC.below {w w' : World} {v : Value} {C : List ChgC} (h : RowC w v C) (hb : Below w.heap.size w w') : RowC w' v C := h.mono hb.size fun g hg _ _ => hb.block g hg
theorem RowC.nil (w : World) : RowC w (.slice none 0 0) [] := ⟨none, 0, rfl, fun _ => rfl, fun a h => by cases h⟩
theorem RowC.rd {w : World} {v : Value} {C : List ChgC} (h : RowC w v C) : Ap.RdG w 4 v C.length (flatC C) := by
  obtain ⟨ad, c, rfl, h0, h1⟩ := h
  refine ⟨⟨ad, c, rfl, h0, fun a ha j u hj => ?_, fun a ha hm => ?_⟩, flatC_length C, flatC_one C⟩
  · obtain ⟨g, rfl, hg⟩ := h1 a ha
    have hm : 0 < C.length := by
      rcases Nat.eq_zero_or_pos C.length with e | e
      · rw [List.eq_nil_of_length_eq_zero e] at hj; simp [flatC] at hj
      · exact e
    have hadd : (⟨g, 0, none⟩ : Addr).add j = ⟨g, j, none⟩ := by unfold Addr.add; split <;> simp_all
    rw [hadd]
    exact (hg hm).2 j u hj
  · obtain ⟨g, rfl, hg⟩ := h1 a ha
    exact (hg hm).1
theorem RowC.own {w : World} {B : Nat} {v : Value} {C : List ChgC} (h : w.ownsRow B 100 4 v C.length (flatC C)) : RowC w v C := by
  have hl := flatC_length C
  rcases h.2 with ⟨rfl, h0⟩ | ⟨g, cap, cur, rfl, hB, hg, hc, _⟩
  · exact ⟨none, 0, by rw [h0], fun _ => h0, fun a ha => by cases ha⟩
  · refine ⟨_, cap, rfl, (fun h => by cases h), fun a ha => ⟨g, (Option.some.inj ha).symm, fun hp => ⟨(Array.getElem?_eq_some_iff.1 hg).1, fun j u hj => ?_⟩⟩⟩
    have hlt : j < (flatC C).length := (List.getElem?_eq_some_iff.1 hj).1
    exact (h.cellAt j (by omega)).trans hj
theorem RowC.at {w : World} {v : Value} {C : List ChgC} (h : RowC w v C) {k : Nat} (hk : k < C.length) : ∃ g c, v = .slice (some ⟨g, 0, none⟩) C.length c ∧ g < w.heap.size ∧ w.cell? ⟨g, k * 4, none⟩ = some (.int .i64 (C.getD k chgD).f) ∧ w.cell? ⟨g, k * 4 + 1, none⟩ = some (.int .i64 (C.getD k chgD).t) ∧ w.cell? ⟨g, k * 4 + 2, none⟩ = some (.bool (C.getD k chgD).set) ∧ w.cell? ⟨g, k * 4 + 3, none⟩ = some (.int .i64 (C.getD k chgD).n) := by
  obtain ⟨ad, c, rfl, h0, h1⟩ := h
  cases ad with
  | none => have := h0 rfl; omega
  | some a =>
    obtain ⟨g, rfl, hg⟩ := h1 a rfl
    obtain ⟨g1, g2⟩ := hg (by omega)
    have hf := flatC_get C k hk
    exact ⟨g, c, rfl, g1, g2 _ _ hf.1, g2 _ _ hf.2.1, g2 _ _ hf.2.2.1, g2 _ _ hf.2.2.2⟩
theorem RowC.form {w : World} {v : Value} {C : List ChgC} (h : RowC w v C) : ∃ ad c, v = .slice ad C.length c := by
  obtain ⟨ad, c, e, _⟩ := h
  exact ⟨ad, c, e⟩
/-- one change more, at a time -/
def ratStep (x : Int) (v : Int) (c : ChgC) : Int := if holdsI (c.f, c.t) x then (if c.set then boundU c.n else addF (byU c.n) v) else v
/-- the document's level at a time -/
def ratU (first : Int) (C : List ChgC) (t : Int) : Int := C.foldl (ratStep (if clampI t = 1099511627776 then 1099511627775 else clampI t)) (boundU first)
theorem w64_eq (n : Int) : IntKind.i64.wrap n = wrap64 n := by rw [IntKind.wrap_i64]; unfold wrap64; rfl
theorem rclampU_any (n : Int) (w : World) : Calls Try.prog 56 #[.int .i64 n] w fun e w' => e = .returned (.int .i64 (boundU n)) ∧ w = w' := by
  by_cases h1 : n < -1000000
  · have E : boundU n = -1000000 := by unfold boundU; rw [if_pos h1]
    have h2 : n ≤ 1000000 := by omega
    rw [E]
    go_enter Try.func56, Try.ntmps56
    go_wp2
    all_goals go_ret
    all_goals first | exact ⟨rfl, rfl⟩ | (refine ⟨ret_int ?_, rfl⟩; omega)
  · by_cases h2 : 1000000 < n
    · have E : boundU n = 1000000 := by unfold boundU; rw [if_neg h1, if_pos h2]
      rw [E]
      go_enter Try.func56, Try.ntmps56
      go_wp2
      all_goals go_ret
      all_goals first | exact ⟨rfl, rfl⟩ | (refine ⟨ret_int ?_, rfl⟩; omega)
    · have E : boundU n = n := boundU_id (by omega)
      rw [E]
      go_enter Try.func56, Try.ntmps56
      go_wp2
      all_goals go_ret
      all_goals first | exact ⟨rfl, rfl⟩ | (refine ⟨ret_int ?_, rfl⟩; omega)
theorem rclamp2_any (n : Int) (w : World) : Calls Try.prog 58 #[.int .i64 n] w fun e w' => e = .returned (.int .i64 (byU n)) ∧ w = w' := by
  by_cases h1 : n < -2000000
  · have E : byU n = -2000000 := by unfold byU; rw [if_pos h1]
    rw [E]
    go_enter Try.func58, Try.ntmps58
    go_wp2
    all_goals go_ret
    all_goals first | exact ⟨rfl, rfl⟩ | (refine ⟨ret_int ?_, rfl⟩; omega)
  · by_cases h2 : 2000000 < n
    · have E : byU n = 2000000 := by unfold byU; rw [if_neg h1, if_pos h2]
      rw [E]
      go_enter Try.func58, Try.ntmps58
      go_wp2
      all_goals go_ret
      all_goals first | exact ⟨rfl, rfl⟩ | (refine ⟨ret_int ?_, rfl⟩; omega)
    · have E : byU n = n := by unfold byU; rw [if_neg h1, if_neg h2]
      rw [E]
      go_enter Try.func58, Try.ntmps58
      go_wp2
      all_goals go_ret
      all_goals first | exact ⟨rfl, rfl⟩ | (refine ⟨ret_int ?_, rfl⟩; omega)
theorem fold_take {α : Type} (st : Int → α → Int) (z : Int) (C : List α) (d : α) {k : Nat} (hk : k < C.length) : (C.take (k + 1)).foldl st z = st ((C.take k).foldl st z) (C.getD k d) := by
  rw [List.take_add_one, List.foldl_append, List.getElem?_eq_getElem hk, List.getD_eq_getElem?_getD, List.getElem?_eq_getElem hk]
  rfl
set_option maxRecDepth 100000 in
set_option maxHeartbeats 4000000 in
theorem rat_any {w : World} {v : Value} {C : List ChgC} (h : RowC w v C) (hlen : C.length ≤ 4294967296) (first t : Int) :
    Calls Try.prog 17 #[.agg #[.int .i64 first, v], .int .i64 t] w fun e w' => e = .returned (.int .i64 (ratU first C t)) ∧ Below w.heap.size w w' := by
  obtain ⟨x, hx⟩ : ∃ x, x = (if clampI t = 1099511627776 then 1099511627775 else clampI t) := ⟨_, rfl⟩
  obtain ⟨res, hres⟩ : ∃ r, r = ratU first C t := ⟨_, rfl⟩
  rw [← hres]
  have HR := Lib.hid (show res = C.foldl (ratStep x) (boundU first) by rw [hres, hx]; rfl)
  have HX := Lib.hid hx
  clear hres hx
  obtain ⟨ad, cp, hv⟩ := h.form
  have hb0 := below_alloc (Below.refl _ w) (.cells #[.int .i64 first, v] 29)
  have n0 := World.alloc_heap_new w (.cells #[.int .i64 first, v] 29)
  have H := Lib.hid (fun W (hb : Below w.heap.size w W) => h.below hb)
  have KH := Lib.hid (fun f t x W => rholds_any f t x W)
  clear h
  subst hv
  go_enter Try.func17, Try.ntmps17
  go_upto_region 1 with fail
  generalize w.alloc (.cells #[.int .i64 first, .slice ad C.length cp] 29) = W at *
  have c0 := cell_of_block (o := 0) n0 rfl
  have c1 := cell_of_block (o := 1) n0 rfl
  go_wp2_with fail
  refine (rclamp_any t _).mono ?_
  rintro e w' ⟨rfl, rfl⟩
  go_upto_if 10 with fail
  go_cut [1] (fun s wx => s = .int .i64 x ∧ wx = W)
  case first =>
    by_cases hq : clampI t = 1099511627776
    case pos =>
      have hq1 : (clampI t == 1099511627776) = true := beq_iff_eq.2 hq
      have E := HX.out
      rw [if_pos hq] at E
      subst E
      go_wp2_with fail
      go_meet
      exact ⟨rfl, rfl⟩
    case neg =>
      have hq1 : (clampI t == 1099511627776) = false := beq_eq_false_iff_ne.2 hq
      have E := HX.out
      rw [if_neg hq] at E
      subst E
      go_wp2_with fail
      go_meet
      exact ⟨rfl, rfl⟩
  case rest =>
  obtain ⟨rfl, rfl⟩ := hcut
  clear HX
  go_wp2_with fail
  refine (rclampU_any first _).mono ?_
  rintro e w' ⟨rfl, rfl⟩
  have HN := Lib.hid n0
  have HB := Lib.hid hb0
  clear c0 c1 n0 hb0
  go_wp2_with fail
  go_loopw [5, 6] (fun z i wr => ∃ k : Nat, k ≤ C.length ∧ i = .int .i64 k ∧ z = .int .i64 ((C.take k).foldl (ratStep x) (boundU first)) ∧ Below w.heap.size w wr ∧ wr.heap[w.heap.size]? = some (.cells #[.int .i64 first, .slice ad C.length cp] 29 (0, 0))) (fun _ i _ => C.length - (intOf i).toNat)
  case atStart => exact ⟨0, by omega, rfl, rfl, HB.out, HN.out⟩
  case round =>
    obtain ⟨k, hk, rfl, rfl, hb, hn⟩ := hrel
    have c0 := cell_of_block (o := 0) hn rfl
    have c1 := cell_of_block (o := 1) hn rfl
    have hlt1 := (Array.getElem?_eq_some_iff.1 hn).1
    have HBr := Lib.hid hb
    have HNr := Lib.hid hn
    clear hb hn
    by_cases hlt : k < C.length
    case pos =>
      have hd : decide (k < C.length) = true := decide_eq_true hlt
      obtain ⟨g, cc, e0, hg, q0, q1, q2, q3⟩ := (H.out wr HBr.out).at hlt
      have e1 : ad = some ⟨g, 0, none⟩ := by injection e0
      subst e1
      have HS := Lib.hid (fold_take (ratStep x) (boundU first) C chgD hlt)
      generalize (C.take k).foldl (ratStep x) (boundU first) = z at *
      have hw1 : IntKind.i64.wrap ((k : Int) + 1) = ((k + 1 : Nat) : Int) := by rw [IntKind.wrap_i64]; omega
      have hix : (k : Int) < (C.length : Int) := by omega
      generalize C.getD k chgD = c at *
      obtain ⟨cf, ct, cs, cn⟩ := c
      simp only at q0 q1 q2 q3
      go_wp2_with fail
      refine (KH.out cf ct x _).mono ?_
      rintro e w2 ⟨rfl, hb2⟩
      have HB2 := Lib.hid (below_next HBr.out hb2)
      have n2 := (hb2.block _ hlt1).trans HNr.out
      have HN2 := Lib.hid n2
      have c0 := cell_of_block (o := 0) n2 rfl
      have c1 := cell_of_block (o := 1) n2 rfl
      have q2 := (hb2.cell (p := ⟨g, k * 4 + 2, none⟩) hg).trans q2
      have q3 := (hb2.cell (p := ⟨g, k * 4 + 3, none⟩) hg).trans q3
      clear hb2 n2 q0 q1
      cases hh : holdsI (cf, ct) x with
      | false =>
        have HV := Lib.hid (show ratStep x z ⟨cf, ct, cs, cn⟩ = z by unfold ratStep; simp only; rw [hh]; rfl)
        go_wp2_with fail
        exact ⟨⟨k + 1, by omega, rfl, by rw [HS.out, HV.out], HB2.out, HN2.out⟩, by show C.length - (((k + 1 : Nat) : Int)).toNat < C.length - ((k : Int)).toNat; omega⟩
      | true =>
        cases cs with
        | true =>
          have HV := Lib.hid (show ratStep x z ⟨cf, ct, true, cn⟩ = boundU cn by unfold ratStep; simp only; rw [hh]; rfl)
          go_wp2_with fail
          refine (rclampU_any cn _).mono ?_
          rintro e w' ⟨rfl, rfl⟩
          go_wp2_with fail
          exact ⟨⟨k + 1, by omega, rfl, by rw [HS.out, HV.out], HB2.out, HN2.out⟩, by show C.length - (((k + 1 : Nat) : Int)).toNat < C.length - ((k : Int)).toNat; omega⟩
        | false =>
          have HV := Lib.hid (show ratStep x z ⟨cf, ct, false, cn⟩ = boundU (wrap64 (z + byU cn)) by unfold ratStep addF; simp only; rw [hh, w64_eq]; simp)
          go_wp2_with fail
          refine (rclamp2_any cn _).mono ?_
          rintro e w' ⟨rfl, rfl⟩
          go_wp2_with fail
          refine (rclampU_any _ _).mono ?_
          rintro e w' ⟨rfl, rfl⟩
          go_wp2_with fail
          exact ⟨⟨k + 1, by omega, rfl, by rw [HS.out, HV.out], HB2.out, HN2.out⟩, by show C.length - (((k + 1 : Nat) : Int)).toNat < C.length - ((k : Int)).toNat; omega⟩
    case neg =>
      have hd : decide (k < C.length) = false := decide_eq_false hlt
      obtain rfl : k = C.length := by omega
      have HE := Lib.hid (show (C.take C.length).foldl (ratStep x) (boundU first) = res by rw [HR.out, List.take_length])
      rw [HE.out]
      go_wp2_with fail
      go_ret
      exact ⟨rfl, HBr.out⟩
theorem info_chg : (Try.prog.info? 100).map (fun i => (i.zero, i.size, i.bytes)) = some (some (.agg #[.int .i64 0, .int .i64 0, .bool false, .int .i64 0]), 4, 32) := by kernel_rfl
theorem eltC : Ap.Elt Try.prog 27 100 4 32 :=
  ⟨Try.underlying27, by obtain ⟨i, h1, h2, h3, h4⟩ := info_parts3 info_chg; exact ⟨i, _, h1, h2, h3, h4, rfl⟩, by decide⟩
theorem RowC.keep {w w' : World} {v x y : Value} {C : List ChgC} {B : Nat} {T : TypeId} (h : RowC w v C) (hB : w.heap[B]? = some (.cells #[x, y] T (0, 0))) (hy : (∃ a n c, y = .slice a n c) ∨ ∃ a n c, x = .slice a n c) (hs : w.heap.size ≤ w'.heap.size) (hk : ∀ g, g < w.heap.size → g ≠ B → w'.heap[g]? = w.heap[g]?) : RowC w' v C := by
  refine h.mono hs fun g hg hc hp => hk g hg ?_
  rintro rfl
  have hf := flatC_get C 0 hp
  have h0 := hc _ _ hf.1
  have h1 := hc _ _ hf.2.1
  have e0 := cell_of_block (o := 0) hB rfl
  have e1 := cell_of_block (o := 1) hB rfl
  rw [show 0 * 4 = 0 by omega] at h0
  rw [show 0 * 4 + 1 = 1 by omega] at h1
  rcases hy with ⟨a, n, c, rfl⟩ | ⟨a, n, c, rfl⟩
  · rw [h1] at e1; cases e1
  · rw [h0] at e0; cases e0
theorem RowC.keep1 {w w' : World} {v x : Value} {C : List ChgC} {B : Nat} {T : TypeId} (h : RowC w v C) (hB : w.heap[B]? = some (.cells #[x] T (0, 0))) (hy : ∃ a n c, x = .slice a n c) (hs : w.heap.size ≤ w'.heap.size) (hk : ∀ g, g < w.heap.size → g ≠ B → w'.heap[g]? = w.heap[g]?) : RowC w' v C := by
  refine h.mono hs fun g hg hc hp => hk g hg ?_
  rintro rfl
  have hf := flatC_get C 0 hp
  have h0 := hc _ _ hf.1
  have e0 := cell_of_block (o := 0) hB rfl
  rw [show 0 * 4 = 0 by omega] at h0
  obtain ⟨a, n, c, rfl⟩ := hy
  rw [h0] at e0; cases e0
end Go.Proofs.Ythdljigcfhjikaa
