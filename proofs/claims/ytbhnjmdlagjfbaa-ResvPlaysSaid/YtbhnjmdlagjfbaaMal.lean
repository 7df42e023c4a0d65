/- Laws that belong together: Reservations (layer 18), the document's: Drop. Conditions: the numbers rise; the length's bound.; Reservations (layer 18), the document's: Past. Condition: the length's bound.; Room (layer 11): Latest: the last time of a span. Conditions: the steps are right; the bounds of their number.; Room (layer 11): what Fits tells, by Words; the law's own play. Conditions: the steps are right.; The document's reservations (layer 18): is a list the document's. No condition but the rows'.; Reservations (layer 18): acts that come in as arguments. No condition. -/
import Derived.Test.YtbhnjmdlagjfbaaMak
import Derived.Test.YtbhnjmdlagjfbaaMad
import Derived.Test.YtbhnjmdlagjfbaaMab
import Derived.Test.YtbhnjmdlagjfbaaMai
import Derived.Test.YtbhnjmdlagjfbaaMag
import Derived.Deep.Slices
import Derived.WideShapes
import Derived.ChangeArms
namespace Go.Proofs.Ytbhnjmdlagjfbaa
set_option linter.unusedVariables false
open Go.ChangeShapes Go.WideShapes Go.ChangeAt Go.RowKit
attribute [local go_sem ↓] Go.wp_at_zero Go.wp_at_succ comesTo_value_eq comesTo_skip_eq comesTo_enter_eq

/-- a row of the document's reservations by its cells' type -/
def Ty18 (w : World) (v : Value) : Prop := ∀ g, v.ownBlock = some g → ∃ cs m, w.heap[g]? = some (.cells cs 118 m)
theorem Ty18.below {w w' : World} {v : Value} (h : Ty18 w v) (hb : Below w.heap.size w w') : Ty18 w' v := fun g hg => by
  obtain ⟨cs, m, e⟩ := h g hg
  exact ⟨cs, m, (hb.block g (Array.getElem?_eq_some_iff.1 e).1).trans e⟩
theorem own_ty {w : World} {B k : Nat} {v : Value} {xs : List Value} (h : w.ownsRow B 118 4 v k xs) : Ty18 w v := fun g hg => by
  rcases h.2 with ⟨rfl, _⟩ | ⟨g', cap, cur, rfl, _, hh, _⟩
  · cases hg
  · simp only [Value.ownBlock, Option.some.injEq] at hg
    subst hg
    exact ⟨_, _, hh⟩
theorem dropL_at {l : List RV} (h : l.Pairwise (fun a b => a.1 < b.1)) {k : Nat} (hk : k < l.length) {i : Int} (hi : (l.getD k zR).1 = i) : dropL l i = l.take k ++ l.drop (k + 1) := by
  have hg : l.getD k zR = l[k] := by simp [List.getD, List.getElem?_eq_getElem hk]
  rw [hg] at hi
  have e : l = l.take k ++ l[k] :: l.drop (k + 1) := by rw [List.getElem_cons_drop, List.take_append_drop]
  have h' := h
  rw [e, List.pairwise_append] at h'
  obtain ⟨_, h2, h3⟩ := h'
  rw [List.pairwise_cons] at h2
  unfold dropL
  conv => lhs; rw [e]
  rw [List.filter_append, List.filter_cons]
  rw [if_neg (by simp [hi])]
  rw [List.filter_eq_self.2, List.filter_eq_self.2]
  · intro r hr
    have := h2.1 r hr
    simp
    omega
  · intro r hr
    have := h3 r hr _ List.mem_cons_self
    simp
    omega
theorem dropL_none {l : List RV} {i : Int} (h : ∀ j, j < l.length → (l.getD j zR).1 ≠ i) : dropL l i = l := by
  unfold dropL
  rw [List.filter_eq_self]
  intro r hr
  obtain ⟨j, hj, rfl⟩ := List.getElem_of_mem hr
  have := h j hj
  simp only [List.getD, List.getElem?_eq_getElem hj, Option.getD_some] at this
  simpa using this
theorem dropR_at {l : List RV} (h : l.Pairwise (fun a b => a.1 < b.1)) {k : Nat} (hk : k < l.length) {i : Int} (hi : (l.getD k zR).1 = i) : dropR l i = (0, l.take k ++ l.drop (k + 1)) := by
  unfold dropR
  rw [dropL_at h hk hi, if_neg (by rw [List.length_append, List.length_take, List.length_drop]; omega)]
theorem dropR_none {l : List RV} {i : Int} (h : ∀ j, j < l.length → (l.getD j zR).1 ≠ i) : dropR l i = (13, l) := by
  unfold dropR
  rw [dropL_none h, if_pos rfl]
/-- a part of a row -/
theorem rd_part4 {w : World} {g c o n : Nat} {l m : List RV} (hg : g < w.heap.size) (hr : RowR w g l) (hm : m.length = n) (hlm : ∀ j, j < n → o + j < l.length ∧ l.getD (o + j) zR = m.getD j zR) : Ap.RdG w 4 (.slice (some ⟨g, o * 4, none⟩) n c) n (flatR m) := by
  refine ⟨⟨_, c, rfl, (fun h => by cases h), fun a ha j u hj => ?_, fun a ha _ => by cases ha; exact hg⟩, by rw [flatR_len, hm], flatR_one m⟩
  cases ha
  have hadd : (⟨g, o * 4, none⟩ : Addr).add j = ⟨g, o * 4 + j, none⟩ := by unfold Addr.add; split <;> simp_all
  rw [hadd]
  have hjl : j < m.length * 4 := by
    rw [← flatR_len m]
    rcases Nat.lt_or_ge j (flatR m).length with h1 | h1
    · exact h1
    · rw [List.getElem?_eq_none h1] at hj; cases hj
  have hk : j / 4 < m.length := by omega
  obtain ⟨h2, h3⟩ := hlm (j / 4) (by omega)
  obtain ⟨a, b, c, d⟩ := flatR_get m (j / 4) hk
  obtain ⟨a', b', c', d'⟩ := hr (o + j / 4) h2
  rw [h3] at a' b' c' d'
  rcases (by omega : j = j / 4 * 4 ∨ j = j / 4 * 4 + 1 ∨ j = j / 4 * 4 + 2 ∨ j = j / 4 * 4 + 3) with e | e | e | e
  · rw [e, a] at hj; rw [← hj, show o * 4 + j = (o + j / 4) * 4 by omega]; exact a'
  · rw [e, b] at hj; rw [← hj, show o * 4 + j = (o + j / 4) * 4 + 1 by omega]; exact b'
  · rw [e, c] at hj; rw [← hj, show o * 4 + j = (o + j / 4) * 4 + 2 by omega]; exact c'
  · rw [e, d] at hj; rw [← hj, show o * 4 + j = (o + j / 4) * 4 + 3 by omega]; exact d'
/-- the list's box and the result's -/
structure Bx18 (w X : World) (n : Int) (v : Value) : Prop where
  blk : X.heap[w.heap.size]? = some (.cells #[.int .i64 n, v] 35 (0, 0))
  res : X.heap[w.heap.size + 1]? = some (.cells #[.int .i64 0, .slice none 0 0] 35 (0, 0))
  bel : Below w.heap.size w X
theorem Bx18.start (w : World) (n : Int) (v : Value) : Bx18 w ((w.alloc (.cells #[.int .i64 n, v] 35)).alloc (.cells #[.int .i64 0, .slice none 0 0] 35)) n v := by
  have b1 := below_alloc (Below.refl _ w) (.cells #[.int .i64 n, v] 35)
  have n1 := World.alloc_heap_new w (.cells #[.int .i64 n, v] 35)
  have b2 := below_alloc (Below.refl _ (w.alloc (.cells #[.int .i64 n, v] 35))) (.cells #[.int .i64 0, .slice none 0 0] 35)
  have n2 := World.alloc_heap_new (w.alloc (.cells #[.int .i64 n, v] 35)) (.cells #[.int .i64 0, .slice none 0 0] 35)
  rw [World.size_alloc] at n2
  exact ⟨(b2.block _ (by simp)).trans n1, n2, below_next b1 b2⟩
theorem Bx18.below {w X X' : World} {n : Int} {v : Value} (h : Bx18 w X n v) (hb : Below X.heap.size X X') : Bx18 w X' n v :=
  ⟨(hb.block _ (Array.getElem?_eq_some_iff.1 h.blk).1).trans h.blk, (hb.block _ (Array.getElem?_eq_some_iff.1 h.res).1).trans h.res, below_next h.bel hb⟩
theorem Bx18.lt {w X : World} {n : Int} {v : Value} (h : Bx18 w X n v) : w.heap.size + 1 < X.heap.size := (Array.getElem?_eq_some_iff.1 h.res).1
set_option maxRecDepth 100000 in
set_option maxHeartbeats 8000000 in
theorem rdrop18_any {w : World} {v : Value} {l : List RV} (h : RdR w v l) (hl : l.length ≤ 8) (hinc : l.Pairwise (fun a b => a.1 < b.1)) (n i : Int) :
    Calls Try.prog 17 #[.agg #[.int .i64 n, v], .int .i64 i] w fun e w' => ∃ v', e = .returned (.tuple #[.agg #[.int .i64 n, v'], .int .i64 (dropR l i).1]) ∧ RdR w' v' (dropR l i).2 ∧ Below w.heap.size w w' ∧ (Ty18 w v → Ty18 w' v') := by
  have hmx : Try.prog.follows .mixedOrders = true := by kernel_rfl
  have HRD := Lib.hid (fun (X : World) (hX : Below w.heap.size w X) => h.below hX)
  have HB0 := Lib.hid (Bx18.start w n v)
  have HL := Lib.hid hl
  have HI := Lib.hid hinc
  obtain ⟨ad, c, rfl, h2, h3, h4⟩ := h
  have H4 := Lib.hid h4
  have HCAP := Lib.hid h2
  obtain ⟨len, hlen⟩ : ∃ x, x = l.length := ⟨_, rfl⟩
  have HLEN := Lib.hid hlen
  rw [← hlen] at HB0 HL HCAP H4 HRD ⊢
  obtain ⟨res, hres⟩ : ∃ r, r = dropR l i := ⟨_, rfl⟩
  rw [← hres]
  have HRES := Lib.hid hres
  clear hl hinc h2 h3 h4 hlen hres
  go_enter Try.func17, Try.ntmps17
  go_upto_region 1 with fail
  generalize (w.alloc (.cells #[.int .i64 n, .slice ad len c] 35)).alloc (.cells #[.int .i64 0, .slice none 0 0] 35) = W1 at *
  have q1 : W1.cell? ⟨w.heap.size, 1, none⟩ = some (.slice ad len c) := cell_of_block (o := 1) HB0.out.blk rfl
  by_cases h0 : 0 < len
  case neg =>
    obtain rfl : len = 0 := by omega
    have HN := Lib.hid (dropR_none (l := l) (i := i) (fun j hj => by have := HLEN.out; omega))
    have HE := Lib.hid (HRES.out.trans HN.out)
    go_wp2_with fail
    go_loopw [6] (fun i wr => i = .int .i64 0 ∧ wr = W1) (fun _ _ => 0)
    case atStart => exact ⟨rfl, rfl⟩
    case round =>
      obtain ⟨rfl, rfl⟩ := hrel
      have hd : decide ((0 : Int) < 0) = false := by decide
      go_upto_region 7 with fail
      refine wp_region_lit ?_
      refine wpList_load_all rfl 35 _ rfl w.heap.size [.int .i64 n, .slice ad 0 c] _ (by go_simp) HB0.out.blk Try.underlying35 rfl (by kernel_rfl) ?_
      refine wpList_store_all rfl 35 _ _ rfl (w.heap.size + 1) (T := 35) [.int .i64 n, .slice ad 0 c] (by go_simp) (by go_simp) HB0.out.res rfl (by kernel_rfl) rfl ?_
      intro w8 hw8
      have HW8 := Lib.hid hw8.there
      have HB8 := Lib.hid (hw8.below HB0.out.bel (by omega))
      have HR8 := Lib.hid (HRD.out w8 HB8.out)
      have HT8 := Lib.hid (fun (h : Ty18 w (.slice ad 0 c)) => h.below HB8.out)
      clear hw8
      go_wp2_with fail
      exact bodyPost_ret (results_all2 [.int .i64 n, .slice ad 0 c] _ Try.results17 (by go_simp) HW8.out Try.underlying35 rfl (by kernel_rfl)) rfl ⟨_, by rw [HE.out]; first | done | rfl, by rw [HE.out]; exact HR8.out, HB8.out, HT8.out⟩
  case pos =>
  obtain ⟨g, rfl, hg, hrow⟩ := H4.out h0
  have HG := Lib.hid hg
  have HROW := Lib.hid (fun (X : World) (hX : X.heap[g]? = w.heap[g]?) => hrow.mono hX)
  clear hg hrow H4
  go_wp2_with fail
  go_loopw [6] (fun x wr => ∃ k : Nat, k ≤ len ∧ x = .int .i64 k ∧ (∀ j, j < k → (l.getD j zR).1 ≠ i) ∧ wr = W1) (fun x _ => len - (intOf x).toNat)
  case atStart => exact ⟨0, Nat.zero_le _, rfl, (fun j hj => by omega), rfl⟩
  case round =>
    obtain ⟨k, hk, rfl, hno, rfl⟩ := hrel
    have HNO := Lib.hid hno
    clear hno
    by_cases hlt : k < len
    case pos =>
      have hd : decide (k < len) = true := decide_eq_true hlt
      have hd2 : decide ((k : Int) < (len : Int)) = true := decide_eq_true (by omega)
      have hkl : (k : Int) < (len : Int) := by omega
      have hw1 : IntKind.i64.wrap ((k : Int) + 1) = (k : Int) + 1 := by have := HL.out; rw [IntKind.wrap_i64]; omega
      have HK := Lib.hid hlt
      have hkL : k < l.length := by rw [← HLEN.out]; exact hlt
      have HKL := Lib.hid hkL
      obtain ⟨x0, _, _, _⟩ := HROW.out wr (HB0.out.bel.block g HG.out) k hkL
      have HD := Lib.hid (fun hi => dropR_at HI.out hkL (i := i) hi)
      have HNX := Lib.hid (fun (hne : (l.getD k zR).1 ≠ i) => (show ∀ j, j < k + 1 → (l.getD j zR).1 ≠ i from fun j hj => by
        rcases Nat.lt_or_ge j k with h | h
        · exact HNO.out j h
        · rw [show j = k by omega]; exact hne))
      clear hkL hk
      generalize (l.getD k zR).1 = r1 at *
      by_cases he : r1 = i
      case neg =>
        have d1 : (r1 == i) = false := by simpa using he
        have HNX2 := Lib.hid (HNX.out he)
        clear HNX he HD
        go_wp2_with fail
        go_roundw
        case rel => exact ⟨k + 1, by have := HK.out; omega, by go_num, HNX2.out, by first | exact rfl | trivial⟩
        case measure => have := HK.out; simp [intOf]; omega
      case pos =>
        have d1 : (r1 == i) = true := by simpa using he
        have HE0 := Lib.hid (HRES.out.trans (HD.out he))
        clear HNX he HD HNO
        go_upto_region 5 with fail
        clear x0 d1
        refine Ap.wp_region_K (S1 := fun _ => True) (S2 := fun X => X.cell? ⟨w.heap.size, 1, none⟩ = some (.slice (some ⟨g, 0, none⟩) len c)) (js := 13) hmx ?_
        change Ap.wpAnyK _ _ _ _ _ _ _ 14 _ _ wr.drew
        have HBd := Lib.hid (HB0.out.below (show Below wr.heap.size wr wr.drew from (Below.refl _ _).drew))
        clear q1
        generalize wr.drew = W0 at *
        have hcap : len ≤ c := HCAP.out
        clear hw1
        obtain ⟨k1, hk1e⟩ : ∃ k1, k1 = k + 1 := ⟨_, rfl⟩
        have HK1 := Lib.hid hk1e
        have hw1 : IntKind.i64.wrap ((k : Int) + 1) = (k1 : Int) := by have := HL.out; rw [IntKind.wrap_i64]; omega
        have hk1 : k1 ≤ len := by omega
        have hk2 : (k1 : Int) ≤ (len : Int) := by omega
        have hk3 : k1 ≤ c := by omega
        have hk4 : (k1 : Int) ≤ (c : Int) := by omega
        have hk5 : k ≤ c := by omega
        have hk6 : (k : Int) ≤ (c : Int) := by omega
        have hk7 : (len : Int) ≤ (c : Int) := by omega
        clear hk1e
        have hSS : (fun _ : World => True) W0 ∧ (fun X : World => X.cell? ⟨w.heap.size, 1, none⟩ = some (.slice (some ⟨g, 0, none⟩) len c)) W0 := ⟨trivial, cell_of_block (o := 1) HBd.out.blk rfl⟩
        refine Ap.wpAnyK_take1 (i := 1) (v := .pointer (some ⟨w.heap.size, 1, none⟩)) rfl (by decide) (by decide +kernel) (by decide +kernel) (by decide +kernel) (fun _ _ _ h => h) (.inl ⟨by first | rfl | (go_simp; done), fun X hX => by clear hX; first | (go_simp; done) | (go_simp; rfl) | (go_simp; simp; omega)⟩) hSS ?_
        refine Ap.wpAnyK_take2 (i := 2) (v := .slice (some ⟨g, 0, none⟩) len c) rfl (by decide) (by decide +kernel) (by decide +kernel) (by decide +kernel) rfl (by decide +kernel) (by decide +kernel) (fun _ _ _ h => h) (.inl ⟨by first | rfl | (go_simp; done), fun X hX => by have hx1 := hX.2; clear hX; first | (go_simp; done) | (go_simp; rfl)⟩) hSS ?_
        refine Ap.wpAnyK_take1 (i := 3) (v := .int .i64 k) rfl (by decide) (by decide +kernel) (by decide +kernel) (by decide +kernel) (fun _ _ _ h => h) (.inl ⟨by first | rfl | (go_simp; done), fun X hX => by clear hX; first | (go_simp; done) | (go_simp; rfl) | (go_simp; simp; omega)⟩) hSS ?_
        refine Ap.wpAnyK_take1 (i := 4) (v := .slice (some ⟨g, 0, none⟩) k c) rfl (by decide) (by decide +kernel) (by decide +kernel) (by decide +kernel) (fun _ _ _ h => h) (.inl ⟨by first | rfl | (go_simp; done), fun X hX => by clear hX; first | (go_simp; done) | (go_simp; rfl) | (go_simp; simp; omega)⟩) hSS ?_
        refine Ap.wpAnyK_take1 (i := 6) (v := .pointer (some ⟨w.heap.size, 1, none⟩)) rfl (by decide) (by decide +kernel) (by decide +kernel) (by decide +kernel) (fun _ _ _ h => h) (.inl ⟨by first | rfl | (go_simp; done), fun X hX => by clear hX; first | (go_simp; done) | (go_simp; rfl) | (go_simp; simp; omega)⟩) hSS ?_
        refine Ap.wpAnyK_take2 (i := 7) (v := .slice (some ⟨g, 0, none⟩) len c) rfl (by decide) (by decide +kernel) (by decide +kernel) (by decide +kernel) rfl (by decide +kernel) (by decide +kernel) (fun _ _ _ h => h) (.inl ⟨by first | rfl | (go_simp; done), fun X hX => by have hx1 := hX.2; clear hX; first | (go_simp; done) | (go_simp; rfl)⟩) hSS ?_
        refine Ap.wpAnyK_take1 (i := 8) (v := .int .i64 k) rfl (by decide) (by decide +kernel) (by decide +kernel) (by decide +kernel) (fun _ _ _ h => h) (.inl ⟨by first | rfl | (go_simp; done), fun X hX => by clear hX; first | (go_simp; done) | (go_simp; rfl) | (go_simp; simp; omega)⟩) hSS ?_
        refine Ap.wpAnyK_take1 (i := 9) (v := .int .i64 (k1 : Int)) rfl (by decide) (by decide +kernel) (by decide +kernel) (by decide +kernel) (fun _ _ _ h => h) (.inl ⟨by first | rfl | (go_simp; done), fun X hX => by clear hX; first | (go_simp; done) | (go_simp; rfl) | (go_simp; simp; omega)⟩) hSS ?_
        refine Ap.wpAnyK_take1 (i := 10) (v := .slice (if c = k1 then some ⟨g, 0, none⟩ else some ⟨g, k1 * 4, none⟩) (len - k1) (c - k1)) rfl (by decide) (by decide +kernel) (by decide +kernel) (by decide +kernel) (fun _ _ _ h => h) (.inl ⟨by first | rfl | (go_simp; done), fun X hX => by clear hX; first | (go_simp; done) | (go_simp; rfl) | (go_simp; simp; omega)⟩) hSS ?_
        clear hSS
        have hrow0 := HROW.out W0 (HBd.out.bel.block g HG.out)
        have hgl : g < W0.heap.size := Nat.lt_of_lt_of_le HG.out HBd.out.bel.size
        have rd1 : Ap.RdG W0 4 (.slice (some ⟨g, 0, none⟩) k c) k (flatR (l.take k)) := by
          have := rd_part4 (o := 0) (c := c) (n := k) (m := l.take k) hgl hrow0 (by rw [List.length_take]; have := HKL.out; omega) (fun j hj => ⟨by have := HKL.out; omega, by simp [List.getD_eq_getElem?_getD, List.getElem?_take, hj]⟩)
          simpa using this
        have rd2 : Ap.RdG W0 4 (.slice (if c = k1 then some ⟨g, 0, none⟩ else some ⟨g, k1 * 4, none⟩) (len - k1) (c - k1)) (len - k1) (flatR (l.drop k1)) := by
          by_cases hck : c = k1
          · rw [if_pos hck]
            have := rd_part4 (o := 0) (c := c - k1) (n := len - k1) (m := l.drop k1) hgl hrow0 (by rw [List.length_drop, HLEN.out]) (fun j hj => by omega)
            simpa using this
          · rw [if_neg hck]
            exact rd_part4 hgl hrow0 (by rw [List.length_drop, HLEN.out]) (fun j hj => ⟨by have := HLEN.out; omega, by simp [List.getD_eq_getElem?_getD, List.getElem?_drop]⟩)
        clear hrow0
        have ba := below_alloc (Below.refl _ W0) (.cells #[] 118)
        have hO := Ap.own_made W0 118 (size := 4) (Nat.le_refl W0.heap.size)
        have HBa := Lib.hid (HBd.out.below ba)
        refine Ap.anyK_val1 (i := 0) (v := .slice (some ⟨W0.heap.size, 0, none⟩) 0 0) (w' := W0.alloc (.cells #[] 118)) (by decide +kernel) rfl rfl (by first | (go_simp; done) | (go_simp; rfl)) ⟨trivial, cell_of_block (o := 1) HBa.out.blk rfl⟩ ?_
        obtain ⟨v1, W2, g0, g1, g2, g3⟩ := Ap.run_app eltR18 33 W0.heap.size _ 0 [] hO _ k (flatR (l.take k)) (rd1.mono ba) (by unfold maxLen; have := HL.out; have := HK.out; have := HK1.out; omega) (by have := HL.out; have := HK.out; have := HK1.out; omega) ba.size
        rw [Nat.zero_add, List.nil_append] at g1
        obtain ⟨a1, c1, rfl⟩ := own_formR g1
        have bb := ba.trans g3
        have HB2 := Lib.hid (HBd.out.below bb)
        refine Ap.anyK_val1 (i := 5) (v := .slice a1 k c1) (w' := W2) (by decide +kernel) rfl rfl (Ap.exec_app rfl (by go_simp) (by go_simp) g0) ⟨trivial, cell_of_block (o := 1) HB2.out.blk rfl⟩ ?_
        obtain ⟨v2, W3, j0, j1, j2, j3⟩ := Ap.run_app eltR18 33 W0.heap.size _ k _ g1 _ (len - k1) (flatR (l.drop k1)) (rd2.mono bb) (by unfold maxLen; have := HL.out; have := HK.out; have := HK1.out; omega) (by have := HL.out; have := HK.out; have := HK1.out; omega) bb.size
        obtain ⟨a2, c2, rfl⟩ := own_formR j1
        have bc := bb.trans j3
        have HB3 := Lib.hid (HBd.out.below bc)
        refine Ap.anyK_val1 (i := 11) (v := .slice a2 (k + (len - k1)) c2) (w' := W3) (by decide +kernel) rfl rfl (Ap.exec_app rfl (by go_simp) (by go_simp) j0) ⟨trivial, cell_of_block (o := 1) HB3.out.blk rfl⟩ ?_
        refine Ap.anyK_val1 (i := 12) (v := .pointer (some ⟨w.heap.size, 1, none⟩)) (w' := W3) (by decide +kernel) rfl rfl (by first | (go_simp; done) | (go_simp; rfl)) ⟨trivial, cell_of_block (o := 1) HB3.out.blk rfl⟩ ?_
        have HO3 := Lib.hid (show W3.ownsRow W0.heap.size 118 4 (.slice a2 (k + (len - k1)) c2) (k + (len - k1)) (flatR (l.take k ++ l.drop k1)) from by rw [flatR_app]; exact j1)
        have HLT := Lib.hid HBd.out.lt
        have z0 := cell_of_block (o := 1) HB3.out.blk rfl
        have z1 := free_of_block 1 HB3.out.blk
        have hw := (wrote_refl HB3.out.blk).set 1 (.slice a2 (k + (len - k1)) c2)
        have HB4 := Lib.hid (show Bx18 w (W3.setCell ⟨w.heap.size, 1, none⟩ (.slice a2 (k + (len - k1)) c2)) n (.slice a2 (k + (len - k1)) c2) from ⟨hw.there, (hw.rest _ (by omega)).trans HB3.out.res, hw.below HB3.out.bel (Nat.le_refl _)⟩)
        have HO4 := Lib.hid (Ap.own_keep HO3.out (w' := W3.setCell ⟨w.heap.size, 1, none⟩ (.slice a2 (k + (len - k1)) c2)) fun j hj => hw.rest j (by have := Ap.own_blk HO3.out j hj; have := HLT.out; omega))
        clear rd1 rd2 ba hO g0 g1 g2 g3 bb j0 j1 j2 j3 bc hw hcap hk1 hk2 hk3 hk4 hk5 hk6 hk7
        refine Ap.anyK_store (i := 13) (w' := W3.setCell ⟨w.heap.size, 1, none⟩ (.slice a2 (k + (len - k1)) c2)) (by decide +kernel) rfl rfl (by decide +kernel) (by first | (go_simp; done) | (go_simp; rfl)) trivial ?_
        clear z0 z1
        have HM := Lib.hid (show (l.take k ++ l.drop k1).length = k + (len - k1) from by rw [List.length_append, List.length_take, List.length_drop]; have := HLEN.out; have := HKL.out; have := HK1.out; omega)
        have HE := Lib.hid (show res = (0, l.take k ++ l.drop k1) from by rw [HK1.out]; exact HE0.out)
        generalize k + (len - k1) = m2 at *
        generalize W3.setCell ⟨w.heap.size, 1, none⟩ (.slice a2 m2 c2) = W4 at *
        generalize (if c = k1 then some (⟨g, 0, none⟩ : Addr) else some ⟨g, k1 * 4, none⟩) = adx at *
        refine Ap.wpAnyK_done (by decide +kernel) ?_ _
        go_simp
        go_upto_region 6 with fail
        refine wp_region_lit ?_
        refine wpList_load_all rfl 35 _ rfl w.heap.size [.int .i64 n, .slice a2 m2 c2] _ (by go_simp) HB4.out.blk Try.underlying35 rfl (by kernel_rfl) ?_
        refine wpList_store_all rfl 35 _ _ rfl (w.heap.size + 1) (T := 35) [.int .i64 n, .slice a2 m2 c2] (by go_simp) (by go_simp) HB4.out.res rfl (by kernel_rfl) rfl ?_
        intro w8 hw8
        have HW8 := Lib.hid hw8.there
        have HB8 := Lib.hid (hw8.below HB4.out.bel (by omega))
        have HR8 := Lib.hid (own_rdR HM.out (Ap.own_keep HO4.out fun j hj => hw8.rest j (by have := Ap.own_blk HO4.out j hj; have := HLT.out; omega)))
        have HT8 := Lib.hid (fun (_ : Ty18 w (.slice (some ⟨g, 0, none⟩) len c)) => own_ty (Ap.own_keep HO4.out fun j hj => hw8.rest j (by have := Ap.own_blk HO4.out j hj; have := HLT.out; omega)))
        clear hw8
        go_wp2_with fail
        exact bodyPost_ret (results_all2 [.int .i64 n, .slice a2 m2 c2] _ Try.results17 (by go_simp) HW8.out Try.underlying35 rfl (by kernel_rfl)) rfl ⟨_, by rw [HE.out]; first | done | rfl, by rw [HE.out]; exact HR8.out, HB8.out, HT8.out⟩
    case neg =>
      obtain rfl : k = len := by omega
      have hd : decide (k < k) = false := decide_eq_false (by omega)
      have hd2 : decide ((k : Int) < (k : Int)) = false := decide_eq_false (by omega)
      have HN := Lib.hid (dropR_none (l := l) (i := i) (fun j hj => HNO.out j (by have := HLEN.out; omega)))
      have HE := Lib.hid (HRES.out.trans HN.out)
      clear hlt hk
      go_upto_region 7 with fail
      refine wp_region_lit ?_
      refine wpList_load_all rfl 35 _ rfl w.heap.size [.int .i64 n, .slice (some ⟨g, 0, none⟩) k c] _ (by go_simp) HB0.out.blk Try.underlying35 rfl (by kernel_rfl) ?_
      refine wpList_store_all rfl 35 _ _ rfl (w.heap.size + 1) (T := 35) [.int .i64 n, .slice (some ⟨g, 0, none⟩) k c] (by go_simp) (by go_simp) HB0.out.res rfl (by kernel_rfl) rfl ?_
      intro w8 hw8
      have HW8 := Lib.hid hw8.there
      have HB8 := Lib.hid (hw8.below HB0.out.bel (by omega))
      have HR8 := Lib.hid (HRD.out w8 HB8.out)
      have HT8 := Lib.hid (fun (h : Ty18 w (.slice (some ⟨g, 0, none⟩) k c)) => h.below HB8.out)
      clear hw8
      go_wp2_with fail
      exact bodyPost_ret (results_all2 [.int .i64 n, .slice (some ⟨g, 0, none⟩) k c] _ Try.results17 (by go_simp) HW8.out Try.underlying35 rfl (by kernel_rfl)) rfl ⟨_, by rw [HE.out]; first | done | rfl, by rw [HE.out]; exact HR8.out, HB8.out, HT8.out⟩
end Go.Proofs.Ytbhnjmdlagjfbaa
namespace Go.Proofs.Ytbhnjmdlagjfbaa
set_option linter.unusedVariables false
open Go.ChangeShapes Go.WideShapes Go.ChangeAt Go.RowKit
attribute [local go_sem ↓] Go.wp_at_zero Go.wp_at_succ comesTo_value_eq comesTo_skip_eq comesTo_enter_eq

theorem pastL_take (now : Int) (l : List RV) {k : Nat} (hk : k < l.length) : pastL now (l.take (k + 1)) = pastL now (l.take k) ++ (if now < (l.getD k zR).2.2.1 then [l.getD k zR] else []) := by
  unfold pastL
  rw [List.take_succ_eq_append_getElem hk, List.filter_append, show l.getD k zR = l[k] by simp [List.getD, List.getElem?_eq_getElem hk]]
  congr 1
  rw [List.filter_cons]
  by_cases h : now < l[k].2.2.1
  · simp [h]
  · simp [h]
theorem pastL_le (now : Int) (l : List RV) : (pastL now l).length ≤ l.length := List.length_filter_le _ _
theorem goneR_le (now : Int) (l : List RV) : (goneR now l).length ≤ l.length := by unfold goneR; rw [List.length_map]; exact List.length_filter_le _ _
theorem ownZ_base {w : World} {B B' : Nat} {v : Value} {l : List Int} (h : w.ownsRow B 3 1 v l.length (l.map (Value.int .i64))) (hB : B' ≤ B := by omega) : OwnZ w B' v l := by
  refine ⟨h.1, ?_⟩
  rcases h.2 with hn | ⟨g, cap, cur, hv, h1, rest⟩
  · exact .inl hn
  · exact .inr ⟨g, cap, cur, hv, by omega, rest⟩
/-- where it stands: those that are gone, those that stay -/
structure Ps18 (w X : World) (n : Int) (v vo vr : Value) (ids : List Int) (rs : List RV) (a b : Nat) : Prop where
  bx : Bx18 w X n v
  ro : X.ownsRow (w.heap.size + 2) 3 1 vo a (ids.map (Value.int .i64))
  rr : X.ownsRow (w.heap.size + 2) 118 4 vr b (flatR rs)
  ap : ∀ g, vo.ownBlock = some g → vr.ownBlock ≠ some g
theorem Ps18.stepO {w W : World} {n : Int} {v vo vr : Value} {ids : List Int} {rs : List RV} {a b : Nat} (h : Ps18 w W n v vo vr ids rs a b) (ha : a < 64) (x : Int) (ty : TypeId) :
    ∃ a2 c2 Wb, (Builtin.append_ #[53, 53] ty #[vo, .slice (some ⟨W.heap.size, 0, none⟩) 1 1]).run Try.prog (W.alloc (.cells #[.int .i64 x] 3)) = .ok (.slice a2 (a + 1) c2) Wb ∧
      Ps18 w Wb n v (.slice a2 (a + 1) c2) vr (ids ++ [x]) rs (a + 1) b := by
  have hB := h.bx.lt
  obtain ⟨v', Wb, g0, g1, g2, g3, g4, g5⟩ := Ao.app_one eltZ ty h.ro [.int .i64 x] rfl (by intro u hu; simp at hu; subst hu; rfl) (by omega) (by decide) hB
  obtain ⟨a2, c2, rfl⟩ := own_formR g1
  have hR := Ap.own_lt h.rr
  refine ⟨a2, c2, Wb, g0, ⟨⟨(g5.block _ (by omega)).trans h.bx.blk, (g5.block _ (by omega)).trans h.bx.res, h.bx.bel.trans (g5.mono (by omega))⟩, ?_, ?_, fun g hg hg2 => ?_⟩⟩
  · rw [List.map_append]
    exact g1
  · exact Ap.own_keep h.rr fun g hg => g2 g (hR g hg) fun e => h.ap g e hg
  · rcases g4 g hg with h1 | h1
    · exact h.ap g h1 hg2
    · have := hR g hg2; omega
theorem Ps18.stepR {w W : World} {n : Int} {v vo vr : Value} {ids : List Int} {rs : List RV} {a b : Nat} (h : Ps18 w W n v vo vr ids rs a b) (hb : b < 64) (r : RV) (ty : TypeId) :
    ∃ a2 c2 Wb, (Builtin.append_ #[33, 33] ty #[vr, .slice (some ⟨W.heap.size, 0, none⟩) 1 1]).run Try.prog (W.alloc (.cells #[.int .i64 r.1, .int .i64 r.2.1, .int .i64 r.2.2.1, .int .i64 r.2.2.2] 118)) = .ok (.slice a2 (b + 1) c2) Wb ∧
      Ps18 w Wb n v vo (.slice a2 (b + 1) c2) ids (rs ++ [r]) a (b + 1) := by
  have hB := h.bx.lt
  obtain ⟨v', Wb, g0, g1, g2, g3, g4, g5⟩ := Ao.app_one eltR18 ty h.rr (cellR r) rfl (cellR_one r) (by omega) (by decide) hB
  obtain ⟨a2, c2, rfl⟩ := own_formR g1
  have hO := Ap.own_lt h.ro
  refine ⟨a2, c2, Wb, g0, ⟨⟨(g5.block _ (by omega)).trans h.bx.blk, (g5.block _ (by omega)).trans h.bx.res, h.bx.bel.trans (g5.mono (by omega))⟩, ?_, ?_, fun g hg hg2 => ?_⟩⟩
  · exact Ap.own_keep h.ro fun g hg => g2 g (hO g hg) fun e => h.ap g hg e
  · rw [flatR_snoc]
    exact g1
  · rcases g4 g hg2 with h1 | h1
    · exact h.ap g hg h1
    · have := hO g hg; omega
set_option maxRecDepth 100000 in
set_option maxHeartbeats 8000000 in
theorem rpast18_any {w : World} {v : Value} {l : List RV} (h : RdR w v l) (hl : l.length ≤ 8) (n now : Int) :
    Calls Try.prog 19 #[.agg #[.int .i64 n, v], .int .i64 now] w fun e w' => ∃ v' vo, e = .returned (.tuple #[.agg #[.int .i64 n, v'], vo]) ∧ RdR w' v' (pastL now l) ∧ OwnZ w' w.heap.size vo (goneR now l) ∧ Below w.heap.size w w' ∧ Ty18 w' v' := by
  have HB0 := Lib.hid (Bx18.start w n v)
  have HL := Lib.hid hl
  obtain ⟨ad, c, rfl, h2, h3, h4⟩ := h
  have H4 := Lib.hid h4
  obtain ⟨len, hlen⟩ : ∃ x, x = l.length := ⟨_, rfl⟩
  have HLEN := Lib.hid hlen
  rw [← hlen] at HB0 HL H4 ⊢
  clear hl h2 h3 h4 hlen
  go_enter Try.func19, Try.ntmps19
  go_upto_region 1 with fail
  generalize (w.alloc (.cells #[.int .i64 n, .slice ad len c] 35)).alloc (.cells #[.int .i64 0, .slice none 0 0] 35) = W1 at *
  have HPS0 := Lib.hid (show Ps18 w W1 n (.slice ad len c) (.slice none 0 0) (.slice none 0 0) [] [] 0 0 from ⟨HB0.out, World.ownsRow_nil _ _ _ _, World.ownsRow_nil _ _ _ _, fun g hg => by cases hg⟩)
  by_cases h0 : 0 < len
  case neg =>
    obtain rfl : len = 0 := by omega
    have hln : l = [] := List.eq_nil_of_length_eq_zero HLEN.out.symm
    subst hln
    go_wp2_with fail
    go_loopw [6, 7, 8] (fun x y i wr => x = .slice none 0 0 ∧ y = .slice none 0 0 ∧ i = .int .i64 0 ∧ wr = W1) (fun _ _ _ _ => 0)
    case atStart => exact ⟨rfl, rfl, rfl, rfl⟩
    case round =>
      obtain ⟨rfl, rfl, rfl, rfl⟩ := hrel
      have hd : decide ((0 : Int) < 0) = false := by decide
      have q1 : wr.cell? ⟨w.heap.size, 1, none⟩ = some (.slice ad 0 c) := cell_of_block (o := 1) HB0.out.blk rfl
      have HB0X := Lib.hid HB0.out
      have f1 := free_of_block 1 HB0X.out.blk
      have hw := (wrote_refl HB0X.out.blk).set 1 (.slice none 0 0)
      have HB4 := Lib.hid (show Bx18 w (wr.setCell ⟨w.heap.size, 1, none⟩ (.slice none 0 0)) n (.slice none 0 0) from ⟨hw.there, (hw.rest _ (by omega)).trans HB0X.out.res, hw.below HB0X.out.bel (Nat.le_refl _)⟩)
      have HO4 := Lib.hid (Ap.own_keep HPS0.out.ro (w' := wr.setCell ⟨w.heap.size, 1, none⟩ (.slice none 0 0)) fun j hj => hw.rest j (by have := Ap.own_blk HPS0.out.ro j hj; omega))
      have HR4 := Lib.hid (Ap.own_keep HPS0.out.rr (w' := wr.setCell ⟨w.heap.size, 1, none⟩ (.slice none 0 0)) fun j hj => hw.rest j (by have := Ap.own_blk HPS0.out.rr j hj; omega))
      clear hw
      go_upto_region 10 with fail
      clear f1 q1
      generalize wr.setCell ⟨w.heap.size, 1, none⟩ (.slice none 0 0) = W4 at *
      refine wp_region_lit ?_
      refine wpList_load_all rfl 35 _ rfl w.heap.size [.int .i64 n, .slice none 0 0] _ (by go_simp) HB4.out.blk Try.underlying35 rfl (by kernel_rfl) ?_
      refine wpList_yield (w' := W4) (v := .slice none 0 0) rfl (by go_simp) ?_
      refine wpList_store_all rfl 35 _ _ rfl (w.heap.size + 1) (T := 35) [.int .i64 n, .slice none 0 0] (by go_simp) (by go_simp) HB4.out.res rfl (by kernel_rfl) rfl ?_
      intro w8 hw8
      have HW8 := Lib.hid hw8.there
      have HB8 := Lib.hid (hw8.below HB4.out.bel (by omega))
      have HO8 := Lib.hid (Ap.own_keep HO4.out fun j hj => hw8.rest j (by have := Ap.own_blk HO4.out j hj; omega))
      have HR8 := Lib.hid (own_rdR (rfl) (Ap.own_keep HR4.out fun j hj => hw8.rest j (by have := Ap.own_blk HR4.out j hj; omega)))
      have HT8 := Lib.hid (own_ty (Ap.own_keep HR4.out fun j hj => hw8.rest j (by have := Ap.own_blk HR4.out j hj; omega)))
      clear hw8
      go_wp2_with fail
      exact bodyPost_ret (results_all2 [.int .i64 n, .slice none 0 0] _ Try.results19 (by go_simp) HW8.out Try.underlying35 rfl (by kernel_rfl)) rfl ⟨_, _, rfl, HR8.out, ownZ_base HO8.out, HB8.out, HT8.out⟩
  case pos =>
  obtain ⟨g, rfl, hg, hrow⟩ := H4.out h0
  have HG := Lib.hid hg
  have HROW := Lib.hid (fun (X : World) (hX : X.heap[g]? = w.heap[g]?) => hrow.mono hX)
  clear hg hrow H4
  go_wp2_with fail
  go_loopw [6, 7, 8] (fun x y i wr => ∃ (k a b : Nat), k ≤ len ∧ a = (goneR now (l.take k)).length ∧ b = (pastL now (l.take k)).length ∧ i = .int .i64 k ∧ Ps18 w wr n (.slice (some ⟨g, 0, none⟩) len c) x y (goneR now (l.take k)) (pastL now (l.take k)) a b) (fun _ _ i _ => len - (intOf i).toNat)
  case atStart => exact ⟨0, 0, 0, Nat.zero_le _, rfl, rfl, rfl, HPS0.out⟩
  case round =>
    obtain ⟨k, a, b, hk, ha, hb, rfl, hps⟩ := hrel
    have HPS := Lib.hid hps
    obtain ⟨ao, co, rfl⟩ := own_formR hps.ro
    obtain ⟨ar, cr, rfl⟩ := own_formR hps.rr
    have HB0X := Lib.hid hps.bx
    clear hps HPS0 HB0
    have q1 : wr.cell? ⟨w.heap.size, 1, none⟩ = some (.slice (some ⟨g, 0, none⟩) len c) := cell_of_block (o := 1) HB0X.out.blk rfl
    by_cases hlt : k < len
    case pos =>
      have hd : decide (k < len) = true := decide_eq_true hlt
      have hd2 : decide ((k : Int) < (len : Int)) = true := decide_eq_true (by omega)
      have hkl : (k : Int) < (len : Int) := by omega
      have hw1 : IntKind.i64.wrap ((k : Int) + 1) = (k : Int) + 1 := by have := HL.out; rw [IntKind.wrap_i64]; omega
      have HK := Lib.hid hlt
      have hkL : k < l.length := by rw [← HLEN.out]; exact hlt
      obtain ⟨x0, x1, x2, x3⟩ := HROW.out wr (HB0X.out.bel.block g HG.out) k hkL
      have HGT := Lib.hid (goneR_take now l hkL)
      have HPT := Lib.hid (pastL_take now l hkL)
      have HA := Lib.hid ha
      have HBB := Lib.hid hb
      have HAL := Lib.hid (show a < 64 by have := goneR_le now (l.take k); rw [List.length_take] at this; have := HL.out; omega)
      have HBL := Lib.hid (show b < 64 by have := pastL_le now (l.take k); rw [List.length_take] at this; have := HL.out; omega)
      clear hkL hk ha hb
      generalize l.getD k zR = r at *
      obtain ⟨r1, r2, r3, r4⟩ := r
      dsimp only at x0 x1 x2 x3 HGT HPT
      by_cases hc : r3 ≤ now
      case pos =>
        have d1 : decide (r3 ≤ now) = true := decide_eq_true hc
        rw [if_pos hc] at HGT
        rw [if_neg (by omega)] at HPT
        clear hc
        go_upto_region 7 with fail
        clear d1
        refine wp_region_lit ?_
        refine wpList_yield (w' := wr) (v := .slice ao a co) rfl (by go_simp) ?_
        refine wpList_yield (w' := wr) (v := .pointer (some ⟨w.heap.size, 1, none⟩)) rfl (by go_simp) ?_
        refine wpList_yield (w' := wr) (v := .slice (some ⟨g, 0, none⟩) len c) rfl (by go_simp) ?_
        refine wpList_yield (w' := wr) (v := .int .i64 k) rfl (by go_simp) ?_
        refine wpList_yield (w' := wr) (v := .pointer (some ⟨g, k * 4, none⟩)) rfl (by first | (go_simp; done) | (go_simp; rfl)) ?_
        refine wpList_yield (w' := wr) (v := .pointer (some ⟨g, k * 4, none⟩)) rfl (by first | (go_simp; done) | (go_simp; rfl)) ?_
        refine wpList_yield (w' := wr) (v := .int .i64 r1) rfl (by go_simp) ?_
        refine wpList_yield (w' := wr.alloc (.cells #[.int .i64 r1] 3)) (v := .slice (some ⟨wr.heap.size, 0, none⟩) 1 1) rfl (by go_simp) ?_
        obtain ⟨a2, c2, Wb, g0, g1⟩ := HPS.out.stepO HAL.out r1 53
        refine wpList_yield (w' := Wb) (v := .slice a2 (a + 1) c2) rfl (Ap.exec_app rfl (by go_simp) (by go_simp) g0) ?_
        have HP2 := Lib.hid (show Ps18 w Wb n (.slice (some ⟨g, 0, none⟩) len c) (.slice a2 (a + 1) c2) (.slice ar b cr) (goneR now (l.take (k + 1))) (pastL now (l.take (k + 1))) (a + 1) b from by rw [HGT.out, HPT.out, List.append_nil]; exact g1)
        have HA2 := Lib.hid (show a + 1 = (goneR now (l.take (k + 1))).length from by rw [HGT.out, List.length_append, ← HA.out]; rfl)
        have HB2 := Lib.hid (show b = (pastL now (l.take (k + 1))).length from by rw [HPT.out, List.append_nil]; exact HBB.out)
        clear g0 g1 x0 x1 x2 x3 q1
        go_wp2_with fail
        go_roundw
        case rel => exact ⟨k + 1, a + 1, b, by have := HK.out; omega, HA2.out, HB2.out, by go_num, HP2.out⟩
        case measure => have := HK.out; simp [intOf]; omega
      case neg =>
        have d1 : decide (r3 ≤ now) = false := decide_eq_false hc
        rw [if_neg hc] at HGT
        rw [if_pos (by omega)] at HPT
        clear hc
        go_upto_region 8 with fail
        clear d1
        refine wp_region_lit ?_
        refine wpList_yield (w' := wr) (v := .slice ar b cr) rfl (by go_simp) ?_
        refine wpList_yield (w' := wr) (v := .pointer (some ⟨w.heap.size, 1, none⟩)) rfl (by go_simp) ?_
        refine wpList_yield (w' := wr) (v := .slice (some ⟨g, 0, none⟩) len c) rfl (by go_simp) ?_
        refine wpList_yield (w' := wr) (v := .int .i64 k) rfl (by go_simp) ?_
        refine wpList_yield (w' := wr) (v := .pointer (some ⟨g, k * 4, none⟩)) rfl (by first | (go_simp; done) | (go_simp; rfl)) ?_
        refine wpList_yield (w' := wr) (v := .agg #[.int .i64 r1, .int .i64 r2, .int .i64 r3, .int .i64 r4]) rfl (by first | (go_simp; done) | (go_simp; rfl)) ?_
        refine wpList_yield (w' := wr.alloc (.cells #[.int .i64 r1, .int .i64 r2, .int .i64 r3, .int .i64 r4] 118)) (v := .slice (some ⟨wr.heap.size, 0, none⟩) 1 1) rfl (by go_simp) ?_
        obtain ⟨a2, c2, Wb, g0, g1⟩ := HPS.out.stepR HBL.out (r1, r2, r3, r4) 33
        refine wpList_yield (w' := Wb) (v := .slice a2 (b + 1) c2) rfl (Ap.exec_app rfl (by go_simp) (by go_simp) g0) ?_
        have HP2 := Lib.hid (show Ps18 w Wb n (.slice (some ⟨g, 0, none⟩) len c) (.slice ao a co) (.slice a2 (b + 1) c2) (goneR now (l.take (k + 1))) (pastL now (l.take (k + 1))) a (b + 1) from by rw [HGT.out, HPT.out, List.append_nil]; exact g1)
        have HA2 := Lib.hid (show a = (goneR now (l.take (k + 1))).length from by rw [HGT.out, List.append_nil]; exact HA.out)
        have HB2 := Lib.hid (show b + 1 = (pastL now (l.take (k + 1))).length from by rw [HPT.out, List.length_append, ← HBB.out]; rfl)
        clear g0 g1 x0 x1 x2 x3 q1
        go_wp2_with fail
        go_roundw
        case rel => exact ⟨k + 1, a, b + 1, by have := HK.out; omega, HA2.out, HB2.out, by go_num, HP2.out⟩
        case measure => have := HK.out; simp [intOf]; omega
    case neg =>
      obtain rfl : k = len := by omega
      have hd : decide (k < k) = false := decide_eq_false (by omega)
      have hd2 : decide ((k : Int) < (k : Int)) = false := decide_eq_false (by omega)
      have htk : l.take k = l := List.take_of_length_le (by rw [HLEN.out]; exact Nat.le_refl _)
      rw [htk] at HPS ha hb
      have HA := Lib.hid ha
      have HBB := Lib.hid hb
      clear hlt hk ha hb htk
      have f1 := free_of_block 1 HB0X.out.blk
      have hw := (wrote_refl HB0X.out.blk).set 1 (.slice ar b cr)
      have HB4 := Lib.hid (show Bx18 w (wr.setCell ⟨w.heap.size, 1, none⟩ (.slice ar b cr)) n (.slice ar b cr) from ⟨hw.there, (hw.rest _ (by omega)).trans HB0X.out.res, hw.below HB0X.out.bel (Nat.le_refl _)⟩)
      have HO4 := Lib.hid (Ap.own_keep HPS.out.ro (w' := wr.setCell ⟨w.heap.size, 1, none⟩ (.slice ar b cr)) fun j hj => hw.rest j (by have := Ap.own_blk HPS.out.ro j hj; omega))
      have HR4 := Lib.hid (Ap.own_keep HPS.out.rr (w' := wr.setCell ⟨w.heap.size, 1, none⟩ (.slice ar b cr)) fun j hj => hw.rest j (by have := Ap.own_blk HPS.out.rr j hj; omega))
      clear hw
      go_upto_region 10 with fail
      clear f1 q1
      generalize wr.setCell ⟨w.heap.size, 1, none⟩ (.slice ar b cr) = W4 at *
      refine wp_region_lit ?_
      refine wpList_load_all rfl 35 _ rfl w.heap.size [.int .i64 n, .slice ar b cr] _ (by go_simp) HB4.out.blk Try.underlying35 rfl (by kernel_rfl) ?_
      refine wpList_yield (w' := W4) (v := .slice ao a co) rfl (by go_simp) ?_
      refine wpList_store_all rfl 35 _ _ rfl (w.heap.size + 1) (T := 35) [.int .i64 n, .slice ar b cr] (by go_simp) (by go_simp) HB4.out.res rfl (by kernel_rfl) rfl ?_
      intro w8 hw8
      have HW8 := Lib.hid hw8.there
      have HB8 := Lib.hid (hw8.below HB4.out.bel (by omega))
      have HO8 := Lib.hid (Ap.own_keep HO4.out fun j hj => hw8.rest j (by have := Ap.own_blk HO4.out j hj; omega))
      have HR8 := Lib.hid (own_rdR (HBB.out.symm) (Ap.own_keep HR4.out fun j hj => hw8.rest j (by have := Ap.own_blk HR4.out j hj; omega)))
      have HT8 := Lib.hid (own_ty (Ap.own_keep HR4.out fun j hj => hw8.rest j (by have := Ap.own_blk HR4.out j hj; omega)))
      clear hw8
      go_wp2_with fail
      exact bodyPost_ret (results_all2 [.int .i64 n, .slice ar b cr] _ Try.results19 (by go_simp) HW8.out Try.underlying35 rfl (by kernel_rfl)) rfl ⟨_, _, rfl, HR8.out, ownZ_base (by have := HO8.out; rw [HA.out] at this ⊢; exact this), HB8.out, HT8.out⟩
end Go.Proofs.Ytbhnjmdlagjfbaa
namespace Go.Proofs.Ytbhnjmdlagjfbaa
set_option linter.unusedVariables false
open Go.RowKit Go.Shelf
attribute [local go_sem] Oper.semAt_some
attribute [local go_sem ↓] comesTo_value_eq comesTo_skip_eq comesTo_enter_eq

/-- the spans that have a time in T, from the first on -/
def insU (T : Int × Int) (R : List (Int × Int)) : List (Int × Int) := R.takeWhile fun s => decide ((cutI s T).1 < (cutI s T).2)
/-- what is told when these have come -/
def accU (T : Int × Int) (pre : List (Int × Int)) : Int × Bool := match pre.getLast? with | none => (0, false) | some s => ((cutI s T).2 - 1, true)
theorem accU_snoc (T : Int × Int) (pre : List (Int × Int)) (x : Int × Int) : accU T (pre ++ [x]) = ((cutI x T).2 - 1, true) := by unfold accU; rw [List.getLast?_concat]
theorem insU_all {T : Int × Int} {R : List (Int × Int)} (h : ∀ s ∈ R, (cutI s T).1 < (cutI s T).2) : insU T R = R := by
  unfold insU
  induction R with
  | nil => rfl
  | cons s r ih => rw [List.takeWhile_cons, if_pos (by simpa using h s List.mem_cons_self), ih fun s hs => h s (List.mem_cons_of_mem _ hs)]
theorem insU_stop {T : Int × Int} {pre R : List (Int × Int)} {x : Int × Int} (h : ∀ s ∈ pre, (cutI s T).1 < (cutI s T).2) (hx : ¬ (cutI x T).1 < (cutI x T).2) (hp : pre ++ [x] <+: R) : insU T R = pre := by
  obtain ⟨t, rfl⟩ := hp
  unfold insU
  induction pre with
  | nil =>
    rw [List.nil_append, List.singleton_append, List.takeWhile_cons, if_neg (by simpa using hx)]
  | cons s r ih =>
    rw [List.cons_append, List.cons_append, List.takeWhile_cons, if_pos (by simpa using h s List.mem_cons_self), ih fun s hs => h s (List.mem_cons_of_mem _ hs)]
def AllIn (T : Int × Int) (pre : List (Int × Int)) : Prop := ∀ s ∈ pre, (cutI s T).1 < (cutI s T).2
theorem AllIn.snoc {T : Int × Int} {pre : List (Int × Int)} {x : Int × Int} (h : AllIn T pre) (hx : (cutI x T).1 < (cutI x T).2) : AllIn T (pre ++ [x]) := fun s hs => (List.mem_append.1 hs).elim (h s) fun e => by rw [List.mem_singleton.1 e]; exact hx
/-- what has come when the loop is left -/
def Stops (T : Int × Int) (pre : List (Int × Int)) (r1 : Int) (r2 : Bool) : Prop := ∃ pre' x, pre = pre' ++ [x] ∧ AllIn T pre' ∧ ¬ (cutI x T).1 < (cutI x T).2 ∧ (r1, r2) = accU T pre'
theorem cutI_le (a b : Int × Int) : 0 ≤ (cutI a b).1 ∧ (cutI a b).1 ≤ 1099511627776 ∧ 0 ≤ (cutI a b).2 ∧ (cutI a b).2 ≤ 1099511627776 := by
  have h1 := clampI_le a.1
  have h2 := clampI_le a.2
  have h3 := clampI_le b.1
  have h4 := clampI_le b.2
  unfold cutI bothT bothF
  split <;> simp only <;> (repeat' split) <;> omega
end Go.Proofs.Ytbhnjmdlagjfbaa
namespace Go.Proofs.Ytbhnjmdlagjfbaa
set_option linter.unusedVariables false
open Go.ChangeShapes Go.WideShapes Go.ChangeAt Go.RowKit
attribute [local go_sem ↓] Go.wp_at_zero Go.wp_at_succ comesTo_value_eq comesTo_skip_eq comesTo_enter_eq

theorem addI_of {t m : Int} (h0 : 0 ≤ t) (h1 : t ≤ 1099511627776) (h2 : 0 ≤ m) (h3 : m ≤ 1099511627776) : addI t m = if t + m ≤ 1099511627776 then t + m else 1099511627776 := by
  unfold addI
  rw [clampI_of h0 h1, clampI_of h2 h3]
  unfold clampI
  rw [if_neg (by omega)]
  split <;> split <;> omega
theorem least_good {L : List (Int × Int)} (h : RightU L) {t m W : Int} (h0 : 0 ≤ t) (h1 : t < 1099511627776) (h2 : 1 ≤ m) (h3 : m ≤ 1099511627776) : W ≤ chooseU minU L (clampI t, addI t m) ↔ GoodF (lvl 0 L) m W t := by
  have ea := addI_of h0 (by omega) (by omega) h3
  have hb : t < addI t m ∧ addI t m ≤ 1099511627776 := by rw [ea]; split <;> omega
  have e1 : clampI (clampI t) = t := by rw [clampI_of h0 (by omega), clampI_of h0 (by omega)]
  have e2 : clampI (addI t m) = addI t m := clampI_of (by omega) (by omega)
  obtain ⟨⟨x, x0, x1, x2, x3, x4⟩, hl⟩ := least_spec h (f := clampI t) (t := addI t m) (by rw [e1, e2]; omega)
  rw [e1] at x2 hl
  rw [e2] at x3 hl
  constructor
  · intro hw y y1 y2 y3
    exact Int.le_trans hw (hl y (by omega) y3 y1 (by rw [ea]; split <;> omega))
  · intro hg
    rw [← x4]
    exact hg x x2 (by rw [ea] at x3; split at x3 <;> omega) x1
theorem fits_good {L : List (Int × Int)} (h : RightU L) {t m W : Int} (h0 : 0 ≤ t) (h1 : t < 1099511627776) (h2 : 1 ≤ m) (h3 : m ≤ 1099511627776) : fitsU L (clampI t) (addI t m) W = true ↔ GoodF (lvl 0 L) m W t := by
  have ea := addI_of h0 (by omega) (by omega) h3
  have hb : t < addI t m ∧ addI t m ≤ 1099511627776 := by rw [ea]; split <;> omega
  have e1 : clampI (clampI t) = t := by rw [clampI_of h0 (by omega), clampI_of h0 (by omega)]
  have e2 : clampI (addI t m) = addI t m := clampI_of (by omega) (by omega)
  have hd : decide (clampI (addI t m) ≤ clampI (clampI t)) = false := decide_eq_false (by rw [e1, e2]; omega)
  unfold fitsU
  rw [hd, Bool.false_or, decide_eq_true_eq, ← least_good h h0 h1 h2 h3 (W := W)]
theorem widest_good {L : List (Int × Int)} (h : RightU L) {t m W : Int} (h0 : 0 ≤ t) (h1 : t < 1099511627776) (h2 : 1 ≤ m) (h3 : m ≤ 1099511627776) : W ≤ widestU L t m ↔ GoodF (lvl 0 L) m W t := by
  have hm : maxU m 1 = m := by unfold maxU; split <;> omega
  unfold widestU
  rw [hm, if_neg (by rw [clampI_of h0 (by omega)]; omega), ← least_good h h0 h1 h2 h3 (W := W)]
  have e1 : clampI t = t := clampI_of h0 (by omega)
  rw [e1, e1]
def fitL : List (Int × Int) := [(0, 4), (5, 1), (9, 4)]
theorem fit_change : changeU (addF (byU (-3))) [(0, boundU 4)] (5, 9) = fitL := by decide +kernel
theorem fitL_right : RightU fitL := by
  rw [← fit_change]
  exact (change_right (right_flat 4) (fun x => by unfold addF boundU; split <;> (try split) <;> omega) 5 9).1
theorem fitE (from_ many W r : Int) (hr : firstU (startsU fitL (clampI from_) (maxU (clampI many) 1) W) = r) (X : World) (S : Nat) (h : USt X S fitL) : Calls Try.prog 72 #[.pointer (some ⟨S, 0, none⟩), .int .i64 from_, .int .i64 many, .int .i64 W] X fun e w' => e = .returned (.int .i64 r) ∧ Below X.heap.size X w' := by
  have := earliest_any (v := .pointer (some ⟨S, 0, none⟩)) from_ many W fitL_right (by decide) (fun Y hb => levels_any (h.below hb))
  rwa [hr] at this
end Go.Proofs.Ytbhnjmdlagjfbaa
namespace Go.Proofs.Ytbhnjmdlagjfbaa
set_option linter.unusedVariables false
open Go.ChangeShapes Go.WideShapes Go.ChangeAt Go.RowKit
attribute [local go_sem ↓] Go.wp_at_zero Go.wp_at_succ comesTo_value_eq comesTo_skip_eq comesTo_enter_eq Rl.comesToR_value_eq Rl.comesToR_skip_eq Rl.comesToR_enter_eq
set_option maxRecDepth 100000 in
set_option maxHeartbeats 4000000 in
theorem like18_any {w : World} {B F : Nat} {l : List RV} {n : Int} (h : Rs w B F l n) {v : Value} (hv : RdR w v l) :
    Calls Try.prog 23 #[.pointer (some ⟨F, 0, none⟩), .agg #[.int .i64 n, v]] w fun e w' => e = .returned (.int .i64 1) ∧ Below w.heap.size w w' := by
  have hmx : Try.prog.follows .mixedOrders = true := by kernel_rfl
  have hl8 := h.len
  obtain ⟨aV, cV, rfl, hv2, hv3, hv4⟩ := hv
  have hA := below_alloc (Below.refl _ w) (.cells #[.int .i64 n, .slice aV l.length cV] 35)
  have HA := Lib.hid hA
  have HN := Lib.hid (World.alloc_heap_new w (.cells #[.int .i64 n, .slice aV l.length cV] 35))
  have HR := Lib.hid (h.below hA)
  have HV4 := Lib.hid hv4
  have HL8 := Lib.hid hl8
  clear h hv2 hv3 hv4 hA hl8
  obtain ⟨len, hlen⟩ : ∃ x, x = l.length := ⟨_, rfl⟩
  rw [← hlen] at HN HV4 HL8 ⊢
  have HLEN := Lib.hid hlen
  go_enter Try.func23, Try.ntmps23
  rw [← hlen] at HA HR
  clear hlen
  go_upto_region 1 with fail
  generalize w.alloc (.cells #[.int .i64 n, .slice aV len cV] 35) = W1 at *
  obtain ⟨q, hq⟩ : ∃ x, x = w.heap.size := ⟨_, rfl⟩
  rw [← hq] at HN ⊢
  clear hq
  go_wp2_with fail
  refine (all_rs HR.out).mono ?_
  rintro e W2 ⟨v2, rfl, ho2, hb2⟩
  have HB2 := Lib.hid (below_next HA.out hb2)
  have HR2 := Lib.hid (HR.out.below hb2)
  have HN2 := Lib.hid ((hb2.block _ (Array.getElem?_eq_some_iff.1 HN.out).1).trans HN.out)
  have KO := Lib.hid (own18_any ho2.rd HR2.out.len)
  clear ho2 hb2 HA HR HN
  go_wp2_with fail
  refine KO.out.mono ?_
  rintro e W3 ⟨v3, rfl, ho3, hb3⟩
  have HB3 := Lib.hid (below_next HB2.out hb3)
  have HR3 := Lib.hid (HR2.out.below hb3)
  have HN3 := Lib.hid ((hb3.block _ (Array.getElem?_eq_some_iff.1 HN2.out).1).trans HN2.out)
  have hrd := own_rdR rfl ho3
  clear ho3 hb3 HB2 HR2 HN2 KO
  obtain ⟨aO, cO, rfl, _, _, hr4⟩ := hrd
  rw [← HLEN.out] at hr4 ⊢
  have HR4 := Lib.hid hr4
  clear hr4
  go_upto_region 2 with fail
  have NN := Lib.hid (fun (X : World) (hX : Below W3.heap.size W3 X) => (hX.block _ (Array.getElem?_eq_some_iff.1 HN3.out).1).trans HN3.out)
  have b0 := Lib.hid (fun X hX => cell_of_block (o := 0) (NN.out X hX) rfl)
  have b1 := Lib.hid (fun X hX => cell_of_block (o := 1) (NN.out X hX) rfl)
  have KN := Lib.hid (fun (X : World) (hX : Below W3.heap.size W3 X) => next_rs (HR3.out.below hX))
  have hw0 : Below w.heap.size w W3 := HB3.out
  refine Rl.wp_region_rel (fun a b => Below a.heap.size a b) W3 (fun a b c h h' => below_next h h') (fun a => Below.refl _ _) hmx (by kernel_rfl) (Below.refl _ _).drew ?_
  iterate 3 (refine Rl.textR_run ?_ (fun ρ => ?_) (fun ρ W hS hd => ?_) ?_; rotate_left; (focus go_simp); (focus (obtain ⟨hc, hf⟩ := bcell hS; go_simp; first | exact ⟨rfl, Below.refl _ _⟩ | (refine ⟨?_, Below.refl _ _⟩; rfl))); (try go_simp))
  (refine Rl.textR_run ?_ (fun ρ => ?_) (fun ρ W hS hd => ?_) ?_; rotate_left; (focus go_simp); (focus (have hfact := b1.out W hS; go_simp; first | exact ⟨rfl, Below.refl _ _⟩ | (refine ⟨?_, Below.refl _ _⟩; rfl))); (try go_simp))
  iterate 4 (refine Rl.textR_run ?_ (fun ρ => ?_) (fun ρ W hS hd => ?_) ?_; rotate_left; (focus go_simp); (focus (obtain ⟨hc, hf⟩ := bcell hS; go_simp; first | exact ⟨rfl, Below.refl _ _⟩ | (refine ⟨?_, Below.refl _ _⟩; rfl))); (try go_simp))
  (refine Rl.textR_run ?_ (fun ρ => ?_) (fun ρ W hS hd => ?_) ?_; rotate_left; (focus go_simp); (focus (obtain ⟨hc, hf⟩ := bcell hS; go_simp; refine (KN.out W hS).mono ?_; rintro e w1 ⟨rfl, rfl⟩; refine ⟨_, rfl, ?_, Below.refl _ _⟩; rfl)); (try go_simp))
  (refine Rl.textR_run ?_ (fun ρ => ?_) (fun ρ W hS hd => ?_) ?_; rotate_left; (focus go_simp); (focus (obtain ⟨hc, hf⟩ := bcell hS; go_simp; first | exact ⟨rfl, Below.refl _ _⟩ | (refine ⟨?_, Below.refl _ _⟩; rfl))); (try go_simp))
  (refine Rl.textR_run ?_ (fun ρ => ?_) (fun ρ W hS hd => ?_) ?_; rotate_left; (focus go_simp); (focus (have hfact := b0.out W hS; go_simp; first | exact ⟨rfl, Below.refl _ _⟩ | (refine ⟨?_, Below.refl _ _⟩; rfl))); (try go_simp))
  iterate 2 (refine Rl.textR_run ?_ (fun ρ => ?_) (fun ρ W hS hd => ?_) ?_; rotate_left; (focus go_simp); (focus (obtain ⟨hc, hf⟩ := bcell hS; go_simp; first | exact ⟨rfl, Below.refl _ _⟩ | (refine ⟨?_, Below.refl _ _⟩; rfl))); (try go_simp))
  refine Rl.textR_nil ?_
  intro ρ wA hgA hkA
  dsimp only
  have HB4 := Lib.hid (below_next hw0 hgA)
  have NN4 := Lib.hid (NN.out wA hgA)
  have HRW := Lib.hid (fun (h0 : 0 < len) => (show (∃ g, aO = some ⟨g, 0, none⟩ ∧ g < wA.heap.size ∧ RowR wA g l) ∧ (∃ g, aV = some ⟨g, 0, none⟩ ∧ g < wA.heap.size ∧ RowR wA g l) from by
    obtain ⟨g, e1, e2, e3⟩ := HR4.out h0
    obtain ⟨g', f1, f2, f3⟩ := HV4.out h0
    have hsz := hgA.size
    have hsz2 := hw0.size
    exact ⟨⟨g, e1, by omega, e3.mono (hgA.block g e2)⟩, ⟨g', f1, by omega, f3.mono ((hgA.block g' (by omega)).trans (hw0.block g' f2))⟩⟩))
  clear hgA hkA hw0 NN b0 b1 KN HR3 HN3 HR4 HV4 HB3
  go_simp
  by_cases h0 : 0 < len
  case neg =>
    obtain rfl : len = 0 := by omega
    clear h0 HRW
    go_wp2_with fail
    go_loopw [6] (fun i wr => i = .int .i64 0 ∧ wr = wA) (fun _ _ => 0)
    case atStart => exact ⟨rfl, rfl⟩
    case round =>
      obtain ⟨rfl, rfl⟩ := hrel
      go_wp2_with fail
      go_ret
      exact ⟨rfl, HB4.out⟩
  case pos =>
  obtain ⟨⟨gO, rfl, gO1, gO2⟩, ⟨gV, rfl, gV1, gV2⟩⟩ := HRW.out h0
  have HGO := Lib.hid (fun (X : World) (hX : Below wA.heap.size wA X) => gO2.mono (hX.block gO gO1))
  have HGV := Lib.hid (fun (X : World) (hX : Below wA.heap.size wA X) => gV2.mono (hX.block gV gV1))
  clear HRW gO1 gO2 gV1 gV2 h0
  go_wp2_with fail
  go_loopw [6] (fun i wr => ∃ k : Nat, k ≤ len ∧ i = .int .i64 k ∧ Below wA.heap.size wA wr) (fun i _ => len - (intOf i).toNat)
  case atStart => exact ⟨0, Nat.zero_le _, rfl, Below.refl _ _⟩
  case round =>
    obtain ⟨k, hk, rfl, hbr⟩ := hrel
    by_cases hlt : k < len
    case pos =>
      have hd : decide (k < len) = true := decide_eq_true hlt
      have hd2 : decide ((k : Int) < (len : Int)) = true := decide_eq_true (by omega)
      have hkl : (k : Int) < (len : Int) := by omega
      have hw1 : IntKind.i64.wrap ((k : Int) + 1) = (k : Int) + 1 := by have := HL8.out; rw [IntKind.wrap_i64]; omega
      have HK := Lib.hid hlt
      have hkL : k < l.length := by rw [← HLEN.out]; exact hlt
      have XO := Lib.hid (fun (X : World) (hX : Below wr.heap.size wr X) => HGO.out X (below_next hbr hX) k hkL)
      have XV := Lib.hid (fun (X : World) (hX : Below wr.heap.size wr X) => HGV.out X (below_next hbr hX) k hkL)
      have B1 := Lib.hid (fun (X : World) (hX : Below wr.heap.size wr X) => cell_of_block (o := 1) (((below_next hbr hX).block _ (Array.getElem?_eq_some_iff.1 NN4.out).1).trans NN4.out) rfl)
      have HBR := Lib.hid hbr
      clear hbr hkL hk
      generalize l.getD k zR = r at *
      obtain ⟨r1, r2, r3, r4⟩ := r
      dsimp only at XO XV
      have KEQ := Lib.hid (fun (W : World) => eqin18 r1 r2 r3 r4 W)
      go_upto_region 7 with fail
      refine Rl.wp_region_rel (fun a b => Below a.heap.size a b) wr (fun a b c h h' => below_next h h') (fun a => Below.refl _ _) hmx (by kernel_rfl) (Below.refl _ _).drew ?_
      iterate 3 (refine Rl.textR_run ?_ (fun ρ => ?_) (fun ρ W hS hd => ?_) ?_; rotate_left; (focus go_simp); (focus (obtain ⟨hc, hf⟩ := bcell hS; go_simp; first | exact ⟨rfl, Below.refl _ _⟩ | (refine ⟨?_, Below.refl _ _⟩; rfl))); (try go_simp))
      refine Rl.textR_run (.agg #[.int .i64 r1, .int .i64 r2, .int .i64 r3, .int .i64 r4]) (fun ρ => ?_) (fun ρ W hS hd => ?_) ?_
      · go_simp
      · obtain ⟨x0, x1, x2, x3⟩ := XO.out W hS
        exact comesToR_load4 _ rfl (b := gO) (off := k * 4) (by go_simp) x0 x1 x2 x3 ⟨rfl, Below.refl _ _⟩
      (try go_simp)
      (refine Rl.textR_run ?_ (fun ρ => ?_) (fun ρ W hS hd => ?_) ?_; rotate_left; (focus go_simp); (focus (obtain ⟨hc, hf⟩ := bcell hS; go_simp; first | exact ⟨rfl, Below.refl _ _⟩ | (refine ⟨?_, Below.refl _ _⟩; rfl))); (try go_simp))
      (refine Rl.textR_run ?_ (fun ρ => ?_) (fun ρ W hS hd => ?_) ?_; rotate_left; (focus go_simp); (focus (have hfact := B1.out W hS; go_simp; first | exact ⟨rfl, Below.refl _ _⟩ | (refine ⟨?_, Below.refl _ _⟩; rfl))); (try go_simp))
      iterate 2 (refine Rl.textR_run ?_ (fun ρ => ?_) (fun ρ W hS hd => ?_) ?_; rotate_left; (focus go_simp); (focus (obtain ⟨hc, hf⟩ := bcell hS; go_simp; first | exact ⟨rfl, Below.refl _ _⟩ | (refine ⟨?_, Below.refl _ _⟩; rfl))); (try go_simp))
      refine Rl.textR_run (.agg #[.int .i64 r1, .int .i64 r2, .int .i64 r3, .int .i64 r4]) (fun ρ => ?_) (fun ρ W hS hd => ?_) ?_
      · go_simp
      · obtain ⟨x0, x1, x2, x3⟩ := XV.out W hS
        exact comesToR_load4 _ rfl (b := gV) (off := k * 4) (by go_simp) x0 x1 x2 x3 ⟨rfl, Below.refl _ _⟩
      (try go_simp)
      refine Rl.textR_run (.bool false) (fun ρ => ?_) (fun ρ W hS hd => ?_) ?_
      · go_simp
      · exact Rl.comesToR_neq 118 _ _ _ rfl _ _ (by go_simp) (by go_simp) (by kernel_rfl) (KEQ.out W) ⟨rfl, Below.refl _ _⟩
      (try go_simp)
      refine Rl.textR_nil ?_
      intro ρ wd hg hk
      dsimp only
      have HBd := Lib.hid (below_next HBR.out hg)
      clear hg hk XO XV B1 HBR KEQ
      go_simp
      go_wp2_with fail
      go_roundw
      case rel => exact ⟨k + 1, by have := HK.out; omega, by go_num, HBd.out⟩
      case measure => have := HK.out; simp [intOf]; omega
    case neg =>
      obtain rfl : k = len := by omega
      have hd : decide (k < k) = false := decide_eq_false (by omega)
      have hd2 : decide ((k : Int) < (k : Int)) = false := decide_eq_false (by omega)
      have HBR := Lib.hid (below_next HB4.out hbr)
      clear hbr hlt hk
      go_wp2_with fail
      go_ret
      exact ⟨rfl, HBR.out⟩
end Go.Proofs.Ytbhnjmdlagjfbaa
namespace Go.Proofs.Ytbhnjmdlagjfbaa
set_option linter.unusedVariables false
open Go.ChangeShapes Go.WideShapes Go.RowKit Go.Deep
namespace R18

theorem fields_at {P : Program} {fs : Array Field} {l : List (Nat × Nat × TypeId)} (h : fs.toList.map (fun f => (f.offset, P.cellsOf f.type, f.type)) = l) {i o c : Nat} {t : TypeId} (hi : l[i]? = some (o, c, t)) : ∃ f, fs[i]? = some f ∧ f.offset = o ∧ P.cellsOf f.type = c ∧ f.type = t := by
  rw [← h, List.getElem?_map] at hi
  cases hf : fs.toList[i]? with
  | none => rw [hf] at hi; cases hi
  | some f =>
    rw [hf] at hi
    injection hi with hi
    injection hi with h1 h2
    injection h2 with h2 h3
    exact ⟨f, by simpa using hf, h1, h2, h3⟩
/-- the part of a struct that a field is, as the reading of the struct tells it -/
theorem trod_field {H : Type} {enc : TypeId × Value → H} {P : Program} {w : World} {base : Nat} {spare : Nat → Bool} {held : Bool} {fuel : Nat} {t : TypeId} {cs : List Value} {x : DataW H × List MemPlace} {fs : Array Field} (hs : P.underlying t = some (.struct fs)) (h : DataW.trod enc P w base spare held fuel t cs = some x)
    {l : List (Nat × Nat × TypeId)} (hl : fs.toList.map (fun f => (f.offset, P.cellsOf f.type, f.type)) = l) {i o c : Nat} {u : TypeId} (hi : l[i]? = some (o, c, u)) : ∃ n y, DataW.trod enc P w base spare held n u ((cs.drop o).take c) = some y := by
  obtain ⟨xs, n, _, _, _, hlen, hfs⟩ := DataW.trod_struct hs h
  obtain ⟨f, hf, rfl, rfl, rfl⟩ := fields_at hl hi
  have hlt : i < xs.length := by rw [hlen]; exact (Array.getElem?_eq_some_iff.1 hf).1
  exact ⟨n, xs[i], (hfs i f hf).trans (List.getElem?_eq_getElem hlt)⟩
theorem sAct : Try.prog.underlying 41 = some (.struct (Try.prog.fieldsOf 41)) := by kernel_rfl
theorem fAct : (Try.prog.fieldsOf 41).toList.map (fun f => (f.offset, Try.prog.cellsOf f.type, f.type)) = [(0, 1, 3), (1, 1, 3), (2, 2, 39)] := by kernel_rfl
theorem sSpan : Try.prog.underlying 39 = some (.struct (Try.prog.fieldsOf 39)) := by kernel_rfl
theorem fSpan : (Try.prog.fieldsOf 39).toList.map (fun f => (f.offset, Try.prog.cellsOf f.type, f.type)) = [(0, 1, 37), (1, 1, 37)] := by kernel_rfl
theorem cellsAct : Try.prog.cellsOf 41 = 4 := by kernel_rfl
set_option maxRecDepth 10000 in
theorem act_open {H : Type} {enc : TypeId × Value → H} {W : World} {base b0 : Nat} {spare : Nat → Bool} {held : Bool} {r : Reach} {v : Value} {d : DataW H} {p : List MemPlace}
    (hv : Value.okWide Try.prog W r b0 41 v) (h : DataW.Trod enc Try.prog W base spare held 41 v d p) :
    ∃ k n f t : Int, (i64R n ∧ i64R f ∧ i64R t) ∧ v = .agg #[.int .i64 k, .int .i64 n, .int .i64 f, .int .i64 t] := by
  obtain ⟨cs, rfl, hsz⟩ := okWide_struct sAct hv
  rw [cellsAct] at hsz
  obtain ⟨fuel, hf⟩ := h
  have hcs : (Value.agg cs).cells.toList = cs.toList := rfl
  rw [hcs] at hf
  obtain ⟨l, rfl⟩ : ∃ l : List Value, cs = l.toArray := ⟨cs.toList, by simp⟩
  match l, hsz with
  | [c0, c1, c2, c3], _ =>
    obtain ⟨n0, y0, h0⟩ := trod_field sAct hf fAct (i := 0) rfl
    obtain ⟨n1, y1, h1⟩ := trod_field sAct hf fAct (i := 1) rfl
    obtain ⟨n2, y2, h2⟩ := trod_field sAct hf fAct (i := 2) rfl
    obtain ⟨n3, y3, h3⟩ := trod_field sSpan h2 fSpan (i := 0) rfl
    obtain ⟨n4, y4, h4⟩ := trod_field sSpan h2 fSpan (i := 1) rfl
    obtain ⟨a0, e0, _, _⟩ := DataW.trod_int Try.underlying3 h0
    obtain ⟨a2, e2, _, w2⟩ := DataW.trod_int Try.underlying3 h1
    obtain ⟨a3, e3, _, w3⟩ := DataW.trod_int Try.underlying37 h3
    obtain ⟨a4, e4, _, w4⟩ := DataW.trod_int Try.underlying37 h4
    have f0 : c0 = .int .i64 a0 := by simpa using e0
    have f2 : c1 = .int .i64 a2 := by simpa using e2
    have f3 : c2 = .int .i64 a3 := by simpa using e3
    have f4 : c3 = .int .i64 a4 := by simpa using e4
    subst f0 f2 f3 f4
    refine ⟨_, _, _, _, ⟨?_, ?_, ?_⟩, rfl⟩
    · unfold i64R; simpa [Lit.wf, IntKind.min, IntKind.max, IntKind.signed, IntKind.bits] using w2
    · unfold i64R; simpa [Lit.wf, IntKind.min, IntKind.max, IntKind.signed, IntKind.bits] using w3
    · unfold i64R; simpa [Lit.wf, IntKind.min, IntKind.max, IntKind.signed, IntKind.bits] using w4
/-- an act: what it is, the span, how much -/
structure ActR where
  kind : Int
  n : Int
  fr : Int
  to_ : Int
structure ActR.Cells (w : World) (b o : Nat) (a : ActR) : Prop where
  c0 : w.cell? ⟨b, o, none⟩ = some (.int .i64 a.kind)
  c1 : w.cell? ⟨b, o + 1, none⟩ = some (.int .i64 a.n)
  c2 : w.cell? ⟨b, o + 2, none⟩ = some (.int .i64 a.fr)
  c3 : w.cell? ⟨b, o + 3, none⟩ = some (.int .i64 a.to_)
  n64 : -9223372036854775808 ≤ a.n ∧ a.n ≤ 9223372036854775807
  f64 : -9223372036854775808 ≤ a.fr ∧ a.fr ≤ 9223372036854775807
  t64 : -9223372036854775808 ≤ a.to_ ∧ a.to_ ≤ 9223372036854775807
def ActsR (w : World) (ad : Option Addr) (len : Nat) (A : Nat → ActR) : Prop := len ≤ 9223372036854775807 ∧ (0 < len → ∃ b off, ad = some ⟨b, off, none⟩ ∧ ∀ k, k < len → ActR.Cells w b (off + k * 4) (A k))
instance : Inhabited ActR := ⟨⟨0, 0, 0, 0⟩⟩
set_option maxRecDepth 10000 in
theorem acts_open {H : Type} {enc : TypeId × Value → H} {W : World} {a : Option Addr} {len cap : Nat} {d : DataW H} {p : List MemPlace}
    (h : DataW.Trod enc Try.prog W 0 (fun _ => true) true 23 (.slice a len cap) d p) : ∃ A : Nat → ActR, ActsR W a len A ∧ len ≤ cap := by
  obtain ⟨fuel, hf⟩ := h
  rcases Go.Deep.open_slice Try.underlying23 hf with ⟨hcs, _⟩ | ⟨x, l, c, m, n, D, Pl, hcs, _, hl, hm, hmm, hd, hcell⟩
  · simp [Value.cells] at hcs
    obtain ⟨rfl, rfl, rfl⟩ := hcs
    exact ⟨fun _ => ⟨0, 0, 0, 0⟩, ⟨by omega, fun h => absurd h (by omega)⟩, Nat.le_refl _⟩
  · simp [Value.cells] at hcs
    obtain ⟨rfl, rfl, rfl⟩ := hcs
    have hlm : len ≤ m := by rw [hmm]; split <;> omega
    rw [cellsAct] at hcell
    by_cases h0 : len = 0
    · exact ⟨fun _ => ⟨0, 0, 0, 0⟩, ⟨by omega, fun h => absurd h (by omega)⟩, hl⟩
    obtain ⟨b, off, spot⟩ := x
    have hspot : spot = none := by
      obtain ⟨cs', h1, _⟩ := hcell 0 (by omega)
      obtain ⟨_, hlen, hc⟩ := World.cells?_some h1
      have := hc 0 (by omega)
      have hs : cs'[0]? = some cs'[0] := List.getElem?_eq_getElem (by omega)
      rw [hs] at this
      simpa [Addr.add] using World.cell?_spot this
    subst hspot
    have hplain : ∀ k, (⟨b, off, none⟩ : Addr).add k = ⟨b, off + k, none⟩ := fun k => by unfold Addr.add; split <;> simp_all
    have hplain2 : ∀ k j, ((⟨b, off, none⟩ : Addr).add k).add j = ⟨b, off + k + j, none⟩ := fun k j => by rw [Go.Deep.add_add, hplain, Nat.add_assoc]
    have each : ∀ i, i < len → ∃ q : ActR, ActR.Cells W b (off + i * 4) q := by
      intro i hi
      obtain ⟨cs', h1, h2⟩ := hcell i (by omega)
      obtain ⟨_, hlen, hc⟩ := World.cells?_some h1
      match cs', hlen with
      | [v0, v1, v2, v3], _ =>
        obtain ⟨n0, y0, g0⟩ := trod_field sAct h2 fAct (i := 0) rfl
        obtain ⟨n1, y1, g1⟩ := trod_field sAct h2 fAct (i := 1) rfl
        obtain ⟨n2, y2, g2⟩ := trod_field sAct h2 fAct (i := 2) rfl
        obtain ⟨n3, y3, g3⟩ := trod_field sSpan g2 fSpan (i := 0) rfl
        obtain ⟨n4, y4, g4⟩ := trod_field sSpan g2 fSpan (i := 1) rfl
        obtain ⟨a0, e0, _, _⟩ := DataW.trod_int Try.underlying3 g0
        obtain ⟨a2, e2, _, w2⟩ := DataW.trod_int Try.underlying3 g1
        obtain ⟨a3, e3, _, w3⟩ := DataW.trod_int Try.underlying37 g3
        obtain ⟨a4, e4, _, w4⟩ := DataW.trod_int Try.underlying37 g4
        have f0 : v0 = .int .i64 a0 := by simpa using e0
        have f2 : v1 = .int .i64 a2 := by simpa using e2
        have f3 : v2 = .int .i64 a3 := by simpa using e3
        have f4 : v3 = .int .i64 a4 := by simpa using e4
        subst f0 f2 f3 f4
        have b2 : -9223372036854775808 ≤ a2 ∧ a2 ≤ 9223372036854775807 := by simpa [Lit.wf, IntKind.min, IntKind.max, IntKind.signed, IntKind.bits] using w2
        have b3 : -9223372036854775808 ≤ a3 ∧ a3 ≤ 9223372036854775807 := by simpa [Lit.wf, IntKind.min, IntKind.max, IntKind.signed, IntKind.bits] using w3
        have b4 : -9223372036854775808 ≤ a4 ∧ a4 ≤ 9223372036854775807 := by simpa [Lit.wf, IntKind.min, IntKind.max, IntKind.signed, IntKind.bits] using w4
        have c : ∀ j, j < 4 → W.cell? ⟨b, off + i * 4 + j, none⟩ = [Value.int .i64 a0, .int .i64 a2, .int .i64 a3, .int .i64 a4][j]? := fun j hj => by rw [← hplain2]; exact hc j hj
        exact ⟨⟨a0, a2, a3, a4⟩, { c0 := c 0 (by decide), c1 := c 1 (by decide), c2 := c 2 (by decide), c3 := c 3 (by decide), n64 := b2, f64 := b3, t64 := b4 }⟩
    obtain ⟨A, hA⟩ := Go.Deep.choose_lt (α := ActR) (p := fun i q => ActR.Cells W b (off + i * 4) q) each
    exact ⟨A, ⟨by unfold maxLen at hm; omega, fun _ => ⟨b, off, rfl, hA⟩⟩, hl⟩
end R18
end Go.Proofs.Ytbhnjmdlagjfbaa
