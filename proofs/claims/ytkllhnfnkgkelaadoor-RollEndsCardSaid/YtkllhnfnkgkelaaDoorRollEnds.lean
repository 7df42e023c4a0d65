/- Facts for RollEnds (layer 21): what one turn does; the contract of Next at the head of a turn; sets that came in. Condition: math/bits' table of trailing zeros lies as its text lays it. -/
import Derived.Test.YtkllhnfnkgkelaaDoorRollOne
import Derived.Test.YtkllhnfnkgkelaaDoorMask
namespace Go.Proofs.YtkllhnfnkgkelaaDoor
set_option linter.unusedVariables false
open Go.ChangeShapes Go.WideShapes Go.ChangeAt Go.RowKit Go.Shelf
attribute [local go_sem ↓] Go.wp_at_zero Go.wp_at_succ comesTo_value_eq comesTo_skip_eq comesTo_enter_eq

theorem card_first_all : ∀ k, k < 65 → card (BitVec.ofNat 64 (2 ^ k - 1)) = k := by decide +kernel
theorem card_first (n : Int) (h0 : 0 ≤ n) (h1 : n ≤ 64) : (card (firstI n) : Int) = n := by
  unfold firstI
  rw [Nat.min_eq_left (by omega), card_first_all n.toNat (by omega)]
  omega
theorem or_zero_l (s : NSet) : 0#64 ||| s = s := by simp
theorem or_zero_r (s : NSet) : s ||| 0#64 = s := by simp
theorem sub_antisymm {a b : NSet} (h : Sub a b) (h' : Sub b a) : a = b := by
  apply BitVec.eq_of_getLsbD_eq
  intro i hi
  have h1 := sub_iff.1 h i hi
  have h2 := sub_iff.1 h' i hi
  cases ha : a.getLsbD i with
  | true => exact (h1 ha).symm
  | false =>
    cases hb : b.getLsbD i with
    | false => rfl
    | true => exact absurd (h2 hb) (by rw [ha]; decide)
theorem sub_or {a b c : NSet} (h : Sub a c) (h' : Sub b c) : Sub (a ||| b) c := sub_iff.2 fun i hi hg => by
  rw [BitVec.getLsbD_or] at hg
  simp only [Bool.or_eq_true] at hg
  rcases hg with hg | hg
  · exact sub_iff.1 h i hi hg
  · exact sub_iff.1 h' i hi hg
theorem sub_and_l (a b : NSet) : Sub (a &&& b) b := sub_iff.2 fun i hi hg => by
  rw [BitVec.getLsbD_and] at hg
  simp only [Bool.and_eq_true] at hg
  exact hg.2
theorem sub_diff (a b : NSet) : Sub (a &&& ~~~b) a := sub_iff.2 fun i hi hg => by
  rw [get_diff a b i hi] at hg
  simp only [Bool.and_eq_true] at hg
  exact hg.1
theorem and_of_sub_diff {s a b : NSet} (h : Sub s (a &&& ~~~b)) : s &&& b = 0#64 := by
  apply BitVec.eq_of_getLsbD_eq
  intro i hi
  rw [BitVec.getLsbD_and, BitVec.getLsbD_zero]
  cases hs : s.getLsbD i with
  | false => rfl
  | true =>
    have := sub_iff.1 h i hi hs
    rw [get_diff a b i hi] at this
    simp only [Bool.and_eq_true, Bool.not_eq_true'] at this
    rw [this.2]; rfl
theorem and_comm' (a b : NSet) : a &&& b = b &&& a := BitVec.and_comm a b

/-- one turn -/
structure Turn (W : Int) (D A S : NSet) : Prop where
  ne : S ≠ 0#64
  dis : S &&& D = 0#64
  inn : S &&& ~~~A = 0#64
  wide : (card S : Int) ≤ W
  more : card D + 1 ≤ card (D ||| S)
theorem next_turn (W : Int) (D A : NSet) (i : Int) (hW : 1 ≤ W ∧ W ≤ 64) (hi : 0 ≤ i) (hA : A &&& ~~~D ≠ 0#64) :
    ∃ S, Turn W D A S ∧ ∀ U, TabZ U → Calls Tryd.prog 40 #[.agg #[.int .i64 W, .int .i64 0, .int .u64 (nv D), .int .u64 (nv 0#64)], .int .i64 i, .int .u64 (nv A)] U fun e w' => e = .returned (.int .u64 (nv S)) ∧ Below U.heap.size U w' := by
  have hm : 1 ≤ card (A &&& ~~~D) := by
    rcases Nat.eq_zero_or_pos (card (A &&& ~~~D)) with h | h
    · exact absurd (card_eq_zero h) hA
    · exact h
  have hmin : 1 ≤ minZ (W - (card 0#64 : Int)) (card (A &&& ~~~D)) ∧ minZ (W - (card 0#64 : Int)) (card (A &&& ~~~D)) ≤ W ∧ minZ (W - (card 0#64 : Int)) (card (A &&& ~~~D)) ≤ (card (A &&& ~~~D) : Int) := by
    rw [card_zero]; unfold minZ; split <;> omega
  have hN := fun U hT => next_goes W 0 D 0#64 i A U hT hi (by rw [card_zero]; omega) (by omega)
  rw [or_zero_r] at hN
  generalize minZ (W - (card 0#64 : Int)) (card (A &&& ~~~D)) = m at *
  obtain ⟨h1, h2⟩ := tk_spec (A &&& ~~~D) m.toNat (by omega)
  refine ⟨tk m.toNat (A &&& ~~~D), ⟨?_, and_of_sub_diff h1, ?_, by rw [h2]; omega, ?_⟩, hN⟩
  · intro e
    rw [e, card_zero] at h2
    omega
  · exact sub_trans h1 (sub_diff A D)
  · have h3 := card_or D (tk m.toNat (A &&& ~~~D))
    rw [and_comm', and_of_sub_diff h1, card_zero] at h3
    omega

/-! each node that is held comes back -/
def dAt (D S : NSet) (k : Nat) : NSet := D ||| (S &&& firstI k)
def hAt (S : NSet) (k : Nat) : NSet := S &&& ~~~firstI k
theorem first_0 : firstI ((0 : Nat) : Int) = 0#64 := by decide
theorem first_64 : firstI ((64 : Nat) : Int) = BitVec.allOnes 64 := by decide
theorem dAt_0 (D S : NSet) : dAt D S 0 = D := by unfold dAt; rw [first_0]; simp
theorem hAt_0 (S : NSet) : hAt S 0 = S := by unfold hAt; rw [first_0, BitVec.not_zero, BitVec.and_allOnes]
theorem dAt_64 (D S : NSet) : dAt D S 64 = D ||| S := by unfold dAt; rw [first_64, BitVec.and_allOnes]
theorem hAt_64 (S : NSet) : hAt S 64 = 0#64 := by unfold hAt; rw [first_64, BitVec.not_allOnes, BitVec.and_zero]
theorem has_hAt (S : NSet) (k : Nat) (hk : k < 64) : hasI (hAt S k) (k : Int) = S.getLsbD k := by
  rw [hasI_nat]
  unfold hAt
  rw [get_diff _ _ _ hk, firstI_get _ _ hk]
  have : ¬ (k : Int) < (k : Int) := by omega
  simp only [this, decide_false, Bool.not_false, Bool.and_true]
theorem back_h (S : NSet) (k : Nat) (hk : k < 64) : backH (hAt S k) (k : Int) = hAt S (k + 1) := by
  unfold backH
  rw [has_hAt S k hk]
  apply BitVec.eq_of_getLsbD_eq
  intro i hi
  unfold hAt
  rw [get_diff _ _ _ hi, firstI_get _ _ hi]
  cases hs : S.getLsbD k with
  | true =>
    rw [if_pos rfl, get_diff _ _ _ hi, get_diff _ _ _ hi, firstI_get _ _ hi, oneI_get]
    by_cases h : i = k
    · subst h
      have h1 : ((i : Nat) : Int) < ((i + 1 : Nat) : Int) := by omega
      simp only [h1, decide_true, Bool.not_true, Bool.and_false, hi, Bool.and_self]
    · have h1 : ¬ ((k : Nat) : Int) = ((i : Nat) : Int) := by omega
      have h2 : (((i : Nat) : Int) < ((k + 1 : Nat) : Int)) ↔ (((i : Nat) : Int) < ((k : Nat) : Int)) := by omega
      simp only [h1, h2, decide_false, Bool.and_false, Bool.not_false, Bool.and_true]
  | false =>
    rw [if_neg (by decide), get_diff _ _ _ hi, firstI_get _ _ hi]
    by_cases h : i = k
    · subst h
      rw [hs]; rfl
    · have h2 : (((i : Nat) : Int) < ((k + 1 : Nat) : Int)) ↔ (((i : Nat) : Int) < ((k : Nat) : Int)) := by omega
      simp only [h2]
theorem back_d (D S : NSet) (k : Nat) (hk : k < 64) : backD (dAt D S k) (hAt S k) (k : Int) = dAt D S (k + 1) := by
  unfold backD
  rw [has_hAt S k hk]
  apply BitVec.eq_of_getLsbD_eq
  intro i hi
  unfold dAt
  rw [BitVec.getLsbD_or, BitVec.getLsbD_and, firstI_get _ _ hi]
  cases hs : S.getLsbD k with
  | true =>
    rw [if_pos rfl, BitVec.getLsbD_or, BitVec.getLsbD_or, BitVec.getLsbD_and, firstI_get _ _ hi, oneI_get]
    by_cases h : i = k
    · subst h
      have h1 : ((i : Nat) : Int) < ((i + 1 : Nat) : Int) := by omega
      simp only [h1, decide_true, hi, hs, Bool.and_self, Bool.or_true]
    · have h1 : ¬ ((k : Nat) : Int) = ((i : Nat) : Int) := by omega
      have h2 : (((i : Nat) : Int) < ((k + 1 : Nat) : Int)) ↔ (((i : Nat) : Int) < ((k : Nat) : Int)) := by omega
      simp only [h1, h2, decide_false, Bool.and_false, Bool.or_false]
  | false =>
    rw [if_neg (by decide), BitVec.getLsbD_or, BitVec.getLsbD_and, firstI_get _ _ hi]
    by_cases h : i = k
    · subst h
      rw [hs]; simp only [Bool.false_and]
    · have h2 : (((i : Nat) : Int) < ((k + 1 : Nat) : Int)) ↔ (((i : Nat) : Int) < ((k : Nat) : Int)) := by omega
      simp only [h2]
theorem back_at (W F : Int) (D S : NSet) (k : Nat) (hk : k < 64) (U : World) :
    Calls Tryd.prog 43 #[.agg #[.int .i64 W, .int .i64 F, .int .u64 (nv (dAt D S k)), .int .u64 (nv (hAt S k))], .int .i64 k] U fun e w' => e = .returned (.agg #[.int .i64 W, .int .i64 F, .int .u64 (nv (dAt D S (k + 1))), .int .u64 (nv (hAt S (k + 1)))]) ∧ Below U.heap.size U w' := by
  have := back_any W F (dAt D S k) (hAt S k) k U
  rw [back_h S k hk, back_d D S k hk] at this
  exact this

/-! sets that came in -/
structure SetsAt (W : World) (a : Option Addr) (len cap : Nat) (zs : List NSet) : Prop where
  same : zs.length = len
  big : len ≤ 9223372036854775807
  cell : 0 < len → ∃ b off, a = some ⟨b, off, none⟩ ∧ ∀ k, k < len → W.cell? ⟨b, off + k, none⟩ = some (.int .u64 (nv (zs.getD k 0#64)))
theorem nv_all : ∀ (l : List Int), (∀ n ∈ l, 0 ≤ n ∧ n ≤ 18446744073709551615) → ∃ zs : List NSet, zs.map nv = l
  | [], _ => ⟨[], rfl⟩
  | n :: l, h => by
    obtain ⟨zs, hz⟩ := nv_all l fun m hm => h m (List.mem_cons_of_mem _ hm)
    obtain ⟨s, hs⟩ := nv_of n (h n List.mem_cons_self).1 (h n List.mem_cons_self).2
    exact ⟨s :: zs, by rw [List.map_cons, hs, hz]⟩
theorem sets_open {H : Type} {enc : TypeId × Value → H} {W : World} {a : Option Addr} {len cap : Nat} {d : DataW H} {p : List MemPlace}
    (h : DataW.Trod enc Tryd.prog W 0 (fun _ => true) true 47 (.slice a len cap) d p) : ∃ zs : List NSet, SetsAt W a len cap zs := by
  obtain ⟨fuel, hf⟩ := h
  rcases open_ints Tryd.underlying47 Tryd.underlying23 (by kernel_rfl) hf with ⟨hcs, _⟩ | ⟨x, l, c, zs, hcs, _, hl, hm, hz, hd, hcell, hwz⟩
  · simp [Value.cells] at hcs
    obtain ⟨rfl, rfl, rfl⟩ := hcs
    exact ⟨[], rfl, by omega, fun h => absurd h (by decide)⟩
  · simp [Value.cells] at hcs
    obtain ⟨rfl, rfl, rfl⟩ := hcs
    have hz' : zs.length = cap := by simpa using hz
    obtain ⟨ss, hss⟩ := nv_all (zs.take len) fun n hn => by
      have := hwz n (List.mem_of_mem_take hn)
      simpa [Lit.wf, IntKind.min, IntKind.max, IntKind.signed, IntKind.bits] using this
    have hsl : ss.length = len := by
      have := congrArg List.length hss
      simp at this
      omega
    refine ⟨ss, hsl, by unfold maxLen at hm; omega, fun h0 => ?_⟩
    obtain ⟨b, off, spot⟩ := x
    have hc := hcell 0 (by omega)
    have hspot : spot = none := by simpa [Addr.add] using World.cell?_spot hc
    subst hspot
    refine ⟨b, off, rfl, fun k hk => ?_⟩
    have hplain : (⟨b, off, none⟩ : Addr).add k = ⟨b, off + k, none⟩ := by unfold Addr.add; split <;> simp_all
    rw [← hplain, hcell k (by omega)]
    have e1 : (ss.map nv)[k]? = (zs.take len)[k]? := by rw [hss]
    rw [List.getElem?_map, List.getElem?_take_of_lt hk] at e1
    have hkz : k < zs.length := by omega
    have hks : k < ss.length := by omega
    simp only [List.getElem?_eq_getElem hkz, List.getElem?_eq_getElem hks, Option.map_some, Option.some.injEq] at e1
    simp [List.getD, List.getElem?_eq_getElem hkz, List.getElem?_eq_getElem hks, e1]
end Go.Proofs.YtkllhnfnkgkelaaDoor
