/- Laws that belong together: Plain facts on sets of nodes as 64 bits: their count as it is computed, their least node, the least ones. No condition.; The nodes of a set, rising. Plain facts, no condition. -/
import Derived.Lib.TrailingZeros
namespace Go.Proofs.YtnofgffkfapodaaDoor
set_option linter.unusedVariables false
open Go

/-- how many of the first k bits are set -/
def cnt : Nat → Nat → Nat
  | 0, _ => 0
  | k + 1, x => x % 2 + cnt k (x / 2)
theorem cnt_countP : ∀ (k x : Nat), cnt k x = (List.range k).countP (fun i => x.testBit i)
  | 0, _ => rfl
  | k + 1, x => by
    rw [cnt, cnt_countP k (x / 2), List.range_succ_eq_map, List.countP_cons, List.countP_map]
    have h1 : ((fun i => x.testBit i) ∘ Nat.succ) = fun i => (x / 2).testBit i := by
      funext i
      simp [Nat.testBit_succ]
    rw [h1, Nat.add_comm]
    congr 1
    rw [Nat.testBit_zero]
    rcases Nat.mod_two_eq_zero_or_one x with h | h <;> simp [h]
theorem cnt_le : ∀ (k x : Nat), cnt k x ≤ k
  | 0, _ => Nat.le_refl _
  | k + 1, x => by rw [cnt]; have := cnt_le k (x / 2); omega
theorem cnt_split (b x k : Nat) (hb : b < 256) : cnt (k + 8) (b + 256 * x) = cnt 8 b + cnt k x := by
  simp only [cnt]
  have e : (b + 256 * x) / 2 / 2 / 2 / 2 / 2 / 2 / 2 / 2 = x := by omega
  rw [e]
  omega
theorem and_split (a b c d : Nat) (ha : a < 256) (hc : c < 256) : (a + 256 * b) &&& (c + 256 * d) = (a &&& c) + 256 * (b &&& d) := by
  have h1 : ((a + 256 * b) &&& (c + 256 * d)) % 2 ^ 8 = a &&& c := by
    rw [Nat.and_mod_two_pow]; congr 1 <;> omega
  have h2 : ((a + 256 * b) &&& (c + 256 * d)) / 2 ^ 8 = b &&& d := by
    rw [Nat.and_div_two_pow]; congr 1 <;> omega
  have h3 := Nat.div_add_mod ((a + 256 * b) &&& (c + 256 * d)) (2 ^ 8)
  rw [h1, h2] at h3
  omega
def g1 (b : Nat) : Nat := (b / 2 &&& 85) + (b &&& 85)
def g2 (b : Nat) : Nat := (b / 4 &&& 51) + (b &&& 51)
def g3 (b : Nat) : Nat := (b / 16 + b) % 16
theorem low1 : ∀ b, b < 256 → ∀ c, c < 2 → (b / 2 + 128 * c) &&& 85 = b / 2 &&& 85 := by decide +kernel
theorem low2 : ∀ b, b < 256 → ∀ c, c < 4 → (b / 4 + 64 * c) &&& 51 = b / 4 &&& 51 := by decide +kernel
theorem bstep1 (b x m : Nat) (hb : b < 256) : ((b + 256 * x) / 2 &&& (85 + 256 * m)) + ((b + 256 * x) &&& (85 + 256 * m)) = g1 b + 256 * ((x / 2 &&& m) + (x &&& m)) := by
  have e : (b + 256 * x) / 2 = (b / 2 + 128 * (x % 2)) + 256 * (x / 2) := by omega
  rw [e, and_split _ _ _ _ (by omega) (by omega), and_split _ _ _ _ hb (by omega), low1 b hb (x % 2) (by omega)]
  unfold g1
  omega
theorem bstep2 (b x m : Nat) (hb : b < 256) : ((b + 256 * x) / 4 &&& (51 + 256 * m)) + ((b + 256 * x) &&& (51 + 256 * m)) = g2 b + 256 * ((x / 4 &&& m) + (x &&& m)) := by
  have e : (b + 256 * x) / 4 = (b / 4 + 64 * (x % 4)) + 256 * (x / 4) := by omega
  rw [e, and_split _ _ _ _ (by omega) (by omega), and_split _ _ _ _ hb (by omega), low2 b hb (x % 4) (by omega)]
  unfold g2
  omega
theorem bstep3 (b x m : Nat) (hb : b % 16 ≤ 4 ∧ b / 16 ≤ 4) (hx : x % 16 ≤ 4) : ((b + 256 * x) / 16 + (b + 256 * x)) &&& (15 + 256 * m) = g3 b + 256 * ((x / 16 + x) &&& m) := by
  have e : (b + 256 * x) / 16 + (b + 256 * x) = (b / 16 + b + 16 * (x % 16)) + 256 * (x / 16 + x) := by omega
  rw [e, and_split _ _ _ _ (by omega) (by omega)]
  congr 1
  rw [show (15 : Nat) = 2 ^ 4 - 1 by rfl, Nat.and_two_pow_sub_one_eq_mod]
  unfold g3
  omega
theorem byte_all : ∀ b, b < 256 → g1 b < 256 ∧ g2 (g1 b) < 256 ∧ g2 (g1 b) % 16 ≤ 4 ∧ g2 (g1 b) / 16 ≤ 4 ∧ g3 (g2 (g1 b)) = cnt 8 b := by decide +kernel
/-- bytes put together -/
def B8 (b0 b1 b2 b3 b4 b5 b6 b7 : Nat) : Nat := b0 + 256 * (b1 + 256 * (b2 + 256 * (b3 + 256 * (b4 + 256 * (b5 + 256 * (b6 + 256 * (b7 + 256 * 0)))))))
theorem m0 : 6148914691236517205 = B8 85 85 85 85 85 85 85 85 := by decide
theorem m1 : 3689348814741910323 = B8 51 51 51 51 51 51 51 51 := by decide
theorem m2 : 1085102592571150095 = B8 15 15 15 15 15 15 15 15 := by decide
theorem bytes (x : Nat) (hx : x < 18446744073709551616) : ∃ b0 b1 b2 b3 b4 b5 b6 b7, b0 < 256 ∧ b1 < 256 ∧ b2 < 256 ∧ b3 < 256 ∧ b4 < 256 ∧ b5 < 256 ∧ b6 < 256 ∧ b7 < 256 ∧ x = B8 b0 b1 b2 b3 b4 b5 b6 b7 := by
  refine ⟨x % 256, x / 256 % 256, x / 65536 % 256, x / 16777216 % 256, x / 4294967296 % 256, x / 1099511627776 % 256, x / 281474976710656 % 256, x / 72057594037927936, by omega, by omega, by omega, by omega, by omega, by omega, by omega, by omega, ?_⟩
  unfold B8
  omega
def y1 (x : Nat) : Nat := (x / 2 &&& 6148914691236517205) + (x &&& 6148914691236517205)
def y2 (y : Nat) : Nat := (y / 4 &&& 3689348814741910323) + (y &&& 3689348814741910323)
def y3 (y : Nat) : Nat := (y / 16 + y) &&& 1085102592571150095
theorem y1_B8 {b0 b1 b2 b3 b4 b5 b6 b7 : Nat} (h0 : b0 < 256) (h1 : b1 < 256) (h2 : b2 < 256) (h3 : b3 < 256) (h4 : b4 < 256) (h5 : b5 < 256) (h6 : b6 < 256) (h7 : b7 < 256) :
    y1 (B8 b0 b1 b2 b3 b4 b5 b6 b7) = B8 (g1 b0) (g1 b1) (g1 b2) (g1 b3) (g1 b4) (g1 b5) (g1 b6) (g1 b7) := by
  unfold y1
  rw [m0]
  unfold B8
  rw [bstep1 _ _ _ h0, bstep1 _ _ _ h1, bstep1 _ _ _ h2, bstep1 _ _ _ h3, bstep1 _ _ _ h4, bstep1 _ _ _ h5, bstep1 _ _ _ h6, bstep1 _ _ _ h7]
  rfl
theorem y2_B8 {b0 b1 b2 b3 b4 b5 b6 b7 : Nat} (h0 : b0 < 256) (h1 : b1 < 256) (h2 : b2 < 256) (h3 : b3 < 256) (h4 : b4 < 256) (h5 : b5 < 256) (h6 : b6 < 256) (h7 : b7 < 256) :
    y2 (B8 b0 b1 b2 b3 b4 b5 b6 b7) = B8 (g2 b0) (g2 b1) (g2 b2) (g2 b3) (g2 b4) (g2 b5) (g2 b6) (g2 b7) := by
  unfold y2
  rw [m1]
  unfold B8
  rw [bstep2 _ _ _ h0, bstep2 _ _ _ h1, bstep2 _ _ _ h2, bstep2 _ _ _ h3, bstep2 _ _ _ h4, bstep2 _ _ _ h5, bstep2 _ _ _ h6, bstep2 _ _ _ h7]
  rfl
theorem y3_B8 {b0 b1 b2 b3 b4 b5 b6 b7 : Nat} (h0 : b0 % 16 ≤ 4 ∧ b0 / 16 ≤ 4) (h1 : b1 % 16 ≤ 4 ∧ b1 / 16 ≤ 4) (h2 : b2 % 16 ≤ 4 ∧ b2 / 16 ≤ 4) (h3 : b3 % 16 ≤ 4 ∧ b3 / 16 ≤ 4) (h4 : b4 % 16 ≤ 4 ∧ b4 / 16 ≤ 4) (h5 : b5 % 16 ≤ 4 ∧ b5 / 16 ≤ 4) (h6 : b6 % 16 ≤ 4 ∧ b6 / 16 ≤ 4) (h7 : b7 % 16 ≤ 4 ∧ b7 / 16 ≤ 4) :
    y3 (B8 b0 b1 b2 b3 b4 b5 b6 b7) = B8 (g3 b0) (g3 b1) (g3 b2) (g3 b3) (g3 b4) (g3 b5) (g3 b6) (g3 b7) := by
  unfold y3
  rw [m2]
  unfold B8
  rw [bstep3 _ _ _ h0 (by omega), bstep3 _ _ _ h1 (by omega), bstep3 _ _ _ h2 (by omega), bstep3 _ _ _ h3 (by omega), bstep3 _ _ _ h4 (by omega), bstep3 _ _ _ h5 (by omega), bstep3 _ _ _ h6 (by omega), bstep3 _ _ _ h7 (by omega)]
  rfl
def add8 (y : Nat) : Nat := y + y / 256
def add16 (y : Nat) : Nat := y + y / 65536
def add32 (y : Nat) : Nat := y + y / 4294967296
theorem adds {c0 c1 c2 c3 c4 c5 c6 c7 : Nat} (h0 : c0 ≤ 8) (h1 : c1 ≤ 8) (h2 : c2 ≤ 8) (h3 : c3 ≤ 8) (h4 : c4 ≤ 8) (h5 : c5 ≤ 8) (h6 : c6 ≤ 8) (h7 : c7 ≤ 8) :
    add32 (add16 (add8 (B8 c0 c1 c2 c3 c4 c5 c6 c7))) % 128 = c0 + c1 + c2 + c3 + c4 + c5 + c6 + c7 := by
  have e8 : add8 (B8 c0 c1 c2 c3 c4 c5 c6 c7) = B8 (c0 + c1) (c1 + c2) (c2 + c3) (c3 + c4) (c4 + c5) (c5 + c6) (c6 + c7) c7 := by
    unfold add8 B8; omega
  have e16 : add16 (B8 (c0 + c1) (c1 + c2) (c2 + c3) (c3 + c4) (c4 + c5) (c5 + c6) (c6 + c7) c7) = B8 (c0 + c1 + c2 + c3) (c1 + c2 + c3 + c4) (c2 + c3 + c4 + c5) (c3 + c4 + c5 + c6) (c4 + c5 + c6 + c7) (c5 + c6 + c7) (c6 + c7) c7 := by
    unfold add16 B8; omega
  have e32 : B8 (c0 + c1 + c2 + c3) (c1 + c2 + c3 + c4) (c2 + c3 + c4 + c5) (c3 + c4 + c5 + c6) (c4 + c5 + c6 + c7) (c5 + c6 + c7) (c6 + c7) c7 / 4294967296 = c4 + c5 + c6 + c7 + 256 * (c5 + c6 + c7 + 256 * (c6 + c7 + 256 * c7)) := by
    unfold B8; omega
  rw [e8, e16]
  unfold add32
  rw [e32]
  clear e8 e16 e32
  unfold B8
  omega
theorem st {b x m k : Nat} (h : b ≤ m) (hx : x ≤ k) : b + 256 * x ≤ m + 256 * k := Nat.add_le_add h (Nat.mul_le_mul_left 256 hx)
theorem B8_le {b0 b1 b2 b3 b4 b5 b6 b7 : Nat} (m : Nat) (h0 : b0 ≤ m) (h1 : b1 ≤ m) (h2 : b2 ≤ m) (h3 : b3 ≤ m) (h4 : b4 ≤ m) (h5 : b5 ≤ m) (h6 : b6 ≤ m) (h7 : b7 ≤ m) : B8 b0 b1 b2 b3 b4 b5 b6 b7 ≤ B8 m m m m m m m m :=
  st h0 (st h1 (st h2 (st h3 (st h4 (st h5 (st h6 (st h7 (Nat.le_refl _))))))))
theorem b255 : B8 255 255 255 255 255 255 255 255 < 18446744073709551616 := by decide
theorem b68 : B8 68 68 68 68 68 68 68 68 = 4919131752989213764 := by decide
theorem b8 : B8 8 8 8 8 8 8 8 8 = 578721382704613384 := by decide
theorem B8_lt {b0 b1 b2 b3 b4 b5 b6 b7 : Nat} (h0 : b0 < 256) (h1 : b1 < 256) (h2 : b2 < 256) (h3 : b3 < 256) (h4 : b4 < 256) (h5 : b5 < 256) (h6 : b6 < 256) (h7 : b7 < 256) : B8 b0 b1 b2 b3 b4 b5 b6 b7 < 18446744073709551616 :=
  Nat.lt_of_le_of_lt (B8_le 255 (Nat.le_of_lt_succ h0) (Nat.le_of_lt_succ h1) (Nat.le_of_lt_succ h2) (Nat.le_of_lt_succ h3) (Nat.le_of_lt_succ h4) (Nat.le_of_lt_succ h5) (Nat.le_of_lt_succ h6) (Nat.le_of_lt_succ h7)) b255
theorem B8_le68 {b0 b1 b2 b3 b4 b5 b6 b7 : Nat} (h0 : b0 ≤ 68) (h1 : b1 ≤ 68) (h2 : b2 ≤ 68) (h3 : b3 ≤ 68) (h4 : b4 ≤ 68) (h5 : b5 ≤ 68) (h6 : b6 ≤ 68) (h7 : b7 ≤ 68) : B8 b0 b1 b2 b3 b4 b5 b6 b7 ≤ 4919131752989213764 :=
  b68 ▸ B8_le 68 h0 h1 h2 h3 h4 h5 h6 h7
theorem B8_le8 {b0 b1 b2 b3 b4 b5 b6 b7 : Nat} (h0 : b0 ≤ 8) (h1 : b1 ≤ 8) (h2 : b2 ≤ 8) (h3 : b3 ≤ 8) (h4 : b4 ≤ 8) (h5 : b5 ≤ 8) (h6 : b6 ≤ 8) (h7 : b7 ≤ 8) : B8 b0 b1 b2 b3 b4 b5 b6 b7 ≤ 578721382704613384 :=
  b8 ▸ B8_le 8 h0 h1 h2 h3 h4 h5 h6 h7
theorem le68 {x : Nat} (h : x / 16 ≤ 4) (h' : x % 16 ≤ 4) : x ≤ 68 := by omega
theorem cnt_B8 {b0 b1 b2 b3 b4 b5 b6 b7 : Nat} (h0 : b0 < 256) (h1 : b1 < 256) (h2 : b2 < 256) (h3 : b3 < 256) (h4 : b4 < 256) (h5 : b5 < 256) (h6 : b6 < 256) (h7 : b7 < 256) :
    cnt 64 (B8 b0 b1 b2 b3 b4 b5 b6 b7) = cnt 8 b0 + cnt 8 b1 + cnt 8 b2 + cnt 8 b3 + cnt 8 b4 + cnt 8 b5 + cnt 8 b6 + cnt 8 b7 := by
  unfold B8
  rw [show (64 : Nat) = 0 + 8 + 8 + 8 + 8 + 8 + 8 + 8 + 8 by rfl, cnt_split _ _ _ h0, cnt_split _ _ _ h1, cnt_split _ _ _ h2, cnt_split _ _ _ h3, cnt_split _ _ _ h4, cnt_split _ _ _ h5, cnt_split _ _ _ h6, cnt_split _ _ _ h7]
  have e : cnt 0 0 = 0 := rfl
  rw [e]
  omega
/-- the count of bits, as it is computed -/
def pop (x : Nat) : Nat := add32 (add16 (add8 (y3 (y2 (y1 x))))) % 128
theorem pop_eq (x : Nat) (hx : x < 18446744073709551616) : pop x = cnt 64 x ∧ y1 x < 18446744073709551616 ∧ y2 (y1 x) < 18446744073709551616 ∧ y2 (y1 x) / 16 + y2 (y1 x) < 18446744073709551616 ∧ y3 (y2 (y1 x)) ≤ 578721382704613384 := by
  obtain ⟨b0, b1, b2, b3, b4, b5, b6, b7, h0, h1, h2, h3, h4, h5, h6, h7, rfl⟩ := bytes x hx
  obtain ⟨a0, a0', n0, n0', e0⟩ := byte_all b0 h0
  obtain ⟨a1, a1', n1, n1', e1⟩ := byte_all b1 h1
  obtain ⟨a2, a2', n2, n2', e2⟩ := byte_all b2 h2
  obtain ⟨a3, a3', n3, n3', e3⟩ := byte_all b3 h3
  obtain ⟨a4, a4', n4, n4', e4⟩ := byte_all b4 h4
  obtain ⟨a5, a5', n5, n5', e5⟩ := byte_all b5 h5
  obtain ⟨a6, a6', n6, n6', e6⟩ := byte_all b6 h6
  obtain ⟨a7, a7', n7, n7', e7⟩ := byte_all b7 h7
  have l0 := cnt_le 8 b0
  have l1 := cnt_le 8 b1
  have l2 := cnt_le 8 b2
  have l3 := cnt_le 8 b3
  have l4 := cnt_le 8 b4
  have l5 := cnt_le 8 b5
  have l6 := cnt_le 8 b6
  have l7 := cnt_le 8 b7
  have hc := cnt_B8 h0 h1 h2 h3 h4 h5 h6 h7
  have E1 := y1_B8 h0 h1 h2 h3 h4 h5 h6 h7
  have E2 := y2_B8 a0 a1 a2 a3 a4 a5 a6 a7
  have E3 := y3_B8 ⟨n0, n0'⟩ ⟨n1, n1'⟩ ⟨n2, n2'⟩ ⟨n3, n3'⟩ ⟨n4, n4'⟩ ⟨n5, n5'⟩ ⟨n6, n6'⟩ ⟨n7, n7'⟩
  rw [e0, e1, e2, e3, e4, e5, e6, e7] at E3
  rw [← E1] at E2
  rw [← E2] at E3
  have E4 := adds l0 l1 l2 l3 l4 l5 l6 l7
  rw [← E3, ← hc] at E4
  have q2 : y2 (y1 (B8 b0 b1 b2 b3 b4 b5 b6 b7)) ≤ 4919131752989213764 := by
    rw [E2]; exact B8_le68 (le68 n0' n0) (le68 n1' n1) (le68 n2' n2) (le68 n3' n3) (le68 n4' n4) (le68 n5' n5) (le68 n6' n6) (le68 n7' n7)
  refine ⟨E4, ?_, ?_, ?_, ?_⟩
  · rw [E1]; exact B8_lt a0 a1 a2 a3 a4 a5 a6 a7
  · exact Nat.lt_of_le_of_lt q2 (by decide)
  · clear E1 E2 E3 E4 hc; generalize y2 (y1 (B8 b0 b1 b2 b3 b4 b5 b6 b7)) = y at *; clear h0 h1 h2 h3 h4 h5 h6 h7 l0 l1 l2 l3 l4 l5 l6 l7; omega
  · rw [E3]; exact B8_le8 l0 l1 l2 l3 l4 l5 l6 l7
/-! sets of nodes -/
abbrev NSet := BitVec 64
/-- how many nodes -/
def card (s : NSet) : Nat := (List.range 64).countP (fun i => s.getLsbD i)
theorem card_cnt (s : NSet) : card s = cnt 64 s.toNat := by
  rw [cnt_countP]; rfl
theorem card_le (s : NSet) : card s ≤ 64 := by
  have := List.countP_le_length (p := fun i => s.getLsbD i) (l := List.range 64)
  simpa [card] using this
theorem countP_add (p q : Nat → Bool) : ∀ l : List Nat, l.countP (fun i => p i && q i) + l.countP (fun i => p i || q i) = l.countP p + l.countP q
  | [] => rfl
  | x :: l => by
    have ih := countP_add p q l
    simp only [List.countP_cons]
    cases p x <;> cases q x <;> simp <;> omega
theorem card_or (a b : NSet) : card (a &&& b) + card (a ||| b) = card a + card b := by
  have := countP_add (fun i => a.getLsbD i) (fun i => b.getLsbD i) (List.range 64)
  unfold card
  simp only [BitVec.getLsbD_and, BitVec.getLsbD_or]
  exact this
theorem card_zero : card 0#64 = 0 := by decide
theorem countP_zero {p : Nat → Bool} {l : List Nat} (h : l.countP p = 0) : ∀ x ∈ l, p x = false := by
  intro x hx
  have := List.countP_eq_zero.1 h x hx
  simpa using this
theorem card_eq_zero {s : NSet} (h : card s = 0) : s = 0#64 := by
  apply BitVec.eq_of_getLsbD_eq
  intro i hi
  rw [countP_zero h i (List.mem_range.2 hi), BitVec.getLsbD_zero]
/-- a is in b -/
def Sub (a b : NSet) : Prop := a &&& ~~~b = 0#64
theorem get_diff (a b : NSet) (i : Nat) (hi : i < 64) : (a &&& ~~~b).getLsbD i = (a.getLsbD i && !b.getLsbD i) := by
  rw [BitVec.getLsbD_and, BitVec.getLsbD_not]
  simp only [hi, decide_true, Bool.true_and]
theorem sub_iff {a b : NSet} : Sub a b ↔ ∀ i, i < 64 → a.getLsbD i = true → b.getLsbD i = true := by
  unfold Sub
  constructor
  · intro h i hi ha
    have := congrArg (fun x : NSet => x.getLsbD i) h
    simp only [get_diff a b i hi, BitVec.getLsbD_zero, ha, Bool.true_and] at this
    simpa using this
  · intro h
    apply BitVec.eq_of_getLsbD_eq
    intro i hi
    rw [get_diff a b i hi, BitVec.getLsbD_zero]
    cases ha : a.getLsbD i with
    | false => rfl
    | true => rw [h i hi ha]; rfl
theorem card_diff {a b : NSet} (h : Sub b a) : card (a &&& ~~~b) + card b = card a := by
  have h1 := card_or (a &&& ~~~b) b
  have e1 : (a &&& ~~~b) &&& b = 0#64 := by
    apply BitVec.eq_of_getLsbD_eq
    intro i hi
    rw [BitVec.getLsbD_and, get_diff a b i hi, BitVec.getLsbD_zero]
    cases b.getLsbD i <;> simp
  have e2 : (a &&& ~~~b) ||| b = a := by
    apply BitVec.eq_of_getLsbD_eq
    intro i hi
    rw [BitVec.getLsbD_or, get_diff a b i hi]
    have := sub_iff.1 h i hi
    cases hb : b.getLsbD i with
    | false => simp only [Bool.not_false, Bool.and_true, Bool.or_false]
    | true => rw [this hb]; rfl
  rw [e1, e2, card_zero] at h1
  omega
theorem card_mono {a b : NSet} (h : Sub a b) : card a ≤ card b := by have := card_diff h; omega
/-- one node, or none -/
def oneI (n : Int) : NSet := if n < 0 then 0#64 else BitVec.twoPow 64 n.toNat
theorem oneI_get (n : Int) (i : Nat) : (oneI n).getLsbD i = (decide (i < 64) && decide (n = (i : Int))) := by
  unfold oneI
  split
  · rw [BitVec.getLsbD_zero]
    have : ¬ n = (i : Int) := by omega
    simp only [this, decide_false, Bool.and_false]
  · rw [BitVec.getLsbD_twoPow]
    by_cases hn : n = (i : Int)
    · have : n.toNat = i := by omega
      rw [this]
      simp only [hn, decide_true, Bool.and_true]
    · have : ¬ n.toNat = i := by omega
      simp only [hn, this, decide_false, Bool.and_false]
/-- is a node in it? -/
def hasI (s : NSet) (n : Int) : Bool := decide (0 ≤ n) && s.getLsbD n.toNat
theorem hasI_nat (s : NSet) (k : Nat) : hasI s (k : Int) = s.getLsbD k := by simp [hasI]
theorem and_one_get (s : NSet) (n : Int) (i : Nat) (hi : i < 64) : (s &&& oneI n).getLsbD i = (s.getLsbD i && decide (n = (i : Int))) := by
  rw [BitVec.getLsbD_and, oneI_get]
  simp only [hi, decide_true, Bool.true_and]
theorem and_one (s : NSet) (n : Int) : (s &&& oneI n = 0#64) ↔ hasI s n = false := by
  constructor
  · intro h
    unfold hasI
    by_cases h0 : 0 ≤ n
    · by_cases h6 : n.toNat < 64
      · have := congrArg (fun x : NSet => x.getLsbD n.toNat) h
        simp only [and_one_get s n n.toNat h6, Int.toNat_of_nonneg h0, decide_true, Bool.and_true, BitVec.getLsbD_zero] at this
        rw [this, Bool.and_false]
      · rw [BitVec.getLsbD_of_ge _ _ (by omega), Bool.and_false]
    · simp only [h0, decide_false, Bool.false_and]
  · intro h
    apply BitVec.eq_of_getLsbD_eq
    intro i hi
    rw [and_one_get s n i hi, BitVec.getLsbD_zero]
    by_cases hn : n = (i : Int)
    · subst hn
      rw [hasI_nat] at h
      rw [h]; rfl
    · simp only [hn, decide_false, Bool.and_false]
theorem card_one {i : Nat} (hi : i < 64) : card (oneI (i : Int)) = 1 := by
  have : ∀ i, i < 64 → card (BitVec.twoPow 64 i) = 1 := by decide +kernel
  have e : oneI (i : Int) = BitVec.twoPow 64 i := by unfold oneI; rw [if_neg (by omega)]; simp
  rw [e]; exact this i hi
/-! the least node -/
theorem ctz_bit : ∀ f x, 0 < x → x < 2 ^ f → x.testBit (Lib.ctzFrom f x) = true ∧ Lib.ctzFrom f x < f ∧ ∀ i, i < Lib.ctzFrom f x → x.testBit i = false
  | 0, x, h0, h => by simp at h; omega
  | f + 1, x, h0, h => by
    unfold Lib.ctzFrom
    split
    · rename_i h1
      exact ⟨by rw [Nat.testBit_zero]; simp [h1], by omega, fun i hi => by omega⟩
    · rename_i h1
      obtain ⟨a, b, c⟩ := ctz_bit f (x / 2) (by omega) (by rw [Nat.pow_succ] at h; omega)
      refine ⟨by rw [Nat.add_comm, Nat.testBit_succ]; exact a, by omega, fun i hi => ?_⟩
      cases i with
      | zero => rw [Nat.testBit_zero]; simp; omega
      | succ i => rw [Nat.testBit_succ]; exact c i (by omega)
def lowN (s : NSet) : Nat := Lib.ctz 64 s.toNat
theorem lowN_spec {s : NSet} (h : s ≠ 0#64) : lowN s < 64 ∧ s.getLsbD (lowN s) = true ∧ ∀ i, i < lowN s → s.getLsbD i = false := by
  have h0 : s.toNat ≠ 0 := fun e => h (BitVec.eq_of_toNat_eq (by simpa using e))
  have := ctz_bit 64 s.toNat (by omega) s.isLt
  unfold lowN Lib.ctz
  rw [if_neg h0]
  exact ⟨this.2.1, this.1, this.2.2⟩
def lowI (s : NSet) : Int := if s = 0#64 then -1 else (lowN s : Int)
/-- so many of the least nodes -/
def tk : Nat → NSet → NSet
  | 0, _ => 0#64
  | k + 1, s => tk k s ||| oneI (lowI (s &&& ~~~ tk k s))
theorem sub_trans {a b c : NSet} (h : Sub a b) (h' : Sub b c) : Sub a c := sub_iff.2 fun i hi ha => sub_iff.1 h' i hi (sub_iff.1 h i hi ha)
theorem sub_refl (a : NSet) : Sub a a := sub_iff.2 fun _ _ h => h
theorem sub_zero (a : NSet) : Sub 0#64 a := sub_iff.2 fun i _ h => by rw [BitVec.getLsbD_zero] at h; cases h
theorem card_with {t : NSet} {i : Nat} (hi : i < 64) (h : t.getLsbD i = false) : card (t ||| oneI (i : Int)) = card t + 1 := by
  have h1 := card_or t (oneI (i : Int))
  have e : t &&& oneI (i : Int) = 0#64 := (and_one t i).2 (by rw [hasI_nat]; exact h)
  rw [e, card_zero, card_one hi] at h1
  omega
theorem tk_spec (s : NSet) : ∀ k, k ≤ card s → Sub (tk k s) s ∧ card (tk k s) = k
  | 0, _ => ⟨sub_zero s, card_zero⟩
  | k + 1, hk => by
    obtain ⟨h1, h2⟩ := tk_spec s k (by omega)
    have hd := card_diff h1
    have hne : s &&& ~~~ tk k s ≠ 0#64 := fun e => by rw [e, card_zero] at hd; omega
    obtain ⟨l1, l2, _⟩ := lowN_spec hne
    have hlow : lowI (s &&& ~~~ tk k s) = ((lowN (s &&& ~~~ tk k s) : Nat) : Int) := by unfold lowI; rw [if_neg hne]
    rw [get_diff _ _ _ l1] at l2
    simp only [Bool.and_eq_true, Bool.not_eq_true'] at l2
    rw [tk, hlow]
    refine ⟨sub_iff.2 fun i hi hg => ?_, by rw [card_with l1 l2.2, h2]⟩
    rw [BitVec.getLsbD_or, oneI_get] at hg
    simp only [Bool.or_eq_true, Bool.and_eq_true, decide_eq_true_eq] at hg
    rcases hg with hg | ⟨_, hg⟩
    · exact sub_iff.1 h1 i hi hg
    · have : i = lowN (s &&& ~~~ tk k s) := by omega
      rw [this]; exact l2.1
/-- the first ones -/
def firstI (n : Int) : NSet := BitVec.ofNat 64 (2 ^ min n.toNat 64 - 1)
theorem firstI_get (n : Int) (i : Nat) (hi : i < 64) : (firstI n).getLsbD i = decide ((i : Int) < n) := by
  unfold firstI
  rw [BitVec.getLsbD_ofNat, Nat.testBit_two_pow_sub_one]
  by_cases h : (i : Int) < n
  · have : i < min n.toNat 64 := by omega
    simp only [hi, this, h, decide_true, Bool.and_true]
  · have : ¬ i < min n.toNat 64 := by omega
    simp only [this, h, decide_false, Bool.and_false]
theorem all_shr : ∀ k, k < 65 → 18446744073709551615 / 2 ^ (64 - k) = 2 ^ k - 1 := by decide +kernel
theorem firstI_toNat (n : Int) : (firstI n).toNat = 2 ^ min n.toNat 64 - 1 := by
  unfold firstI
  rw [BitVec.toNat_ofNat]
  apply Nat.mod_eq_of_lt
  have : 2 ^ min n.toNat 64 ≤ 2 ^ 64 := Nat.pow_le_pow_right (by decide) (Nat.min_le_right _ _)
  have h2 : 0 < 2 ^ min n.toNat 64 := Nat.pow_pos (by decide)
  omega
end Go.Proofs.YtnofgffkfapodaaDoor
namespace Go.Proofs.YtnofgffkfapodaaDoor
set_option linter.unusedVariables false
open Go

/-- the set without its least node -/
def restS (s : NSet) : NSet := s &&& ~~~(oneI (lowI s))
theorem lowI_pos {s : NSet} (h : s ≠ 0#64) : lowI s = (lowN s : Int) := by unfold lowI; rw [if_neg h]
theorem card_rest {s : NSet} (h : s ≠ 0#64) : card (restS s) + 1 = card s := by
  obtain ⟨h1, h2, _⟩ := lowN_spec h
  unfold restS
  rw [lowI_pos h]
  have hs : Sub (oneI ((lowN s : Nat) : Int)) s := sub_iff.2 fun i hi hg => by
    rw [oneI_get] at hg
    simp only [hi, decide_true, Bool.true_and, decide_eq_true_eq] at hg
    obtain rfl : lowN s = i := by omega
    exact h2
  have := card_diff hs
  rw [card_one h1] at this
  exact this
def nodesF : Nat → NSet → List Int
  | 0, _ => []
  | k + 1, s => if s = 0#64 then [] else lowI s :: nodesF k (restS s)
/-- its nodes, rising -/
def nodes (s : NSet) : List Int := nodesF (card s) s
theorem nodes_zero : nodes 0#64 = [] := by unfold nodes; rw [card_zero]; rfl
theorem nodes_cons {s : NSet} (h : s ≠ 0#64) : nodes s = lowI s :: nodes (restS s) := by
  unfold nodes
  rw [← card_rest h]
  show (if s = 0#64 then [] else _) = _
  rw [if_neg h]
theorem nodes_length : ∀ (k : Nat) (s : NSet), card s = k → (nodes s).length = k
  | 0, s, h => by rw [card_eq_zero h, nodes_zero]; rfl
  | k + 1, s, h => by
    have hs : s ≠ 0#64 := fun e => by rw [e, card_zero] at h; omega
    rw [nodes_cons hs, List.length_cons, nodes_length k (restS s) (by have := card_rest hs; omega)]
theorem nodes_46 : nodes 46#64 = [1, 2, 3, 5] := by decide +kernel
end Go.Proofs.YtnofgffkfapodaaDoor
