/- The words of a set's text, out of its nodes; and that the text tells the set. Plain facts, no condition. -/
import Derived.Test.YtdpfbpmdpdfpdaaDoorBitsNodes
import Derived.Lib.ItoaNum
import Derived.Lib.Join
namespace Go.Proofs.YtdpfbpmdpdfpdaaDoor
set_option linter.unusedVariables false
open Go

theorem list_rev {α : Type} {P : List α → Prop} (h0 : P []) (h1 : ∀ l x, P l → P (l ++ [x])) (l : List α) : P l := by
  have : ∀ r : List α, P r.reverse := fun r => by
    induction r with
    | nil => exact h0
    | cons x r ih => rw [List.reverse_cons]; exact h1 _ _ ih
  have h := this l.reverse
  rwa [List.reverse_reverse] at h
theorem hasI_iff (s : NSet) (n : Int) : hasI s n = true ↔ 0 ≤ n ∧ s.getLsbD n.toNat = true := by
  unfold hasI; simp
theorem hasI_lt {s : NSet} {n : Int} (h : hasI s n = true) : 0 ≤ n ∧ n < 64 := by
  obtain ⟨h0, h1⟩ := (hasI_iff s n).1 h
  refine ⟨h0, ?_⟩
  by_cases h6 : n.toNat < 64
  · omega
  · rw [BitVec.getLsbD_of_ge _ _ (by omega)] at h1; cases h1
theorem hasI_low {s : NSet} (h : s ≠ 0#64) : hasI s (lowI s) = true := by
  rw [lowI_pos h, hasI_nat]; exact (lowN_spec h).2.1
theorem low_le {s : NSet} (h : s ≠ 0#64) {n : Int} (hn : hasI s n = true) : lowI s ≤ n := by
  obtain ⟨h0, h1⟩ := (hasI_iff s n).1 hn
  rw [lowI_pos h]
  by_cases hlt : n.toNat < lowN s
  · rw [(lowN_spec h).2.2 _ hlt] at h1; cases h1
  · omega
theorem low_lt {s : NSet} (h : s ≠ 0#64) : 0 ≤ lowI s ∧ lowI s < 64 := hasI_lt (hasI_low h)
theorem hasI_rest {s : NSet} (h : s ≠ 0#64) (n : Int) : hasI (restS s) n = true ↔ hasI s n = true ∧ n ≠ lowI s := by
  constructor
  · intro hr
    have hl := hasI_lt hr
    obtain ⟨h0, h1⟩ := (hasI_iff _ n).1 hr
    unfold restS at h1
    rw [get_diff _ _ _ (by omega), oneI_get] at h1
    simp only [Bool.and_eq_true, Bool.not_eq_true', Bool.and_eq_false_iff, decide_eq_false_iff_not] at h1
    refine ⟨(hasI_iff s n).2 ⟨h0, h1.1⟩, fun e => ?_⟩
    rcases h1.2 with h2 | h2 <;> omega
  · rintro ⟨hr, hne⟩
    have hl := hasI_lt hr
    obtain ⟨h0, h1⟩ := (hasI_iff _ n).1 hr
    refine (hasI_iff _ n).2 ⟨h0, ?_⟩
    unfold restS
    rw [get_diff _ _ _ (by omega), oneI_get]
    simp only [Bool.and_eq_true, Bool.not_eq_true', Bool.and_eq_false_iff, decide_eq_false_iff_not]
    exact ⟨h1, .inr (by omega)⟩
theorem nodes_mem : ∀ (k : Nat) (s : NSet), card s = k → ∀ n, n ∈ nodes s ↔ hasI s n = true
  | 0, s, h, n => by
    rw [card_eq_zero h, nodes_zero]
    simp [hasI]
  | k + 1, s, h, n => by
    have hs : s ≠ 0#64 := fun e => by rw [e, card_zero] at h; omega
    rw [nodes_cons hs, List.mem_cons, nodes_mem k (restS s) (by have := card_rest hs; omega), hasI_rest hs]
    constructor
    · rintro (rfl | h1)
      · exact hasI_low hs
      · exact h1.1
    · intro h1
      by_cases e : n = lowI s
      · exact .inl e
      · exact .inr ⟨h1, e⟩
theorem nodes_sorted : ∀ (k : Nat) (s : NSet), card s = k → (nodes s).Pairwise (· < ·)
  | 0, s, h => by rw [card_eq_zero h, nodes_zero]; exact .nil
  | k + 1, s, h => by
    have hs : s ≠ 0#64 := fun e => by rw [e, card_zero] at h; omega
    have hr : card (restS s) = k := by have := card_rest hs; omega
    rw [nodes_cons hs]
    refine .cons (fun n hn => ?_) (nodes_sorted k _ hr)
    obtain ⟨h1, h2⟩ := (hasI_rest hs n).1 ((nodes_mem k _ hr n).1 hn)
    have := low_le hs h1
    omega
/-! digits, words -/
def dec2 (n : Nat) : List UInt8 := if n < 10 then [UInt8.ofNat (48 + n)] else [UInt8.ofNat (48 + n / 10), UInt8.ofNat (48 + n % 10)]
theorem dec2_eq {n : Nat} (h : n < 100) : Lib.decDigits n = dec2 n := by
  unfold dec2
  split
  · exact Lib.decDigits_one ‹_›
  · exact Lib.decDigits_two ‹_› h
/-- nodes that follow one another, as words -/
def rowT (f x : Int) : List (List UInt8) :=
  if x - f = 0 then [dec2 f.toNat] else if x - f = 1 then [dec2 f.toNat, dec2 x.toNat] else [dec2 f.toNat ++ 45 :: dec2 x.toNat]
theorem rowT_length (f x : Int) : 1 ≤ (rowT f x).length ∧ (rowT f x).length ≤ 2 := by
  unfold rowT; split
  · simp
  · split <;> simp
/-- the words of nodes that rise; `o`: where the nodes that go on here began -/
def toks : Option Int → List Int → List (List UInt8)
  | _, [] => []
  | o, x :: t => if t.head? = some (x + 1) then toks (some (o.getD x)) t else rowT (o.getD x) x ++ toks none t
/-- the text of nodes that rise -/
def textT (l : List Int) : List UInt8 := if l = [] then [110, 111, 110, 101] else Lib.join (toks none l) [44]
theorem toks_ne : ∀ (o : Option Int) (l : List Int), l ≠ [] → toks o l ≠ []
  | _, [], h => absurd rfl h
  | o, x :: t, _ => by
    rw [toks]
    split
    · rename_i ht
      refine toks_ne _ t (fun e => by rw [e] at ht; simp at ht)
    · have := (rowT_length (o.getD x) x).1
      intro e
      have := congrArg List.length e
      rw [List.length_append, List.length_nil] at this
      omega
/-! as the program makes them -/
def stepT (s : NSet) (p : Int × List (List UInt8)) (x : Int) : Int × List (List UInt8) :=
  (if hasI s (x - 1) = true then p.1 else x, if hasI s (x + 1) = true then p.2 else p.2 ++ rowT (if hasI s (x - 1) = true then p.1 else x) x)
def foldT (s : NSet) (l : List Int) : Int × List (List UInt8) := l.foldl (stepT s) (0, [])
theorem foldT_snoc (s : NSet) (l : List Int) (x : Int) : foldT s (l ++ [x]) = stepT s (foldT s l) x := by unfold foldT; rw [List.foldl_append]; rfl
theorem foldT_length (s : NSet) (l : List Int) : (foldT s l).2.length ≤ 2 * l.length := by
  induction l using list_rev with
  | h0 => simp [foldT]
  | h1 l x ih =>
    rw [foldT_snoc, List.length_append]
    unfold stepT
    simp only
    split
    · simp only [List.length_singleton]; omega
    · have := (rowT_length (if hasI s (x - 1) = true then (foldT s l).1 else x) x).2
      simp only [List.length_append, List.length_singleton]
      omega
theorem foldT_first (s : NSet) (l : List Int) (h : ∀ x ∈ l, 0 ≤ x ∧ x < 64) : 0 ≤ (foldT s l).1 ∧ (foldT s l).1 < 64 := by
  induction l using list_rev with
  | h0 => simp [foldT]
  | h1 l x ih =>
    have h1 := ih (fun y hy => h y (by simp [hy]))
    have h2 := h x (by simp)
    rw [foldT_snoc]
    unfold stepT
    simp only
    split
    · exact h1
    · exact h2
/-- where the nodes that go on began -/
def openT (s : NSet) (pre : List Int) : Option Int := match pre.getLast? with | none => none | some y => if hasI s (y + 1) = true then some (foldT s pre).1 else none
theorem fold_toks (s : NSet) (pre : List Int) : ∀ rest, nodes s = pre ++ rest → toks none (nodes s) = (foldT s pre).2 ++ toks (openT s pre) rest := by
  have hM := nodes_mem (card s) s rfl
  have hS := nodes_sorted (card s) s rfl
  induction pre using list_rev with
  | h0 =>
    intro rest h
    rw [List.nil_append] at h
    rw [h]; rfl
  | h1 pre x ih =>
    intro rest h
    have ih' := ih (x :: rest) (by rw [h]; simp)
    rw [ih', toks, foldT_snoc]
    rw [h] at hS
    rw [List.pairwise_append] at hS
    obtain ⟨hS1, hS2, hS3⟩ := hS
    rw [List.pairwise_append] at hS1
    obtain ⟨_, _, hS4⟩ := hS1
    have e1 : (openT s pre).getD x = if hasI s (x - 1) = true then (foldT s pre).1 else x := by
      unfold openT
      cases hl : pre.getLast? with
      | none =>
        obtain rfl : pre = [] := List.getLast?_eq_none_iff.1 hl
        rw [if_neg]
        · rfl
        · intro hx
          have := (hM _).2 hx
          rw [h] at this
          simp at this
          rcases this with h' | h'
          · omega
          · have := hS3 x (by simp) _ h'; omega
      | some y =>
        have hy : y ∈ pre := List.mem_of_getLast? hl
        have hyx : y < x := hS4 y hy x (by simp)
        simp only
        by_cases h1 : hasI s (y + 1) = true
        · have hm := (hM _).2 h1
          rw [h] at hm
          simp only [List.mem_append, List.mem_singleton] at hm
          have hx : x = y + 1 := by
            rcases hm with (h' | h') | h'
            · obtain ⟨q, hq⟩ := List.getLast?_eq_some_iff.1 hl
              rw [hq] at h'
              simp only [List.mem_append, List.mem_singleton] at h'
              rcases h' with h' | h'
              · have hp : (q ++ [y]).Pairwise (· < ·) := by rw [← hq]; exact ‹(pre.Pairwise (· < ·))›
                have := (List.pairwise_append.1 hp).2.2 _ h' y (by simp)
                omega
              · omega
            · exact h'.symm
            · have := hS3 x (by simp) _ h'; omega
          rw [if_pos h1, if_pos]
          · rfl
          · rw [hx]
            refine (hM _).1 ?_
            rw [h, show y + 1 - 1 = y by omega]
            simp [hy]
        · rw [if_neg h1, if_neg]
          · rfl
          · intro hx
            have hm := (hM _).2 hx
            rw [h] at hm
            simp only [List.mem_append, List.mem_singleton] at hm
            rcases hm with (h' | h') | h'
            · obtain ⟨q, hq⟩ := List.getLast?_eq_some_iff.1 hl
              have h'' := h'
              rw [hq] at h''
              simp only [List.mem_append, List.mem_singleton] at h''
              have hle : x - 1 ≤ y := by
                rcases h'' with h'' | h''
                · have hp : (q ++ [y]).Pairwise (· < ·) := by rw [← hq]; exact ‹(pre.Pairwise (· < ·))›
                  have := (List.pairwise_append.1 hp).2.2 _ h'' y (by simp)
                  omega
                · omega
              have : x = y + 1 := by omega
              refine h1 ?_
              rw [← this]
              refine (hM _).1 ?_
              rw [h]; simp
            · omega
            · have := hS3 x (by simp) _ h'; omega
    have e2 : rest.head? = some (x + 1) ↔ hasI s (x + 1) = true := by
      constructor
      · intro hr
        refine (hM _).1 ?_
        rw [h]
        have := List.mem_of_mem_head? hr
        simp [this]
      · intro hx
        have hm := (hM _).2 hx
        rw [h] at hm
        simp only [List.mem_append, List.mem_singleton] at hm
        rcases hm with (h' | h') | h'
        · have := hS4 _ h' x (by simp); omega
        · omega
        · cases rest with
          | nil => cases h'
          | cons z rest =>
            have hz := hS3 x (by simp) z (by simp)
            rcases List.mem_cons.1 h' with h' | h'
            · rw [List.head?_cons, h']
            · have := (List.pairwise_cons.1 hS2).1 _ h'
              omega
    have e3 : openT s (pre ++ [x]) = if hasI s (x + 1) = true then some (if hasI s (x - 1) = true then (foldT s pre).1 else x) else none := by
      unfold openT
      rw [List.getLast?_concat, foldT_snoc]
      rfl
    rw [e1, e3]
    unfold stepT
    by_cases hx : hasI s (x + 1) = true
    · rw [if_pos (e2.2 hx), if_pos hx, if_pos hx]
    · rw [if_neg (fun h' => hx (e2.1 h')), if_neg hx, if_neg hx, List.append_assoc]
theorem fold_all (s : NSet) : (foldT s (nodes s)).2 = toks none (nodes s) := by
  have := fold_toks s (nodes s) [] (by simp)
  rw [this, toks, List.append_nil]
/-! the text tells the set -/
def rng (f x : Nat) : NSet := BitVec.ofNat 64 (2 ^ (x + 1) - 2 ^ f)
def rdStep (p : NSet × Option Nat × Nat) (c : UInt8) : NSet × Option Nat × Nat :=
  if c = 44 then (p.1 ||| rng (p.2.1.getD p.2.2) p.2.2, none, 0) else if c = 45 then (p.1, some p.2.2, 0) else (p.1, p.2.1, p.2.2 * 10 + (c.toNat - 48))
def rd (l : List UInt8) : NSet := ((l ++ [44]).foldl rdStep (0#64, none, 0)).1
theorem rdStep_acc (acc : NSet) (a : Option Nat) (c : Nat) (x : UInt8) : rdStep (acc, a, c) x = (acc ||| (rdStep (0#64, a, c) x).1, (rdStep (0#64, a, c) x).2) := by
  unfold rdStep
  simp only
  split
  · simp
  · split
    · simp
    · simp
theorem rd_acc (l : List UInt8) : ∀ (p : NSet × Option Nat × Nat), l.foldl rdStep p = (p.1 ||| (l.foldl rdStep (0#64, p.2)).1, (l.foldl rdStep (0#64, p.2)).2) := by
  induction l with
  | nil => intro p; simp
  | cons x l ih =>
    rintro ⟨acc, a, c⟩
    rw [List.foldl_cons, List.foldl_cons, rdStep_acc, ih, ih (rdStep (0#64, a, c) x)]
    simp only [BitVec.or_assoc]
def flat (ws : List (List UInt8)) : List UInt8 := ws.flatMap (· ++ [44])
theorem join_flat : ∀ (ws : List (List UInt8)), ws ≠ [] → Lib.join ws [44] ++ [44] = flat ws
  | [], h => absurd rfl h
  | [x], _ => by rw [Lib.join_one]; simp [flat]
  | x :: y :: r, _ => by
    have ih := join_flat (y :: r) (by simp)
    unfold flat at ih ⊢
    rw [List.flatMap_cons, ← ih]
    simp [Lib.join, List.intercalate]
def rowOk (f x : Nat) : Bool := match (flat (rowT (f : Nat) (x : Nat))).foldl rdStep (0#64, none, 0) with
  | (s, none, 0) => s == rng f x
  | _ => false
theorem rowOk_all : ∀ f, f < 64 → ∀ x, x < 64 → (!decide (f ≤ x) || rowOk f x) = true := by decide +kernel
theorem row_rd (f : Nat) (hf : f < 64) (x : Nat) (hx : x < 64) (h : f ≤ x) : (flat (rowT (f : Nat) (x : Nat))).foldl rdStep (0#64, none, 0) = (rng f x, none, 0) := by
  have := rowOk_all f hf x hx
  simp only [h, decide_true, Bool.not_true, Bool.false_or] at this
  unfold rowOk at this
  split at this
  · rename_i s hs
    rw [hs, eq_of_beq this]
  · cases this
theorem rng_next : ∀ f, f < 64 → ∀ x, x < 63 → f ≤ x → rng f (x + 1) = rng f x ||| BitVec.twoPow 64 (x + 1) := by decide +kernel
theorem rng_one : ∀ x, x < 64 → rng x x = BitVec.twoPow 64 x := by decide +kernel
/-- nodes, together -/
def ofL (l : List Int) : NSet := l.foldr (fun x s => oneI x ||| s) 0#64
theorem oneI_nat (x : Int) (h : 0 ≤ x) : oneI x = BitVec.twoPow 64 x.toNat := by unfold oneI; rw [if_neg (by omega)]
theorem toks_rd (l : List Int) : ∀ (o : Option Int), l.Pairwise (· < ·) → (∀ x ∈ l, 0 ≤ x ∧ x < 64) → (∀ f, o = some f → 0 ≤ f ∧ ∀ x ∈ l, f ≤ x) →
    (flat (toks o l)).foldl rdStep (0#64, none, 0) = ((match l with | [] => 0#64 | x :: t => rng (o.getD x).toNat x.toNat ||| ofL t), none, 0) := by
  induction l with
  | nil => intro o _ _ _; rfl
  | cons x t ih =>
    intro o hs hl ho
    have hx := hl x (by simp)
    have hf : 0 ≤ o.getD x ∧ o.getD x ≤ x := by
      cases o with
      | none => exact ⟨hx.1, Int.le_refl _⟩
      | some f => exact ⟨(ho f rfl).1, (ho f rfl).2 x (by simp)⟩
    rw [toks]
    split
    · rename_i hh
      cases t with
      | nil => simp at hh
      | cons y t =>
        obtain rfl : y = x + 1 := by simpa using hh
        have hy := hl (x + 1) (by simp)
        rw [ih (some (o.getD x)) (List.pairwise_cons.1 hs).2 (fun z hz => hl z (List.mem_cons_of_mem _ hz)) (fun f hf' => by
          cases hf'
          refine ⟨hf.1, fun z hz => ?_⟩
          have := (List.pairwise_cons.1 hs).1 z hz
          omega)]
        simp only [Option.getD_some]
        rw [show (x + 1).toNat = x.toNat + 1 by omega, rng_next _ (by omega) _ (by omega) (by omega)]
        unfold ofL
        rw [List.foldr_cons, oneI_nat _ (by omega), show (x + 1).toNat = x.toNat + 1 by omega, BitVec.or_assoc]
    · have ht := ih none (List.pairwise_cons.1 hs).2 (fun z hz => hl z (by simp [hz])) (fun f hf' => by cases hf')
      have hr := row_rd (o.getD x).toNat (by omega) x.toNat (by omega) (by omega)
      rw [show (((o.getD x).toNat : Nat) : Int) = o.getD x by omega, show ((x.toNat : Nat) : Int) = x by omega] at hr
      have hflat : flat (rowT (o.getD x) x ++ toks none t) = flat (rowT (o.getD x) x) ++ flat (toks none t) := by unfold flat; rw [List.flatMap_append]
      rw [hflat, List.foldl_append, hr, rd_acc, ht]
      cases t with
      | nil => rfl
      | cons y t =>
        have hy := hl y (by simp)
        simp only [Option.getD_none]
        rw [rng_one _ (by omega), ← oneI_nat y hy.1]
        rfl
theorem ofL_nodes : ∀ (k : Nat) (s : NSet), card s = k → ofL (nodes s) = s
  | 0, s, h => by rw [card_eq_zero h, nodes_zero]; rfl
  | k + 1, s, h => by
    have hs : s ≠ 0#64 := fun e => by rw [e, card_zero] at h; omega
    rw [nodes_cons hs]
    show oneI (lowI s) ||| ofL (nodes (restS s)) = s
    rw [ofL_nodes k (restS s) (by have := card_rest hs; omega)]
    have hl := low_lt hs
    have hg := (hasI_iff s (lowI s)).1 (hasI_low hs)
    apply BitVec.eq_of_getLsbD_eq
    intro i hi
    unfold restS
    rw [BitVec.getLsbD_or, get_diff _ _ _ hi, oneI_get]
    simp only [hi, decide_true, Bool.true_and]
    by_cases e : lowI s = (i : Int)
    · have e' : (lowI s).toNat = i := by omega
      rw [e'] at hg
      simp [e, hg.2]
    · simp [e]
theorem rd_text (s : NSet) : rd (textT (nodes s)) = s := by
  unfold textT
  by_cases hs : s = 0#64
  · rw [hs, nodes_zero, if_pos rfl]
    decide +kernel
  · have hc := nodes_cons hs
    have hne : nodes s ≠ [] := by rw [hc]; simp
    have hM := nodes_mem (card s) s rfl
    rw [if_neg hne]
    unfold rd
    rw [join_flat _ (toks_ne none _ hne), toks_rd (nodes s) none (nodes_sorted (card s) s rfl) (fun x hx => hasI_lt ((hM x).1 hx)) (fun f hf => by cases hf)]
    have ho := ofL_nodes (card s) s rfl
    rw [hc] at ho ⊢
    have hl := low_lt hs
    simp only [Option.getD_none]
    rw [rng_one _ (by omega), ← oneI_nat _ hl.1]
    exact ho
theorem text_inj {a b : NSet} (h : textT (nodes a) = textT (nodes b)) : a = b := by
  rw [← rd_text a, h, rd_text b]
theorem dec2_len (n : Nat) : (dec2 n).length ≤ 2 := by unfold dec2; split <;> simp
theorem rowT_len (f x : Int) : ∀ t ∈ rowT f x, t.length ≤ 5 := by
  have h1 := dec2_len f.toNat
  have h2 := dec2_len x.toNat
  unfold rowT
  intro t ht
  split at ht
  · simp only [List.mem_singleton] at ht; rw [ht]; omega
  · split at ht
    · simp only [List.mem_cons, List.not_mem_nil, or_false] at ht
      rcases ht with rfl | rfl <;> omega
    · simp only [List.mem_singleton] at ht; rw [ht, List.length_append, List.length_cons]; omega
theorem foldT_len (s : NSet) (l : List Int) : ∀ t ∈ (foldT s l).2, t.length ≤ 5 := by
  induction l using list_rev with
  | h0 => intro t ht; cases ht
  | h1 l x ih =>
    rw [foldT_snoc]
    unfold stepT
    simp only
    split
    · exact ih
    · intro t ht
      rcases List.mem_append.1 ht with ht | ht
      · exact ih t ht
      · exact rowT_len _ _ t ht
theorem flat_len_t : ∀ (ws : List (List UInt8)), (∀ t ∈ ws, t.length ≤ 5) → (flat ws).length ≤ 6 * ws.length
  | [], _ => by simp [flat]
  | x :: ws, h => by
    have h1 := h x (by simp)
    have h2 := flat_len_t ws (fun t ht => h t (by simp [ht]))
    unfold flat at h2 ⊢
    rw [List.flatMap_cons, List.length_append, List.length_append, List.length_singleton, List.length_cons]
    omega
theorem join_len (s : NSet) (l : List Int) (h : (foldT s l).2 ≠ []) : (Lib.join (foldT s l).2 [44]).length ≤ 12 * l.length := by
  have h1 := congrArg List.length (join_flat _ h)
  have h2 := flat_len_t _ (foldT_len s l)
  have h3 := foldT_length s l
  rw [List.length_append] at h1
  omega
end Go.Proofs.YtdpfbpmdpdfpdaaDoor
