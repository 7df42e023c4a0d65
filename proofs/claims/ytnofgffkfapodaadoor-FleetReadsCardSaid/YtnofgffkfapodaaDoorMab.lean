/- Laws that belong together: The words of a set's text, out of its nodes; and that the text tells the set. Plain facts, no condition.; The least ones of a set, ahead of the others. Plain facts, no condition.; What is chosen: plain facts on sets, no condition.; Fleets, plainly: the nodes that are as asked; spares that take the places of nodes that are not up. No condition.; The reference's lists of nodes (layer 7), as sets. Plain facts, no condition. -/
import Derived.Test.YtnofgffkfapodaaDoorMaa
import Derived.Lib.ItoaNum
import Derived.Lib.Join
namespace Go.Proofs.YtnofgffkfapodaaDoor
set_option linter.unusedVariables false
open Go

theorem list_rev {α : Type} {P : List α → Prop} (h0 : P []) (h1 : ∀ l x, P l → P (l ++ [x])) (l : List α) : P l := by
  have : ∀ r : List α, P r.reverse := fun r => by
    induction r with
    | nil => exact h0
    | cons x r ih => rw [List.reverse_cons]; exact h1 _ _ ih
  have h := this l.reverse
  rwa [List.reverse_reverse] at h
theorem hasI_iff (s : NSet) (n : Int) : hasI s n = true ↔ 0 ≤ n ∧ s.getLsbD n.toNat = true := by
  unfold hasI; simp
theorem hasI_lt {s : NSet} {n : Int} (h : hasI s n = true) : 0 ≤ n ∧ n < 64 := by
  obtain ⟨h0, h1⟩ := (hasI_iff s n).1 h
  refine ⟨h0, ?_⟩
  by_cases h6 : n.toNat < 64
  · omega
  · rw [BitVec.getLsbD_of_ge _ _ (by omega)] at h1; cases h1
theorem hasI_low {s : NSet} (h : s ≠ 0#64) : hasI s (lowI s) = true := by
  rw [lowI_pos h, hasI_nat]; exact (lowN_spec h).2.1
theorem low_le {s : NSet} (h : s ≠ 0#64) {n : Int} (hn : hasI s n = true) : lowI s ≤ n := by
  obtain ⟨h0, h1⟩ := (hasI_iff s n).1 hn
  rw [lowI_pos h]
  by_cases hlt : n.toNat < lowN s
  · rw [(lowN_spec h).2.2 _ hlt] at h1; cases h1
  · omega
theorem low_lt {s : NSet} (h : s ≠ 0#64) : 0 ≤ lowI s ∧ lowI s < 64 := hasI_lt (hasI_low h)
theorem hasI_rest {s : NSet} (h : s ≠ 0#64) (n : Int) : hasI (restS s) n = true ↔ hasI s n = true ∧ n ≠ lowI s := by
  constructor
  · intro hr
    have hl := hasI_lt hr
    obtain ⟨h0, h1⟩ := (hasI_iff _ n).1 hr
    unfold restS at h1
    rw [get_diff _ _ _ (by omega), oneI_get] at h1
    simp only [Bool.and_eq_true, Bool.not_eq_true', Bool.and_eq_false_iff, decide_eq_false_iff_not] at h1
    refine ⟨(hasI_iff s n).2 ⟨h0, h1.1⟩, fun e => ?_⟩
    rcases h1.2 with h2 | h2 <;> omega
  · rintro ⟨hr, hne⟩
    have hl := hasI_lt hr
    obtain ⟨h0, h1⟩ := (hasI_iff _ n).1 hr
    refine (hasI_iff _ n).2 ⟨h0, ?_⟩
    unfold restS
    rw [get_diff _ _ _ (by omega), oneI_get]
    simp only [Bool.and_eq_true, Bool.not_eq_true', Bool.and_eq_false_iff, decide_eq_false_iff_not]
    exact ⟨h1, .inr (by omega)⟩
theorem nodes_mem : ∀ (k : Nat) (s : NSet), card s = k → ∀ n, n ∈ nodes s ↔ hasI s n = true
  | 0, s, h, n => by
    rw [card_eq_zero h, nodes_zero]
    simp [hasI]
  | k + 1, s, h, n => by
    have hs : s ≠ 0#64 := fun e => by rw [e, card_zero] at h; omega
    rw [nodes_cons hs, List.mem_cons, nodes_mem k (restS s) (by have := card_rest hs; omega), hasI_rest hs]
    constructor
    · rintro (rfl | h1)
      · exact hasI_low hs
      · exact h1.1
    · intro h1
      by_cases e : n = lowI s
      · exact .inl e
      · exact .inr ⟨h1, e⟩
theorem nodes_sorted : ∀ (k : Nat) (s : NSet), card s = k → (nodes s).Pairwise (· < ·)
  | 0, s, h => by rw [card_eq_zero h, nodes_zero]; exact .nil
  | k + 1, s, h => by
    have hs : s ≠ 0#64 := fun e => by rw [e, card_zero] at h; omega
    have hr : card (restS s) = k := by have := card_rest hs; omega
    rw [nodes_cons hs]
    refine .cons (fun n hn => ?_) (nodes_sorted k _ hr)
    obtain ⟨h1, h2⟩ := (hasI_rest hs n).1 ((nodes_mem k _ hr n).1 hn)
    have := low_le hs h1
    omega
/-! digits, words -/
def dec2 (n : Nat) : List UInt8 := if n < 10 then [UInt8.ofNat (48 + n)] else [UInt8.ofNat (48 + n / 10), UInt8.ofNat (48 + n % 10)]
theorem dec2_eq {n : Nat} (h : n < 100) : Lib.decDigits n = dec2 n := by
  unfold dec2
  split
  · exact Lib.decDigits_one ‹_›
  · exact Lib.decDigits_two ‹_› h
/-- nodes that follow one another, as words -/
def rowT (f x : Int) : List (List UInt8) :=
  if x - f = 0 then [dec2 f.toNat] else if x - f = 1 then [dec2 f.toNat, dec2 x.toNat] else [dec2 f.toNat ++ 45 :: dec2 x.toNat]
theorem rowT_length (f x : Int) : 1 ≤ (rowT f x).length ∧ (rowT f x).length ≤ 2 := by
  unfold rowT; split
  · simp
  · split <;> simp
/-- the words of nodes that rise; `o`: where the nodes that go on here began -/
def toks : Option Int → List Int → List (List UInt8)
  | _, [] => []
  | o, x :: t => if t.head? = some (x + 1) then toks (some (o.getD x)) t else rowT (o.getD x) x ++ toks none t
/-- the text of nodes that rise -/
def textT (l : List Int) : List UInt8 := if l = [] then [110, 111, 110, 101] else Lib.join (toks none l) [44]
theorem toks_ne : ∀ (o : Option Int) (l : List Int), l ≠ [] → toks o l ≠ []
  | _, [], h => absurd rfl h
  | o, x :: t, _ => by
    rw [toks]
    split
    · rename_i ht
      refine toks_ne _ t (fun e => by rw [e] at ht; simp at ht)
    · have := (rowT_length (o.getD x) x).1
      intro e
      have := congrArg List.length e
      rw [List.length_append, List.length_nil] at this
      omega
/-! as the program makes them -/
def stepT (s : NSet) (p : Int × List (List UInt8)) (x : Int) : Int × List (List UInt8) :=
  (if hasI s (x - 1) = true then p.1 else x, if hasI s (x + 1) = true then p.2 else p.2 ++ rowT (if hasI s (x - 1) = true then p.1 else x) x)
def foldT (s : NSet) (l : List Int) : Int × List (List UInt8) := l.foldl (stepT s) (0, [])
theorem foldT_snoc (s : NSet) (l : List Int) (x : Int) : foldT s (l ++ [x]) = stepT s (foldT s l) x := by unfold foldT; rw [List.foldl_append]; rfl
theorem foldT_length (s : NSet) (l : List Int) : (foldT s l).2.length ≤ 2 * l.length := by
  induction l using list_rev with
  | h0 => simp [foldT]
  | h1 l x ih =>
    rw [foldT_snoc, List.length_append]
    unfold stepT
    simp only
    split
    · simp only [List.length_singleton]; omega
    · have := (rowT_length (if hasI s (x - 1) = true then (foldT s l).1 else x) x).2
      simp only [List.length_append, List.length_singleton]
      omega
theorem foldT_first (s : NSet) (l : List Int) (h : ∀ x ∈ l, 0 ≤ x ∧ x < 64) : 0 ≤ (foldT s l).1 ∧ (foldT s l).1 < 64 := by
  induction l using list_rev with
  | h0 => simp [foldT]
  | h1 l x ih =>
    have h1 := ih (fun y hy => h y (by simp [hy]))
    have h2 := h x (by simp)
    rw [foldT_snoc]
    unfold stepT
    simp only
    split
    · exact h1
    · exact h2
/-- where the nodes that go on began -/
def openT (s : NSet) (pre : List Int) : Option Int := match pre.getLast? with | none => none | some y => if hasI s (y + 1) = true then some (foldT s pre).1 else none
theorem fold_toks (s : NSet) (pre : List Int) : ∀ rest, nodes s = pre ++ rest → toks none (nodes s) = (foldT s pre).2 ++ toks (openT s pre) rest := by
  have hM := nodes_mem (card s) s rfl
  have hS := nodes_sorted (card s) s rfl
  induction pre using list_rev with
  | h0 =>
    intro rest h
    rw [List.nil_append] at h
    rw [h]; rfl
  | h1 pre x ih =>
    intro rest h
    have ih' := ih (x :: rest) (by rw [h]; simp)
    rw [ih', toks, foldT_snoc]
    rw [h] at hS
    rw [List.pairwise_append] at hS
    obtain ⟨hS1, hS2, hS3⟩ := hS
    rw [List.pairwise_append] at hS1
    obtain ⟨_, _, hS4⟩ := hS1
    have e1 : (openT s pre).getD x = if hasI s (x - 1) = true then (foldT s pre).1 else x := by
      unfold openT
      cases hl : pre.getLast? with
      | none =>
        obtain rfl : pre = [] := List.getLast?_eq_none_iff.1 hl
        rw [if_neg]
        · rfl
        · intro hx
          have := (hM _).2 hx
          rw [h] at this
          simp at this
          rcases this with h' | h'
          · omega
          · have := hS3 x (by simp) _ h'; omega
      | some y =>
        have hy : y ∈ pre := List.mem_of_getLast? hl
        have hyx : y < x := hS4 y hy x (by simp)
        simp only
        by_cases h1 : hasI s (y + 1) = true
        · have hm := (hM _).2 h1
          rw [h] at hm
          simp only [List.mem_append, List.mem_singleton] at hm
          have hx : x = y + 1 := by
            rcases hm with (h' | h') | h'
            · obtain ⟨q, hq⟩ := List.getLast?_eq_some_iff.1 hl
              rw [hq] at h'
              simp only [List.mem_append, List.mem_singleton] at h'
              rcases h' with h' | h'
              · have hp : (q ++ [y]).Pairwise (· < ·) := by rw [← hq]; exact ‹(pre.Pairwise (· < ·))›
                have := (List.pairwise_append.1 hp).2.2 _ h' y (by simp)
                omega
              · omega
            · exact h'.symm
            · have := hS3 x (by simp) _ h'; omega
          rw [if_pos h1, if_pos]
          · rfl
          · rw [hx]
            refine (hM _).1 ?_
            rw [h, show y + 1 - 1 = y by omega]
            simp [hy]
        · rw [if_neg h1, if_neg]
          · rfl
          · intro hx
            have hm := (hM _).2 hx
            rw [h] at hm
            simp only [List.mem_append, List.mem_singleton] at hm
            rcases hm with (h' | h') | h'
            · obtain ⟨q, hq⟩ := List.getLast?_eq_some_iff.1 hl
              have h'' := h'
              rw [hq] at h''
              simp only [List.mem_append, List.mem_singleton] at h''
              have hle : x - 1 ≤ y := by
                rcases h'' with h'' | h''
                · have hp : (q ++ [y]).Pairwise (· < ·) := by rw [← hq]; exact ‹(pre.Pairwise (· < ·))›
                  have := (List.pairwise_append.1 hp).2.2 _ h'' y (by simp)
                  omega
                · omega
              have : x = y + 1 := by omega
              refine h1 ?_
              rw [← this]
              refine (hM _).1 ?_
              rw [h]; simp
            · omega
            · have := hS3 x (by simp) _ h'; omega
    have e2 : rest.head? = some (x + 1) ↔ hasI s (x + 1) = true := by
      constructor
      · intro hr
        refine (hM _).1 ?_
        rw [h]
        have := List.mem_of_mem_head? hr
        simp [this]
      · intro hx
        have hm := (hM _).2 hx
        rw [h] at hm
        simp only [List.mem_append, List.mem_singleton] at hm
        rcases hm with (h' | h') | h'
        · have := hS4 _ h' x (by simp); omega
        · omega
        · cases rest with
          | nil => cases h'
          | cons z rest =>
            have hz := hS3 x (by simp) z (by simp)
            rcases List.mem_cons.1 h' with h' | h'
            · rw [List.head?_cons, h']
            · have := (List.pairwise_cons.1 hS2).1 _ h'
              omega
    have e3 : openT s (pre ++ [x]) = if hasI s (x + 1) = true then some (if hasI s (x - 1) = true then (foldT s pre).1 else x) else none := by
      unfold openT
      rw [List.getLast?_concat, foldT_snoc]
      rfl
    rw [e1, e3]
    unfold stepT
    by_cases hx : hasI s (x + 1) = true
    · rw [if_pos (e2.2 hx), if_pos hx, if_pos hx]
    · rw [if_neg (fun h' => hx (e2.1 h')), if_neg hx, if_neg hx, List.append_assoc]
theorem fold_all (s : NSet) : (foldT s (nodes s)).2 = toks none (nodes s) := by
  have := fold_toks s (nodes s) [] (by simp)
  rw [this, toks, List.append_nil]
/-! the text tells the set -/
def rng (f x : Nat) : NSet := BitVec.ofNat 64 (2 ^ (x + 1) - 2 ^ f)
def rdStep (p : NSet × Option Nat × Nat) (c : UInt8) : NSet × Option Nat × Nat :=
  if c = 44 then (p.1 ||| rng (p.2.1.getD p.2.2) p.2.2, none, 0) else if c = 45 then (p.1, some p.2.2, 0) else (p.1, p.2.1, p.2.2 * 10 + (c.toNat - 48))
def rd (l : List UInt8) : NSet := ((l ++ [44]).foldl rdStep (0#64, none, 0)).1
theorem rdStep_acc (acc : NSet) (a : Option Nat) (c : Nat) (x : UInt8) : rdStep (acc, a, c) x = (acc ||| (rdStep (0#64, a, c) x).1, (rdStep (0#64, a, c) x).2) := by
  unfold rdStep
  simp only
  split
  · simp
  · split
    · simp
    · simp
theorem rd_acc (l : List UInt8) : ∀ (p : NSet × Option Nat × Nat), l.foldl rdStep p = (p.1 ||| (l.foldl rdStep (0#64, p.2)).1, (l.foldl rdStep (0#64, p.2)).2) := by
  induction l with
  | nil => intro p; simp
  | cons x l ih =>
    rintro ⟨acc, a, c⟩
    rw [List.foldl_cons, List.foldl_cons, rdStep_acc, ih, ih (rdStep (0#64, a, c) x)]
    simp only [BitVec.or_assoc]
def flat (ws : List (List UInt8)) : List UInt8 := ws.flatMap (· ++ [44])
theorem join_flat : ∀ (ws : List (List UInt8)), ws ≠ [] → Lib.join ws [44] ++ [44] = flat ws
  | [], h => absurd rfl h
  | [x], _ => by rw [Lib.join_one]; simp [flat]
  | x :: y :: r, _ => by
    have ih := join_flat (y :: r) (by simp)
    unfold flat at ih ⊢
    rw [List.flatMap_cons, ← ih]
    simp [Lib.join, List.intercalate]
def rowOk (f x : Nat) : Bool := match (flat (rowT (f : Nat) (x : Nat))).foldl rdStep (0#64, none, 0) with
  | (s, none, 0) => s == rng f x
  | _ => false
theorem rowOk_all : ∀ f, f < 64 → ∀ x, x < 64 → (!decide (f ≤ x) || rowOk f x) = true := by decide +kernel
theorem row_rd (f : Nat) (hf : f < 64) (x : Nat) (hx : x < 64) (h : f ≤ x) : (flat (rowT (f : Nat) (x : Nat))).foldl rdStep (0#64, none, 0) = (rng f x, none, 0) := by
  have := rowOk_all f hf x hx
  simp only [h, decide_true, Bool.not_true, Bool.false_or] at this
  unfold rowOk at this
  split at this
  · rename_i s hs
    rw [hs, eq_of_beq this]
  · cases this
theorem rng_next : ∀ f, f < 64 → ∀ x, x < 63 → f ≤ x → rng f (x + 1) = rng f x ||| BitVec.twoPow 64 (x + 1) := by decide +kernel
theorem rng_one : ∀ x, x < 64 → rng x x = BitVec.twoPow 64 x := by decide +kernel
/-- nodes, together -/
def ofL (l : List Int) : NSet := l.foldr (fun x s => oneI x ||| s) 0#64
theorem oneI_nat (x : Int) (h : 0 ≤ x) : oneI x = BitVec.twoPow 64 x.toNat := by unfold oneI; rw [if_neg (by omega)]
theorem toks_rd (l : List Int) : ∀ (o : Option Int), l.Pairwise (· < ·) → (∀ x ∈ l, 0 ≤ x ∧ x < 64) → (∀ f, o = some f → 0 ≤ f ∧ ∀ x ∈ l, f ≤ x) →
    (flat (toks o l)).foldl rdStep (0#64, none, 0) = ((match l with | [] => 0#64 | x :: t => rng (o.getD x).toNat x.toNat ||| ofL t), none, 0) := by
  induction l with
  | nil => intro o _ _ _; rfl
  | cons x t ih =>
    intro o hs hl ho
    have hx := hl x (by simp)
    have hf : 0 ≤ o.getD x ∧ o.getD x ≤ x := by
      cases o with
      | none => exact ⟨hx.1, Int.le_refl _⟩
      | some f => exact ⟨(ho f rfl).1, (ho f rfl).2 x (by simp)⟩
    rw [toks]
    split
    · rename_i hh
      cases t with
      | nil => simp at hh
      | cons y t =>
        obtain rfl : y = x + 1 := by simpa using hh
        have hy := hl (x + 1) (by simp)
        rw [ih (some (o.getD x)) (List.pairwise_cons.1 hs).2 (fun z hz => hl z (List.mem_cons_of_mem _ hz)) (fun f hf' => by
          cases hf'
          refine ⟨hf.1, fun z hz => ?_⟩
          have := (List.pairwise_cons.1 hs).1 z hz
          omega)]
        simp only [Option.getD_some]
        rw [show (x + 1).toNat = x.toNat + 1 by omega, rng_next _ (by omega) _ (by omega) (by omega)]
        unfold ofL
        rw [List.foldr_cons, oneI_nat _ (by omega), show (x + 1).toNat = x.toNat + 1 by omega, BitVec.or_assoc]
    · have ht := ih none (List.pairwise_cons.1 hs).2 (fun z hz => hl z (by simp [hz])) (fun f hf' => by cases hf')
      have hr := row_rd (o.getD x).toNat (by omega) x.toNat (by omega) (by omega)
      rw [show (((o.getD x).toNat : Nat) : Int) = o.getD x by omega, show ((x.toNat : Nat) : Int) = x by omega] at hr
      have hflat : flat (rowT (o.getD x) x ++ toks none t) = flat (rowT (o.getD x) x) ++ flat (toks none t) := by unfold flat; rw [List.flatMap_append]
      rw [hflat, List.foldl_append, hr, rd_acc, ht]
      cases t with
      | nil => rfl
      | cons y t =>
        have hy := hl y (by simp)
        simp only [Option.getD_none]
        rw [rng_one _ (by omega), ← oneI_nat y hy.1]
        rfl
theorem ofL_nodes : ∀ (k : Nat) (s : NSet), card s = k → ofL (nodes s) = s
  | 0, s, h => by rw [card_eq_zero h, nodes_zero]; rfl
  | k + 1, s, h => by
    have hs : s ≠ 0#64 := fun e => by rw [e, card_zero] at h; omega
    rw [nodes_cons hs]
    show oneI (lowI s) ||| ofL (nodes (restS s)) = s
    rw [ofL_nodes k (restS s) (by have := card_rest hs; omega)]
    have hl := low_lt hs
    have hg := (hasI_iff s (lowI s)).1 (hasI_low hs)
    apply BitVec.eq_of_getLsbD_eq
    intro i hi
    unfold restS
    rw [BitVec.getLsbD_or, get_diff _ _ _ hi, oneI_get]
    simp only [hi, decide_true, Bool.true_and]
    by_cases e : lowI s = (i : Int)
    · have e' : (lowI s).toNat = i := by omega
      rw [e'] at hg
      simp [e, hg.2]
    · simp [e]
theorem rd_text (s : NSet) : rd (textT (nodes s)) = s := by
  unfold textT
  by_cases hs : s = 0#64
  · rw [hs, nodes_zero, if_pos rfl]
    decide +kernel
  · have hc := nodes_cons hs
    have hne : nodes s ≠ [] := by rw [hc]; simp
    have hM := nodes_mem (card s) s rfl
    rw [if_neg hne]
    unfold rd
    rw [join_flat _ (toks_ne none _ hne), toks_rd (nodes s) none (nodes_sorted (card s) s rfl) (fun x hx => hasI_lt ((hM x).1 hx)) (fun f hf => by cases hf)]
    have ho := ofL_nodes (card s) s rfl
    rw [hc] at ho ⊢
    have hl := low_lt hs
    simp only [Option.getD_none]
    rw [rng_one _ (by omega), ← oneI_nat _ hl.1]
    exact ho
theorem text_inj {a b : NSet} (h : textT (nodes a) = textT (nodes b)) : a = b := by
  rw [← rd_text a, h, rd_text b]
theorem dec2_len (n : Nat) : (dec2 n).length ≤ 2 := by unfold dec2; split <;> simp
theorem rowT_len (f x : Int) : ∀ t ∈ rowT f x, t.length ≤ 5 := by
  have h1 := dec2_len f.toNat
  have h2 := dec2_len x.toNat
  unfold rowT
  intro t ht
  split at ht
  · simp only [List.mem_singleton] at ht; rw [ht]; omega
  · split at ht
    · simp only [List.mem_cons, List.not_mem_nil, or_false] at ht
      rcases ht with rfl | rfl <;> omega
    · simp only [List.mem_singleton] at ht; rw [ht, List.length_append, List.length_cons]; omega
theorem foldT_len (s : NSet) (l : List Int) : ∀ t ∈ (foldT s l).2, t.length ≤ 5 := by
  induction l using list_rev with
  | h0 => intro t ht; cases ht
  | h1 l x ih =>
    rw [foldT_snoc]
    unfold stepT
    simp only
    split
    · exact ih
    · intro t ht
      rcases List.mem_append.1 ht with ht | ht
      · exact ih t ht
      · exact rowT_len _ _ t ht
theorem flat_len_t : ∀ (ws : List (List UInt8)), (∀ t ∈ ws, t.length ≤ 5) → (flat ws).length ≤ 6 * ws.length
  | [], _ => by simp [flat]
  | x :: ws, h => by
    have h1 := h x (by simp)
    have h2 := flat_len_t ws (fun t ht => h t (by simp [ht]))
    unfold flat at h2 ⊢
    rw [List.flatMap_cons, List.length_append, List.length_append, List.length_singleton, List.length_cons]
    omega
theorem join_len (s : NSet) (l : List Int) (h : (foldT s l).2 ≠ []) : (Lib.join (foldT s l).2 [44]).length ≤ 12 * l.length := by
  have h1 := congrArg List.length (join_flat _ h)
  have h2 := flat_len_t _ (foldT_len s l)
  have h3 := foldT_length s l
  rw [List.length_append] at h1
  omega
end Go.Proofs.YtnofgffkfapodaaDoor
namespace Go.Proofs.YtnofgffkfapodaaDoor
set_option linter.unusedVariables false
open Go

theorem hasI_or' (a b : NSet) (n : Int) : hasI (a ||| b) n = (hasI a n || hasI b n) := by
  unfold hasI; rw [BitVec.getLsbD_or]
  cases decide (0 ≤ n) <;> simp
theorem hasI_oneI (m n : Int) : hasI (oneI m) n = true ↔ m = n ∧ 0 ≤ n ∧ n < 64 := by
  unfold hasI
  rw [oneI_get]
  simp only [Bool.and_eq_true, decide_eq_true_eq]
  constructor
  · rintro ⟨h0, h1, h2⟩; exact ⟨by omega, h0, by omega⟩
  · rintro ⟨rfl, h0, h1⟩; exact ⟨h0, by omega, by omega⟩
theorem hasI_diff (a b : NSet) (n : Int) : hasI (a &&& ~~~b) n = true ↔ hasI a n = true ∧ ¬ hasI b n = true := by
  constructor
  · intro h
    have hl := hasI_lt h
    obtain ⟨h0, h1⟩ := (hasI_iff _ n).1 h
    rw [get_diff _ _ _ (by omega)] at h1
    simp only [Bool.and_eq_true, Bool.not_eq_true'] at h1
    refine ⟨(hasI_iff a n).2 ⟨h0, h1.1⟩, fun hb => ?_⟩
    have := ((hasI_iff b n).1 hb).2
    rw [h1.2] at this; cases this
  · rintro ⟨ha, hb⟩
    have hl := hasI_lt ha
    obtain ⟨h0, h1⟩ := (hasI_iff _ n).1 ha
    refine (hasI_iff _ n).2 ⟨h0, ?_⟩
    rw [get_diff _ _ _ (by omega)]
    simp only [Bool.and_eq_true, Bool.not_eq_true']
    refine ⟨h1, ?_⟩
    cases h : b.getLsbD n.toNat with
    | false => rfl
    | true => exact absurd ((hasI_iff b n).2 ⟨h0, h⟩) hb
theorem tk_low (s : NSet) : ∀ (k : Nat) (i j : Int), hasI (tk k s) i = true → hasI (s &&& ~~~ tk k s) j = true → i < j
  | 0, i, j, h, _ => by
    rw [show tk 0 s = 0#64 from rfl] at h
    simp [hasI] at h
  | k + 1, i, j, hi, hj => by
    rw [show tk (k + 1) s = tk k s ||| oneI (lowI (s &&& ~~~ tk k s)) from rfl] at hi hj
    obtain ⟨hj1, hj2⟩ := (hasI_diff _ _ _).1 hj
    have hj3 : ¬ hasI (tk k s) j = true := fun h => hj2 (by rw [hasI_or', h]; rfl)
    have hjd := (hasI_diff s (tk k s) j).2 ⟨hj1, hj3⟩
    rw [hasI_or'] at hi
    rcases Bool.or_eq_true _ _ ▸ hi with h | h
    · exact tk_low s k i j h hjd
    · obtain ⟨e, h0, h6⟩ := (hasI_oneI _ _).1 h
      have hne : s &&& ~~~ tk k s ≠ 0#64 := fun e0 => by rw [e0] at hjd; simp [hasI] at hjd
      have hle := low_le hne hjd
      have : ¬ i = j := by
        rintro rfl
        exact hj2 (by rw [hasI_or', h, Bool.or_true])
      omega
/-- one of the least ones, and the least of the others -/
theorem tk_rest (s : NSet) (k : Nat) (i : Int) (hi : hasI (tk k s) i = true) : lowI (s &&& ~~~ tk k s) < 0 ∨ i < lowI (s &&& ~~~ tk k s) := by
  by_cases h : s &&& ~~~ tk k s = 0#64
  · left; rw [h]; decide
  · exact .inr (tk_low s k i _ hi (hasI_low h))
theorem lowI_neg (s : NSet) : decide (lowI s < 0) = decide (s = 0#64) := by
  by_cases h : s = 0#64
  · subst h; decide
  · have := low_lt h
    have h1 : ¬ lowI s < 0 := by omega
    simp [h, h1]
end Go.Proofs.YtnofgffkfapodaaDoor
namespace Go.Proofs.YtnofgffkfapodaaDoor
set_option linter.unusedVariables false
open Go
theorem and_not_zero (g : NSet) : g &&& ~~~(0#64) = g := by
  apply BitVec.eq_of_getLsbD_eq
  intro i hi
  rw [get_diff _ _ _ hi, BitVec.getLsbD_zero]
  simp
theorem lowI_zero : lowI 0#64 = -1 := by decide
theorem oneI_neg : oneI (-1) = 0#64 := by decide
theorem tk_zero : ∀ k, tk k 0#64 = 0#64
  | 0 => rfl
  | k + 1 => by rw [tk, tk_zero k]; decide
theorem tk_cons (g : NSet) : ∀ k, tk (k + 1) g = oneI (lowI g) ||| tk k (restS g)
  | 0 => by
    show 0#64 ||| oneI (lowI (g &&& ~~~(0#64))) = oneI (lowI g) ||| 0#64
    rw [and_not_zero]
    simp
  | k + 1 => by
    rw [tk, tk_cons g k]
    rw [show tk (k + 1) (restS g) = tk k (restS g) ||| oneI (lowI (restS g &&& ~~~ tk k (restS g))) from rfl]
    have e : g &&& ~~~(oneI (lowI g) ||| tk k (restS g)) = restS g &&& ~~~ tk k (restS g) := by
      rw [show ~~~(oneI (lowI g) ||| tk k (restS g)) = ~~~oneI (lowI g) &&& ~~~ tk k (restS g) from BitVec.not_or, ← BitVec.and_assoc]; rfl
    rw [e, BitVec.or_assoc]
/-- a set, with the nodes of a list -/
def addL (c : NSet) (l : List Int) : NSet := l.foldl (fun s n => s ||| oneI n) c
theorem addL_snoc (c : NSet) (l : List Int) (n : Int) : addL c (l ++ [n]) = addL c l ||| oneI n := by unfold addL; rw [List.foldl_append]; rfl
theorem addL_cons (c : NSet) (l : List Int) (n : Int) : addL c (n :: l) = addL (c ||| oneI n) l := rfl
theorem addL_take : ∀ (k : Nat) (c g : NSet), addL c ((nodes g).take k) = c ||| tk k g
  | 0, c, g => by simp [addL, tk]
  | k + 1, c, g => by
    by_cases hg : g = 0#64
    · rw [hg, nodes_zero, tk_zero]; simp [addL]
    · rw [nodes_cons hg, List.take_succ_cons, addL_cons, addL_take k, tk_cons, BitVec.or_assoc]
theorem card_or_apart {a b : NSet} (h : a &&& b = 0#64) : card (a ||| b) = card a + card b := by
  have := card_or a b
  rw [h, card_zero] at this
  omega
theorem and_sub_zero {a b b' : NSet} (h : a &&& b = 0#64) (hs : Sub b' b) : a &&& b' = 0#64 := by
  apply BitVec.eq_of_getLsbD_eq
  intro i hi
  have h1 := congrArg (fun x : NSet => x.getLsbD i) h
  simp only [BitVec.getLsbD_and, BitVec.getLsbD_zero] at h1 ⊢
  cases ha : a.getLsbD i with
  | false => rfl
  | true =>
    rw [ha] at h1
    cases hb : b'.getLsbD i with
    | false => rfl
    | true => rw [sub_iff.1 hs i hi hb] at h1; simp at h1
theorem tk_sub (g : NSet) : ∀ k, Sub (tk k g) g
  | 0 => sub_zero g
  | k + 1 => by
    by_cases hg : g = 0#64
    · rw [hg, tk_zero]; exact sub_refl _
    · rw [tk_cons]
      refine sub_iff.2 fun i hi h => ?_
      rw [BitVec.getLsbD_or] at h
      rcases Bool.or_eq_true _ _ ▸ h with h | h
      · have := (hasI_oneI (lowI g) (i : Int)).1 (by rw [hasI_nat]; exact h)
        have h2 := hasI_low hg
        rw [this.1, hasI_nat] at h2; exact h2
      · have h3 := sub_iff.1 (tk_sub (restS g) k) i hi h
        unfold restS at h3
        rw [get_diff _ _ _ hi] at h3
        simp only [Bool.and_eq_true] at h3
        exact h3.1
/-- as many of good as go -/
def fillC (m : Int) (c good : NSet) : NSet := c ||| tk (min (card good) (m - card c).toNat) good
/-- what is chosen, set by set -/
def chF (may : NSet) (m : Int) : List NSet → NSet → NSet
  | [], c => fillC m c (may &&& ~~~c)
  | p :: ps, c => chF may m ps (fillC m c ((may &&& ~~~c) &&& p))
theorem fillC_full {m : Int} {c good : NSet} (h : (card c : Int) = m) : fillC m c good = c := by
  unfold fillC
  rw [h, show (m - m).toNat = 0 by omega, Nat.min_zero]
  simp [tk]
theorem chF_full (may : NSet) (m : Int) : ∀ (ps : List NSet) (c : NSet), (card c : Int) = m → chF may m ps c = c
  | [], c, h => fillC_full h
  | p :: ps, c, h => by
    rw [chF, fillC_full h]
    exact chF_full may m ps c h
theorem less_apart (may c : NSet) : c &&& (may &&& ~~~c) = 0#64 := by
  apply BitVec.eq_of_getLsbD_eq
  intro i hi
  rw [BitVec.getLsbD_and, get_diff _ _ _ hi, BitVec.getLsbD_zero]
  cases c.getLsbD i <;> simp
theorem and_subl (a b : NSet) : Sub (a &&& b) a := sub_iff.2 fun i _ h => by
  rw [BitVec.getLsbD_and] at h
  simp only [Bool.and_eq_true] at h
  exact h.1
theorem and_subr (a b : NSet) : Sub (a &&& b) b := sub_iff.2 fun i _ h => by
  rw [BitVec.getLsbD_and] at h
  simp only [Bool.and_eq_true] at h
  exact h.2
theorem good_apart (may c p : NSet) : c &&& ((may &&& ~~~c) &&& p) = 0#64 := and_sub_zero (less_apart may c) (and_subl _ _)
theorem nodes_take_length (g : NSet) {k : Nat} (h : k ≤ card g) : ((nodes g).take k).length = k := by
  rw [List.length_take, nodes_length _ g rfl]; omega
theorem card_addL {c g : NSet} (h : c &&& g = 0#64) {k : Nat} (hk : k ≤ card g) : card (addL c ((nodes g).take k)) = card c + k := by
  obtain ⟨h1, h2⟩ := tk_spec g k hk
  rw [addL_take, card_or_apart (and_sub_zero h h1), h2]
/-- all of them came -/
theorem fill_done {m : Int} {c g : NSet} (h : c &&& g = 0#64) (hc : (card c : Int) ≤ m) (ok : ∀ j, j < card g → ¬ (card (addL c ((nodes g).take j)) : Int) = m) :
    addL c (nodes g) = fillC m c g ∧ (card (addL c (nodes g)) : Int) ≤ m := by
  have key : ∀ j, j ≤ card g → (card c : Int) + j ≤ m := by
    intro j
    induction j with
    | zero => intro _; omega
    | succ j ih =>
      intro hj
      have h1 := ih (by omega)
      have h2 := ok j (by omega)
      rw [card_addL h (by omega)] at h2
      omega
  have hk := key (card g) (Nat.le_refl _)
  have e : addL c (nodes g) = c ||| tk (card g) g := by
    rw [← addL_take, List.take_of_length_le (by rw [nodes_length _ g rfl]; exact Nat.le_refl _)]
  refine ⟨?_, ?_⟩
  · unfold fillC
    rw [e, show min (card g) (m - card c).toNat = card g by omega]
  · have := card_addL h (Nat.le_refl (card g))
    rw [List.take_of_length_le (by rw [nodes_length _ g rfl]; exact Nat.le_refl _)] at this
    omega
/-- there are enough -/
theorem fill_stop {m : Int} {c g : NSet} (h : c &&& g = 0#64) {pre : List Int} {x : Int} (hp : pre ++ [x] <+: nodes g) (hm : (card (addL c pre) : Int) = m) : addL c pre = fillC m c g := by
  obtain ⟨r, hr⟩ := hp
  have hl := congrArg List.length hr
  rw [nodes_length _ g rfl, List.length_append, List.length_append, List.length_singleton] at hl
  have hpre : pre = (nodes g).take pre.length := by rw [← hr, List.append_assoc, List.take_left']; rfl
  have hc := card_addL h (k := pre.length) (by omega)
  rw [← hpre] at hc
  unfold fillC
  rw [show min (card g) (m - card c).toNat = pre.length by omega, ← addL_take, ← hpre]
/-! what is chosen is right -/
theorem fill_card {m : Int} {c g : NSet} (h : c &&& g = 0#64) (hc : (card c : Int) ≤ m) : (card (fillC m c g) : Int) = min ((card c : Int) + card g) m := by
  unfold fillC
  obtain ⟨h1, h2⟩ := tk_spec g (min (card g) (m - card c).toNat) (by omega)
  rw [card_or_apart (and_sub_zero h h1), h2]
  omega
theorem or_sub {a b c : NSet} (h : Sub a c) (h' : Sub b c) : Sub (a ||| b) c := sub_iff.2 fun i hi hg => by
  rw [BitVec.getLsbD_or] at hg
  rcases Bool.or_eq_true _ _ ▸ hg with h1 | h1
  · exact sub_iff.1 h i hi h1
  · exact sub_iff.1 h' i hi h1
theorem fill_sub {m : Int} {c g may : NSet} (hc : Sub c may) (hg : Sub g may) : Sub (fillC m c g) may := or_sub hc (sub_trans (tk_sub g _) hg)
theorem chF_right (may : NSet) (m : Int) (hm : m ≤ card may) : ∀ (ps : List NSet) (c : NSet), Sub c may → (card c : Int) ≤ m → Sub (chF may m ps c) may ∧ (card (chF may m ps c) : Int) = m
  | [], c, hs, hc => by
    rw [chF]
    refine ⟨fill_sub hs (and_subl _ _), ?_⟩
    rw [fill_card (less_apart may c) hc]
    have := card_diff hs
    omega
  | p :: ps, c, hs, hc => by
    rw [chF]
    refine chF_right may m hm ps _ (fill_sub hs (sub_trans (and_subl _ _) (and_subl _ _))) ?_
    rw [fill_card (good_apart may c p) hc]
    omega
theorem diff_of_sub {a b : NSet} (h : Sub a b) : a &&& ~~~b = 0#64 := h
/-- one set that is preferred: no other choice has fewer outside of it -/
theorem chF_cost (may g : NSet) (m : Int) (h0 : 0 ≤ m) (hm : m ≤ card may) : (card (chF may m [g] 0#64 &&& ~~~g) : Int) = max 0 (m - card (may &&& g)) := by
  rw [chF, chF, and_not_zero]
  have hz : (0#64 : NSet) &&& (may &&& g) = 0#64 := by simp
  have c1 := fill_card (m := m) hz (by rw [card_zero]; omega)
  rw [card_zero] at c1
  have s1 : Sub (fillC m 0#64 (may &&& g)) g := fill_sub (sub_zero _) (and_subr _ _)
  have s2 : Sub (fillC m 0#64 (may &&& g)) may := fill_sub (sub_zero _) (and_subl _ _)
  by_cases hle : m ≤ card (may &&& g)
  · have e : fillC m (fillC m 0#64 (may &&& g)) (may &&& ~~~fillC m 0#64 (may &&& g)) = fillC m 0#64 (may &&& g) := fillC_full (by rw [c1]; omega)
    rw [e, diff_of_sub s1, card_zero]
    omega
  · have e1 : fillC m 0#64 (may &&& g) = may &&& g := by
      unfold fillC
      rw [card_zero, show min (card (may &&& g)) (m - ((0 : Nat) : Int)).toNat = card (may &&& g) by omega, ← addL_take, List.take_of_length_le (by rw [nodes_length _ _ rfl]; exact Nat.le_refl _)]
      have := ofL_nodes (card (may &&& g)) (may &&& g) rfl
      have key : ∀ (l : List Int) (c : NSet), addL c l = c ||| ofL l := by
        intro l
        induction l with
        | nil => intro c; simp [addL, ofL]
        | cons x l ih => intro c; rw [addL_cons, ih, BitVec.or_assoc]; rfl
      rw [key, this]; simp
    rw [e1] at c1 ⊢
    have hs : Sub (may &&& g) may := and_subl _ _
    have hd := card_diff hs
    have e2 : fillC m (may &&& g) (may &&& ~~~(may &&& g)) &&& ~~~g = tk (min (card (may &&& ~~~(may &&& g))) (m - card (may &&& g)).toNat) (may &&& ~~~(may &&& g)) := by
      unfold fillC
      have hT := tk_sub (may &&& ~~~(may &&& g)) (min (card (may &&& ~~~(may &&& g))) (m - card (may &&& g)).toNat)
      generalize tk (min (card (may &&& ~~~(may &&& g))) (m - card (may &&& g)).toNat) (may &&& ~~~(may &&& g)) = T at *
      apply BitVec.eq_of_getLsbD_eq
      intro i hi
      have h3 := sub_iff.1 hT i hi
      rw [get_diff _ _ _ hi, BitVec.getLsbD_and] at h3
      rw [get_diff _ _ _ hi, BitVec.getLsbD_or, BitVec.getLsbD_and]
      cases hTi : T.getLsbD i with
      | false => cases may.getLsbD i <;> cases g.getLsbD i <;> rfl
      | true =>
        have h4 := h3 hTi
        cases hm' : may.getLsbD i <;> cases hg' : g.getLsbD i <;> rw [hm', hg'] at h4 <;> first | rfl | cases h4
    rw [e2, (tk_spec _ _ (by omega)).2]
    omega
end Go.Proofs.YtnofgffkfapodaaDoor
namespace Go.Proofs.YtnofgffkfapodaaDoor
set_option linter.unusedVariables false

abbrev N3 := Int × Int × Int
/-- of the numbers of l those whose node is as p asks -/
def selF (p : N3 → Bool) (ns : List N3) (s : NSet) (n : Int) : NSet := if p (ns.getD n.toNat (0, 0, 0)) = true then s ||| oneI n else s
def selL (p : N3 → Bool) (ns : List N3) (l : List Int) : NSet := l.foldl (selF p ns) 0#64
theorem selL_snoc (p : N3 → Bool) (ns : List N3) (l : List Int) (n : Int) : selL p ns (l ++ [n]) = selF p ns (selL p ns l) n := by unfold selL; rw [List.foldl_append]; rfl
theorem selF_get (p : N3 → Bool) (ns : List N3) (s : NSet) (n : Int) (i : Nat) (hi : i < 64) : (selF p ns s n).getLsbD i = (s.getLsbD i || (decide (n = (i : Int)) && p (ns.getD i (0, 0, 0)))) := by
  unfold selF
  by_cases hn : n = (i : Int)
  · subst hn
    rw [show ((i : Int)).toNat = i from rfl]
    cases hp : p (ns.getD i (0, 0, 0)) with
    | true => rw [if_pos rfl, BitVec.getLsbD_or, oneI_get]; simp [hi]
    | false => rw [if_neg (by decide)]; simp
  · split
    · rw [BitVec.getLsbD_or, oneI_get]; simp [hn]
    · simp [hn]
theorem selG_get (p : N3 → Bool) (ns : List N3) : ∀ (l : List Int) (s : NSet) (i : Nat), i < 64 → (l.foldl (selF p ns) s).getLsbD i = (s.getLsbD i || (decide ((i : Int) ∈ l) && p (ns.getD i (0, 0, 0))))
  | [], s, i, _ => by simp
  | n :: l, s, i, hi => by
    rw [List.foldl_cons, selG_get p ns l _ i hi, selF_get p ns s n i hi]
    by_cases hn : n = (i : Int)
    · subst hn
      cases s.getLsbD i <;> cases p (ns.getD i (0, 0, 0)) <;> simp
    · have h2 : ¬ (i : Int) = n := fun e => hn e.symm
      simp [hn, h2]
/-- the nodes that are as p asks -/
def sel (p : N3 → Bool) (ns : List N3) : NSet := selL p ns (nodes (firstI ns.length))
theorem mem_first (m : Nat) (i : Nat) (hi : i < 64) : (i : Int) ∈ nodes (firstI m) ↔ i < m := by
  rw [nodes_mem (card (firstI m)) (firstI m) rfl, hasI_nat, firstI_get _ _ hi, decide_eq_true_eq]
  omega
theorem sel_get (p : N3 → Bool) (ns : List N3) (i : Nat) (hi : i < 64) : (sel p ns).getLsbD i = (decide (i < ns.length) && p (ns.getD i (0, 0, 0))) := by
  unfold sel selL
  rw [selG_get p ns _ _ i hi, BitVec.getLsbD_zero, Bool.false_or]
  congr 1
  exact decide_eq_decide.2 (mem_first _ _ hi)
theorem sel_sub (p : N3 → Bool) (ns : List N3) : Sub (sel p ns) (firstI ns.length) := sub_iff.2 fun i hi h => by
  rw [sel_get p ns i hi, Bool.and_eq_true, decide_eq_true_eq] at h
  rw [firstI_get _ _ hi, decide_eq_true_eq]
  omega
/-- what a fleet holds: the rules, its nodes, which are spares, how many swaps -/
structure FV where
  S : Int
  D : Int
  P : Int
  ns : List N3
  sp : NSet
  sw : Int
def inF (f : FV) (k : Int) : NSet := sel (fun n => n.1 == k) f.ns
def upF (f : FV) : NSet := inF f 0
def allF (f : FV) : NSet := firstI f.ns.length
def actF (f : FV) : NSet := allF f &&& ~~~ f.sp
def goneF (f : FV) : NSet := actF f &&& ~~~ upF f
def freeF (f : FV) : NSet := f.sp &&& upF f
/-- one swap -/
def swap1 (f : FV) : FV := { f with sp := (f.sp ||| oneI (lowI (goneF f))) &&& ~~~ oneI (lowI (freeF f)), sw := if f.sw < 9223372036854775807 then f.sw + 1 else f.sw }
def stopF (f : FV) : Prop := goneF f = 0#64 ∨ freeF f = 0#64
instance (f : FV) : Decidable (stopF f) := by unfold stopF; infer_instance
def swapN : Nat → FV → FV
  | 0, f => f
  | k + 1, f => if stopF f then f else swapN k (swap1 f)
def swapF (f : FV) : FV := swapN 64 f
theorem low_get {s : NSet} (h : s ≠ 0#64) : ∃ i : Nat, lowI s = (i : Int) ∧ i < 64 ∧ s.getLsbD i = true := ⟨lowN s, lowI_pos h, (lowN_spec h).1, (lowN_spec h).2.1⟩
/-- a swap, node by node -/
theorem swap1_get {f : FV} (h : ¬ stopF f) : ∃ a b : Nat, lowI (goneF f) = (a : Int) ∧ lowI (freeF f) = (b : Int) ∧ a < 64 ∧ b < 64 ∧ a ≠ b ∧ a < f.ns.length ∧ f.sp.getLsbD a = false ∧ (upF f).getLsbD a = false ∧ f.sp.getLsbD b = true ∧ (upF f).getLsbD b = true ∧
    ∀ i, i < 64 → (swap1 f).sp.getLsbD i = (decide (i = a) || (f.sp.getLsbD i && !decide (i = b))) := by
  unfold stopF at h
  rw [not_or] at h
  obtain ⟨a, ea, ha, ga⟩ := low_get h.1
  obtain ⟨b, eb, hb, gb⟩ := low_get h.2
  unfold goneF actF allF at ga
  rw [get_diff _ _ _ ha, get_diff _ _ _ ha, firstI_get _ _ ha] at ga
  unfold freeF at gb
  rw [BitVec.getLsbD_and] at gb
  simp only [Bool.and_eq_true, Bool.not_eq_true', decide_eq_true_eq] at ga gb
  have hne : a ≠ b := by
    rintro rfl
    rw [ga.2] at gb
    cases gb.2
  refine ⟨a, b, ea, eb, ha, hb, hne, by omega, ga.1.2, ga.2, gb.1, gb.2, fun i hi => ?_⟩
  unfold swap1
  rw [ea, eb, get_diff _ _ _ hi, BitVec.getLsbD_or, oneI_get, oneI_get]
  have e1 : (decide (i < 64) && decide ((a : Int) = (i : Int))) = decide (i = a) := by rw [decide_eq_true hi, Bool.true_and]; exact decide_eq_decide.2 (by omega)
  have e2 : (decide (i < 64) && decide ((b : Int) = (i : Int))) = decide (i = b) := by rw [decide_eq_true hi, Bool.true_and]; exact decide_eq_decide.2 (by omega)
  rw [e1, e2]
  by_cases hia : i = a
  · subst hia; simp [hne]
  · simp [hia]
theorem swap1_up (f : FV) : upF (swap1 f) = upF f := rfl
theorem swap1_all (f : FV) : allF (swap1 f) = allF f := rfl
theorem gone_get (f : FV) (i : Nat) (hi : i < 64) : (goneF f).getLsbD i = (decide (i < f.ns.length) && !f.sp.getLsbD i && !(upF f).getLsbD i) := by
  unfold goneF actF allF
  rw [get_diff _ _ _ hi, get_diff _ _ _ hi, firstI_get _ _ hi]
  congr 2
  exact decide_eq_decide.2 (by omega)
theorem set_ext {a b : NSet} (h : ∀ i, i < 64 → a.getLsbD i = b.getLsbD i) : a = b := BitVec.eq_of_getLsbD_eq h
/-- a swap: one node less is gone -/
theorem swap1_gone {f : FV} (h : ¬ stopF f) : card (goneF (swap1 f)) + 1 = card (goneF f) := by
  obtain ⟨a, b, ea, eb, ha, hb, hne, hl, h1, h2, h3, h4, hg⟩ := swap1_get h
  have hsub : Sub (oneI (a : Int)) (goneF f) := sub_iff.2 fun i hi hh => by
    rw [oneI_get, Bool.and_eq_true, decide_eq_true_eq, decide_eq_true_eq] at hh
    obtain rfl : a = i := by omega
    rw [gone_get f a ha, h1, h2]
    simp [hl]
  have hd := card_diff hsub
  rw [card_one ha] at hd
  rw [← hd]
  congr 2
  refine set_ext fun i hi => ?_
  rw [gone_get _ i hi, get_diff _ _ _ hi, gone_get f i hi, swap1_up, hg i hi, oneI_get, show (swap1 f).ns = f.ns from rfl]
  by_cases hia : i = a
  · subst hia; simp [ha]
  · have : ¬ (a : Int) = (i : Int) := by omega
    by_cases hib : i = b
    · subst hib; simp [h4]
    · simp [hia, hib, this]
theorem swap1_card {f : FV} (h : ¬ stopF f) : card (swap1 f).sp = card f.sp := by
  obtain ⟨a, b, ea, eb, ha, hb, hne, hl, h1, h2, h3, h4, hg⟩ := swap1_get h
  have hw : card (f.sp ||| oneI (a : Int)) = card f.sp + 1 := card_with ha h1
  have hsub : Sub (oneI (b : Int)) (f.sp ||| oneI (a : Int)) := sub_iff.2 fun i hi hh => by
    rw [oneI_get, Bool.and_eq_true, decide_eq_true_eq, decide_eq_true_eq] at hh
    obtain rfl : b = i := by omega
    rw [BitVec.getLsbD_or, h3]; rfl
  have hd := card_diff hsub
  rw [card_one hb] at hd
  unfold swap1
  rw [ea, eb]
  simp only
  omega
theorem swapN_ns : ∀ (k : Nat) (f : FV), (swapN k f).ns = f.ns ∧ (swapN k f).S = f.S ∧ (swapN k f).D = f.D ∧ (swapN k f).P = f.P ∧ card (swapN k f).sp = card f.sp
  | 0, f => ⟨rfl, rfl, rfl, rfl, rfl⟩
  | k + 1, f => by
    unfold swapN
    split
    · exact ⟨rfl, rfl, rfl, rfl, rfl⟩
    · rename_i h
      have := swapN_ns k (swap1 f)
      exact ⟨this.1, this.2.1, this.2.2.1, this.2.2.2.1, this.2.2.2.2.trans (swap1_card h)⟩
theorem swapN_stop : ∀ (k : Nat) (f : FV), card (goneF f) ≤ k → stopF (swapN k f)
  | 0, f, h => .inl (card_eq_zero (by unfold swapN; omega))
  | k + 1, f, h => by
    unfold swapN
    split
    · assumption
    · rename_i hs
      exact swapN_stop k _ (by have := swap1_gone hs; omega)
theorem swapF_stop (f : FV) : stopF (swapF f) := swapN_stop 64 f (card_le _)
/-- swaps that go on to where they stop -/
theorem swapN_more : ∀ (j k : Nat) (f : FV), card (goneF f) ≤ k → k ≤ j → swapN j f = swapN k f
  | 0, k, f, h, hk => by obtain rfl : k = 0 := by omega
                         rfl
  | j + 1, 0, f, h, hk => by
    unfold swapN
    rw [if_pos (.inl (card_eq_zero (by omega)))]
  | j + 1, k + 1, f, h, hk => by
    unfold swapN
    split
    · rfl
    · rename_i hs
      exact swapN_more j k _ (by have := swap1_gone hs; omega) (by omega)
theorem swapF_step {f : FV} (h : ¬ stopF f) : swapF f = swapF (swap1 f) := by
  have h1 := swap1_gone h
  have h2 := card_le (goneF f)
  unfold swapF
  rw [swapN_more 64 63 (swap1 f) (by omega) (by omega)]
  show swapN (63 + 1) f = _
  rw [show swapN (63 + 1) f = if stopF f then f else swapN 63 (swap1 f) from rfl, if_neg h]
theorem swapF_done {f : FV} (h : stopF f) : swapF f = f := by
  show (if stopF f then f else _) = f
  rw [if_pos h]
end Go.Proofs.YtnofgffkfapodaaDoor
namespace Go.Proofs.YtnofgffkfapodaaDoor
set_option linter.unusedVariables false
open Go
/-- the numbers below k for which p holds, rising -/
def upto (p : Nat → Bool) (k : Nat) : List Int := ((List.range k).filter p).map Int.ofNat
theorem upto_zero (p : Nat → Bool) : upto p 0 = [] := rfl
theorem upto_yes {p : Nat → Bool} {k : Nat} (h : p k = true) : upto p (k + 1) = upto p k ++ [(k : Int)] := by
  unfold upto; rw [List.range_succ, List.filter_append]; simp [h]
theorem upto_no {p : Nat → Bool} {k : Nat} (h : p k = false) : upto p (k + 1) = upto p k := by
  unfold upto; rw [List.range_succ, List.filter_append]; simp [h]
theorem upto_length (p : Nat → Bool) (k : Nat) : (upto p k).length ≤ k := by
  unfold upto; rw [List.length_map]; exact Nat.le_trans (List.length_filter_le _ _) (by simp)
theorem mem_upto {p : Nat → Bool} {k : Nat} {n : Int} : n ∈ upto p k ↔ 0 ≤ n ∧ n < k ∧ p n.toNat = true := by
  unfold upto
  simp only [List.mem_map, List.mem_filter, List.mem_range]
  constructor
  · rintro ⟨i, ⟨h1, h2⟩, rfl⟩
    exact ⟨by simp, by simpa using h1, by simpa using h2⟩
  · rintro ⟨h0, h1, h2⟩
    exact ⟨n.toNat, ⟨by omega, h2⟩, by simp; omega⟩
theorem upto_sorted (p : Nat → Bool) : ∀ k, (upto p k).Pairwise (· < ·)
  | 0 => .nil
  | k + 1 => by
    have ih := upto_sorted p k
    cases h : p k with
    | false => rw [upto_no h]; exact ih
    | true =>
      rw [upto_yes h, List.pairwise_append]
      refine ⟨ih, by simp, fun a ha b hb => ?_⟩
      rw [List.mem_singleton] at hb
      have := (mem_upto.1 ha).2.1
      omega
theorem sorted_ext : ∀ (a b : List Int), a.Pairwise (· < ·) → b.Pairwise (· < ·) → (∀ n, n ∈ a ↔ n ∈ b) → a = b
  | [], [], _, _, _ => rfl
  | [], y :: b, _, _, h => by have := (h y).2 (by simp); cases this
  | x :: a, [], _, _, h => by have := (h x).1 (by simp); cases this
  | x :: a, y :: b, ha, hb, h => by
    obtain ⟨ha1, ha2⟩ := List.pairwise_cons.1 ha
    obtain ⟨hb1, hb2⟩ := List.pairwise_cons.1 hb
    have hxy : x = y := by
      have h1 := (h x).1 (by simp)
      have h2 := (h y).2 (by simp)
      rcases List.mem_cons.1 h1 with e | e
      · exact e
      · rcases List.mem_cons.1 h2 with e' | e'
        · exact e'.symm
        · have := hb1 _ e; have := ha1 _ e'; omega
    subst hxy
    rw [sorted_ext a b ha2 hb2 fun n => ?_]
    constructor
    · intro hn
      have := ha1 _ hn
      rcases List.mem_cons.1 ((h n).1 (by simp [hn])) with e | e
      · omega
      · exact e
    · intro hn
      have := hb1 _ hn
      rcases List.mem_cons.1 ((h n).2 (by simp [hn])) with e | e
      · omega
      · exact e
theorem upto_nodes (s : NSet) : upto (fun i => s.getLsbD i) 64 = nodes s := by
  refine sorted_ext _ _ (upto_sorted _ _) (nodes_sorted (card s) s rfl) fun n => ?_
  rw [mem_upto, nodes_mem (card s) s rfl, hasI_iff]
  constructor
  · rintro ⟨h0, _, h2⟩; exact ⟨h0, h2⟩
  · rintro ⟨h0, h2⟩
    refine ⟨h0, ?_, h2⟩
    have := hasI_lt ((hasI_iff s n).2 ⟨h0, h2⟩)
    omega
/-! a list's set -/
theorem addL_get (i : Nat) (hi : i < 64) : ∀ (l : List Int) (c : NSet), (addL c l).getLsbD i = (c.getLsbD i || decide ((i : Int) ∈ l))
  | [], c => by simp [addL]
  | x :: l, c => by
    rw [addL_cons, addL_get i hi l, BitVec.getLsbD_or, oneI_get]
    simp only [hi, decide_true, Bool.true_and, List.mem_cons]
    by_cases h : x = (i : Int)
    · simp [h]
    · have h' : ¬ (i : Int) = x := fun e => h e.symm
      simp [h, h']
theorem addL_has (l : List Int) (n : Int) (h0 : 0 ≤ n) (h1 : n < 64) : hasI (addL 0#64 l) n = decide (n ∈ l) := by
  unfold hasI
  rw [addL_get n.toNat (by omega), BitVec.getLsbD_zero, Bool.false_or]
  have : ((n.toNat : Nat) : Int) = n := by omega
  simp [h0, this]
theorem made_nodes (l : List Int) : upto (fun i => decide ((i : Int) ∈ l)) 64 = nodes (addL 0#64 l) := by
  rw [← upto_nodes]
  unfold upto
  congr 1
  refine List.filter_congr fun i hi => ?_
  have hi' := List.mem_range.1 hi
  rw [addL_get i hi', BitVec.getLsbD_zero, Bool.false_or]
theorem addL_nodes (s : NSet) : addL 0#64 (nodes s) = s := by
  have := ofL_nodes (card s) s rfl
  have key : ∀ (l : List Int) (c : NSet), addL c l = c ||| ofL l := by
    intro l
    induction l with
    | nil => intro c; simp [addL, ofL]
    | cons x l ih => intro c; rw [addL_cons, ih, BitVec.or_assoc]; rfl
  rw [key, this]; simp
/-- nodes that rise are each new -/
theorem rising_new {l : List Int} (hs : l.Pairwise (· < ·)) (hr : ∀ x ∈ l, 0 ≤ x ∧ x < 64) (k : Nat) (hk : k < l.length) : hasI (addL 0#64 (l.take k)) (l.getD k 0) = false := by
  have e : l.getD k 0 = l[k] := by simp [List.getD, List.getElem?_eq_getElem hk]
  rw [e]
  have hb := hr l[k] (List.getElem_mem hk)
  rw [addL_has _ _ hb.1 hb.2, decide_eq_false_iff_not]
  intro hm
  obtain ⟨j, hj, hje⟩ := List.getElem_of_mem hm
  rw [List.length_take] at hj
  rw [List.getElem_take] at hje
  have := List.pairwise_iff_getElem.1 hs j k (by omega) hk (by omega)
  omega
theorem add_or_nat {a b : NSet} (h : a &&& b = 0#64) : a.toNat + b.toNat = (a ||| b).toNat := by
  have h1 := BitVec.add_eq_or_of_and_eq_zero a b h
  have h2 : (a + b).toNat = a.toNat + b.toNat := by
    rw [BitVec.toNat_add_of_and_eq_zero h]
  rw [← h1, h2]
theorem and_oneI_zero {s : NSet} {n : Int} (h : hasI s n = false) : s &&& oneI n = 0#64 := (and_one s n).2 h
end Go.Proofs.YtnofgffkfapodaaDoor
