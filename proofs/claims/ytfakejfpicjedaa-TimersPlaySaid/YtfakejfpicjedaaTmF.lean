/- A clock of alarms in memory: New, Len, Next, At, Set, Drop (layer 17). No condition. -/
import Derived.Test.YtfakejfpicjedaaTmE
import Derived.Test.YtfakejfpicjedaaTmQ
namespace Go.Proofs.Ytfakejfpicjedaa
set_option linter.unusedVariables false
open Go.ChangeShapes Go.WideShapes Go.ChangeAt Go.RowKit Tm
attribute [local go_sem ↓] Go.wp_at_zero Go.wp_at_succ comesTo_value_eq comesTo_skip_eq comesTo_enter_eq

/-- a clock in block c -/
structure Ck (w : World) (c Q m : Nat) (v : Value) (R : List AL) : Prop where
  blk : w.heap[c]? = some (.cells #[.pointer (some ⟨Q, 0, none⟩)] 54 (0, 0))
  q : ∃ A pm, Tq w Q m v A pm A.length ∧ Co A pm ∧ HP A A.length ∧ A.Perm R
  srt : SrtT R
theorem Ck.len {w : World} {c Q m : Nat} {v : Value} {R : List AL} (h : Ck w c Q m v R) : R.length ≤ 4096 := by
  obtain ⟨A, pm, _, hC, _, hp⟩ := h.q
  rw [← hp.length_eq]
  exact hC.len
theorem Ck.num {w : World} {c Q m : Nat} {v : Value} {R : List AL} (h : Ck w c Q m v R) : ∀ x ∈ R, i64T x.2 ∧ 0 ≤ x.1 ∧ x.1 < 1099511627776 := by
  obtain ⟨A, pm, _, hC, _, hp⟩ := h.q
  exact fun x hx => hC.num x (hp.mem_iff.2 hx)
theorem Ck.inj {w : World} {c Q m : Nat} {v : Value} {R : List AL} (h : Ck w c Q m v R) : ∀ y ∈ R, ∀ z ∈ R, y.2 = z.2 → y = z := by
  obtain ⟨A, pm, _, hC, _, hp⟩ := h.q
  exact fun y hy z hz e => ids_inj hC (hp.mem_iff.2 hy) (hp.mem_iff.2 hz) e
theorem Ck.lt {w : World} {c Q m : Nat} {v : Value} {R : List AL} (h : Ck w c Q m v R) : c < w.heap.size ∧ Q < w.heap.size ∧ m < w.heap.size ∧ ∀ g, v.ownBlock = some g → g < w.heap.size := by
  obtain ⟨A, pm, hT, _, _, hp⟩ := h.q
  exact ⟨(Array.getElem?_eq_some_iff.1 h.blk).1, hT.lt, hT.map.mlt, fun g hg => (hT.rne hg).2.2⟩
theorem Ck.ne {w : World} {c Q m : Nat} {v : Value} {R : List AL} (h : Ck w c Q m v R) : c ≠ Q ∧ c ≠ m ∧ v.ownBlock ≠ some c := by
  obtain ⟨A, pm, hT, _, _, hp⟩ := h.q
  refine ⟨?_, ?_, ?_⟩
  · rintro rfl
    have := h.blk
    rw [hT.blk] at this
    injection this with this
    injection this with _ this _
    exact absurd this (by decide)
  · obtain ⟨es, clock, hb⟩ := hT.map.blk
    rintro rfl
    have := h.blk
    rw [hb] at this
    cases this
  · intro hg
    rcases hT.row.2 with ⟨rfl, _⟩ | ⟨g', cap, cur, rfl, _, hh, _⟩
    · cases hg
    · simp only [Value.ownBlock, Option.some.injEq] at hg
      subst hg
      have := h.blk
      rw [hh] at this
      injection this with this
      injection this with _ this _
      exact absurd this (by decide)
theorem Ck.keep {w w' : World} {c Q m : Nat} {v : Value} {R : List AL} (h : Ck w c Q m v R) (h0 : w'.heap[c]? = w.heap[c]?) (h1 : w'.heap[Q]? = w.heap[Q]?) (h2 : w'.heap[m]? = w.heap[m]?) (h3 : ∀ g, v.ownBlock = some g → w'.heap[g]? = w.heap[g]?) : Ck w' c Q m v R := by
  obtain ⟨A, pm, hT, hC, hH, hp⟩ := h.q
  exact ⟨h0.trans h.blk, ⟨A, pm, hT.keep h1 h2 h3, hC, hH, hp⟩, h.srt⟩
theorem Ck.below {w w' : World} {c Q m : Nat} {v : Value} {R : List AL} (h : Ck w c Q m v R) (hb : Below w.heap.size w w') : Ck w' c Q m v R :=
  have l := h.lt
  h.keep (hb.block c l.1) (hb.block Q l.2.1) (hb.block m l.2.2.1) (fun g hg => hb.block g (l.2.2.2 g hg))
theorem RowA.setAt {w' : World} {A : List AL} {g cap : Nat} {cur : Array Value} {k : Nat} (hk : k < A.length) {t : Int} (hc : A.length ≤ cap) (hm : cap ≤ maxLen) (hs : cur.size = cap * 2) (ht : cur.toList.take (A.length * 2) = flA A)
    (hw : w'.heap[g]? = some (.cells (cur.setIfInBounds (k * 2) (.int .i64 t)) 42 (0, 0))) : RowA w' (.slice (some ⟨g, 0, none⟩) A.length cap) (A.set k (t, (gA A k).2)) := by
  refine RowA.set (w := w') (x := (t, (gA A k).2)) hc hm hs ht ?_
  rw [hw]
  congr 2
  refine Array.ext (by simp) fun i h1 h2 => ?_
  rw [Array.getElem_setIfInBounds (by simpa using h1)]
  split
  · rename_i e
    subst e
    rw [Array.getElem_setIfInBounds (by simpa using h1), if_neg (by omega), Array.getElem_setIfInBounds (by simpa using h1), if_pos rfl]
  · rename_i e
    rw [Array.getElem_setIfInBounds (by simpa using h1)]
    split
    · rename_i e2
      subst e2
      have := (cur_get hk ht).2
      rw [Array.getElem?_eq_some_iff] at this
      exact this.2
    · rw [Array.getElem_setIfInBounds (by simpa using h1), if_neg e]
def setR (R : List AL) (id t : Int) : List AL × Int :=
  if t < 0 ∨ 1099511627776 ≤ t then (R, 18)
  else if inR R id = false ∧ 4096 ≤ R.length then (R, 15)
  else (insR (t, id) (delR R id), 0)
/-- behind Fix -/
theorem set_known {A R : List AL} {pm : Int → Option Nat} (hC : Co A pm) (hH : HP A A.length) (hp : A.Perm R) (hs : SrtT R) {id t : Int} {i : Nat} (hi : pm id = some i) (ht : ¬ (t < 0 ∨ 1099511627776 ≤ t)) :
    setR R id t = (insR (t, id) (delR R id), 0) ∧ HP (fixF (A.set i (t, id)) i A.length) (fixF (A.set i (t, id)) i A.length).length ∧ (fixF (A.set i (t, id)) i A.length).Perm (insR (t, id) (delR R id)) ∧ SrtT (insR (t, id) (delR R id)) := by
  obtain ⟨hi1, hi2⟩ := hC.is id i hi
  have hk := known_iff hC hp id
  rw [hi] at hk
  have hl : (fixF (A.set i (t, id)) i A.length).length = A.length := by rw [fixF_len, List.length_set]
  refine ⟨?_, ?_, ?_, ?_⟩
  · unfold setR
    rw [if_neg ht, if_neg]
    rw [← hk]
    rintro ⟨h, _⟩
    cases h
  · rw [hl]
    exact set_fix hH hi1 _
  · refine (fixF_perm (by rw [List.length_set]; exact Nat.le_refl _) hi1).trans ?_
    refine ((set_perm hC hi1 (t, id)).trans ?_).trans (ins_perm _ _).symm
    rw [hi2]
    exact (del_perm hp id).cons _
  · exact ins_srt (del_srt hs id) fun y hy => (del_mem.1 hy).2
/-- behind Push -/
theorem set_new {A R : List AL} {pm : Int → Option Nat} (hC : Co A pm) (hH : HP A A.length) (hp : A.Perm R) (hs : SrtT R) {id t : Int} (hi : pm id = none) (hl : A.length < 4096) (ht : ¬ (t < 0 ∨ 1099511627776 ≤ t)) :
    setR R id t = (insR (t, id) (delR R id), 0) ∧ HP (pushF A (t, id)) (pushF A (t, id)).length ∧ (pushF A (t, id)).Perm (insR (t, id) (delR R id)) ∧ SrtT (insR (t, id) (delR R id)) := by
  have hk := known_iff hC hp id
  rw [hi] at hk
  have hk0 : inR R id = false := hk.symm
  refine ⟨?_, ?_, ?_, ?_⟩
  · unfold setR
    rw [if_neg ht, if_neg]
    rintro ⟨_, h⟩
    rw [← hp.length_eq] at h
    omega
  · rw [pushF_len]
    exact pushF_heap hH _
  · refine (pushF_perm A _).trans ?_
    rw [del_none hk0]
    refine List.perm_append_comm.trans ?_
    exact (hp.cons _).trans (ins_perm _ _).symm
  · exact ins_srt (del_srt hs id) fun y hy => (del_mem.1 hy).2
/-- behind Remove -/
theorem drop_known {A R : List AL} {pm : Int → Option Nat} (hC : Co A pm) (hH : HP A A.length) (hp : A.Perm R) (hs : SrtT R) {id : Int} {i k : Nat} (hi : pm id = some i) (hk : A.length = k + 1) :
    i ≤ k ∧ HP ((remF A i).take k) ((remF A i).take k).length ∧ ((remF A i).take k).Perm (delR R id) ∧ ((remF A i).take k).length = k := by
  obtain ⟨hi1, hi2⟩ := hC.is id i hi
  have hl : (remF A i).length = k + 1 := by rw [remF_len, hk]
  have hl2 : ((remF A i).take k).length = k := take_len hl
  refine ⟨by omega, ?_, ?_, hl2⟩
  · rw [hl2]
    have h1 := remF_heap hH hi1
    rw [hk, Nat.add_sub_cancel] at h1
    exact h1.of_eq fun j hj => gA_take hj
  · have h1 := drop_perm hl
    have h2 := remF_last hi1
    rw [hk, Nat.add_sub_cancel] at h2
    rw [h2] at h1
    have h3 := one_perm hC hi1
    have h4 := (h1.symm.trans (remF_perm hi1)).trans h3
    have h5 := (List.perm_cons _).1 h4
    rw [hi2] at h5
    exact h5.trans (del_perm hp id)
theorem at_known {A R : List AL} {pm : Int → Option Nat} (hC : Co A pm) (hp : A.Perm R) {id : Int} {i : Nat} (hi : pm id = some i) : i < A.length ∧ atR R id = some (gA A i).1 := by
  obtain ⟨hi1, hi2⟩ := hC.is id i hi
  exact ⟨hi1, atR_mem (fun y hy z hz e => ids_inj hC (hp.mem_iff.2 hy) (hp.mem_iff.2 hz) e) (hp.mem_iff.1 (gA_mem hi1)) hi2⟩

theorem ck_there {w : World} {c Q m : Nat} {v : Value} {R : List AL} (h : Ck w c Q m v R) :
    Calls Try.prog 20 #[.pointer (some ⟨c, 0, none⟩)] w fun e w' => e = .returned (.bool true) ∧ w' = w := by
  have q0 : w.cell? ⟨c, 0, none⟩ = some (.pointer (some ⟨Q, 0, none⟩)) := cell_of_block (o := 0) h.blk rfl
  clear h
  go_enter Try.func20, Try.ntmps20
  go_wp2_with fail
  go_ret
  exact ⟨rfl, rfl⟩
theorem ck_len {w : World} {c Q m : Nat} {v : Value} {R : List AL} (h : Ck w c Q m v R) :
    Calls Try.prog 16 #[.pointer (some ⟨c, 0, none⟩)] w fun e w' => e = .returned (.int .i64 (R.length : Int)) ∧ w' = w := by
  have q0 : w.cell? ⟨c, 0, none⟩ = some (.pointer (some ⟨Q, 0, none⟩)) := cell_of_block (o := 0) h.blk rfl
  have K0 := Lib.hid (ck_there h)
  obtain ⟨A, pm, hT, _, _, hp⟩ := h.q
  have k1 := qlen hT
  rw [hp.length_eq] at k1
  have K1 := Lib.hid k1
  clear h hT hp k1
  go_enter Try.func16, Try.ntmps16
  go_wp2_with fail
  refine K0.out.mono ?_
  rintro e w1 ⟨rfl, hw⟩
  obtain rfl := hw
  go_wp2_with fail
  refine K1.out.mono ?_
  rintro e w2 ⟨rfl, hw⟩
  obtain rfl := hw
  go_wp2_with fail
  go_ret
  exact ⟨rfl, rfl⟩
set_option maxRecDepth 100000 in
theorem ck_next {w : World} {c Q m : Nat} {v : Value} {R : List AL} (h : Ck w c Q m v R) :
    Calls Try.prog 17 #[.pointer (some ⟨c, 0, none⟩)] w fun e w' => e = .returned (.int .i64 (nextR R)) ∧ w' = w := by
  have q0 : w.cell? ⟨c, 0, none⟩ = some (.pointer (some ⟨Q, 0, none⟩)) := cell_of_block (o := 0) h.blk rfl
  have k0 := ck_len h
  obtain ⟨A, pm, hT, _, hH, hp⟩ := h.q
  have hs := h.srt
  clear h
  cases R with
  | nil =>
    have K0 := Lib.hid k0
    clear hT hp k0 hs hH
    go_enter Try.func17, Try.ntmps17
    go_wp2_with fail
    refine K0.out.mono ?_
    rintro e w1 ⟨rfl, hw⟩
    obtain rfl := hw
    go_wp2_with fail
    go_ret
    exact ⟨rfl, rfl⟩
  | cons x R =>
    have hd := head_is hH hp hs
    have hl : 0 < A.length := by rw [hp.length_eq]; simp
    obtain ⟨g, cap, cur, rfl, hg, hcp, hm, hsz, ht⟩ := hT.row.pos hl
    have q1 : w.cell? ⟨Q, 0, none⟩ = some (.slice (some ⟨g, 0, none⟩) A.length cap) := cell_of_block (o := 0) hT.blk rfl
    have x0 := cell_of_block hg (cur_get hl ht).1
    rw [hd, Nat.zero_mul] at x0
    have hl2 : (0 : Int) < (A.length : Int) := by omega
    obtain ⟨N, hN⟩ : ∃ N : Int, N = ((x :: R).length : Int) := ⟨_, rfl⟩
    rw [← hN] at k0
    have hN0 : (N == 0) = false := by rw [beq_eq_false_iff_ne, hN]; simp; omega
    have K0 := Lib.hid k0
    generalize A.length = n at *
    clear hT hp k0 hs hH hg hcp hm hsz ht hd hN hl
    go_enter Try.func17, Try.ntmps17
    go_wp2_with fail
    refine K0.out.mono ?_
    rintro e w1 ⟨rfl, hw⟩
    obtain rfl := hw
    go_wp2_with fail
    go_ret
    exact ⟨rfl, rfl⟩
set_option maxRecDepth 100000 in
theorem ck_at {w : World} {c Q m : Nat} {v : Value} {R : List AL} (h : Ck w c Q m v R) {id : Int} (hid : i64T id) :
    Calls Try.prog 15 #[.pointer (some ⟨c, 0, none⟩), .int .i64 id] w fun e w' => e = .returned (.tuple #[.int .i64 ((atR R id).getD 0), .bool (atR R id).isSome]) ∧ w' = w := by
  have q0 : w.cell? ⟨c, 0, none⟩ = some (.pointer (some ⟨Q, 0, none⟩)) := cell_of_block (o := 0) h.blk rfl
  have K0 := Lib.hid (ck_there h)
  obtain ⟨A, pm, hT, hC, hH, hp⟩ := h.q
  have q2 : w.cell? ⟨Q, 1, none⟩ = some (.map (some m)) := cell_of_block (o := 1) hT.blk rfl
  have hlk := hT.map.none_lit hid
  clear h
  cases hi : pm id with
  | none =>
    rw [hi] at hlk
    simp only [Option.getD_some, Option.isSome_some, Option.getD_none, Option.isSome_none, Int.natCast_zero] at hlk
    have hk := known_iff hC hp id
    rw [hi] at hk
    have HE := Lib.hid (atR_none hk.symm)
    clear hT hC hH hp hi hk
    go_enter Try.func15, Try.ntmps15
    go_wp2_with fail
    refine K0.out.mono ?_
    rintro e w1 ⟨rfl, hw⟩
    obtain rfl := hw
    go_wp2_with fail
    go_ret2
    rw [HE.out]
    exact ⟨rfl, rfl⟩
  | some i =>
    rw [hi] at hlk
    simp only [Option.getD_some, Option.isSome_some, Option.getD_none, Option.isSome_none, Int.natCast_zero] at hlk
    obtain ⟨hi1, hE⟩ := at_known hC hp hi
    have HE := Lib.hid hE
    obtain ⟨g, cap, cur, rfl, hg, hcp, hm, hsz, ht⟩ := hT.row.pos (by omega)
    have q1 : w.cell? ⟨Q, 0, none⟩ = some (.slice (some ⟨g, 0, none⟩) A.length cap) := cell_of_block (o := 0) hT.blk rfl
    have x0 := cell_of_block hg (cur_get hi1 ht).1
    have hl2 : (i : Int) < (A.length : Int) := by omega
    generalize gA A i = a at *
    generalize A.length = n at *
    clear hT hC hH hp hi hE hi1 hg hcp hm hsz ht
    obtain ⟨a1, a2⟩ := a
    dsimp only at x0 HE
    go_enter Try.func15, Try.ntmps15
    go_wp2_with fail
    refine K0.out.mono ?_
    rintro e w1 ⟨rfl, hw⟩
    obtain rfl := hw
    go_wp2_with fail
    go_ret2
    rw [HE.out]
    exact ⟨rfl, rfl⟩
set_option maxRecDepth 100000 in
theorem ck_new (w : World) : Calls Try.prog 8 #[] w fun e w' => ∃ c Q m, e = .returned (.pointer (some ⟨c, 0, none⟩)) ∧ Ck w' c Q m (.slice none 0 0) [] ∧ Below w.heap.size w w' ∧ w.heap.size ≤ c ∧ w.heap.size ≤ Q ∧ w.heap.size ≤ m := by
  have hmm := @run_makeMap Try.prog
  have b1 := below_alloc (Below.refl _ w) (.map #[] 0)
  have m1 := PM.made w
  have b2 := below_alloc (Below.refl _ (w.alloc (.map #[] 0))) (.cells #[.slice none 0 0, .map (some w.heap.size)] 60)
  have q2 := World.alloc_heap_new (w.alloc (.map #[] 0)) (.cells #[.slice none 0 0, .map (some w.heap.size)] 60)
  have b3 := below_alloc (Below.refl _ ((w.alloc (.map #[] 0)).alloc (.cells #[.slice none 0 0, .map (some w.heap.size)] 60))) (.cells #[.pointer (some ⟨w.heap.size + 1, 0, none⟩)] 54)
  have q3 := World.alloc_heap_new ((w.alloc (.map #[] 0)).alloc (.cells #[.slice none 0 0, .map (some w.heap.size)] 60)) (.cells #[.pointer (some ⟨w.heap.size + 1, 0, none⟩)] 54)
  have S1 := Lib.hid (show (w.alloc (.map #[] 0)).heap.size = w.heap.size + 1 from by simp)
  have S2 := Lib.hid (show ((w.alloc (.map #[] 0)).alloc (.cells #[.slice none 0 0, .map (some w.heap.size)] 60)).heap.size = w.heap.size + 1 + 1 from by simp)
  have B1 := Lib.hid b1
  have B2 := Lib.hid b2
  have B3 := Lib.hid b3
  have M1 := Lib.hid m1
  have Q2 := Lib.hid q2
  have Q3 := Lib.hid q3
  clear b1 m1 b2 q2 b3 q3
  go_enter Try.func8, Try.ntmps8
  go_wp2_with fail
  go_ret
  generalize ((w.alloc (.map #[] 0)).alloc (.cells #[.slice none 0 0, .map (some w.heap.size)] 60)).alloc (.cells #[.pointer (some ⟨w.heap.size + 1, 0, none⟩)] 54) = W3 at *
  generalize (w.alloc (.map #[] 0)).alloc (.cells #[.slice none 0 0, .map (some w.heap.size)] 60) = W2 at *
  generalize w.alloc (.map #[] 0) = W1 at *
  have hm := M1.out.mlt
  have l1 := B1.out.size
  have l2 := B2.out.size
  have hq := (Array.getElem?_eq_some_iff.1 Q2.out).1
  have e1 := (B3.out.block _ hq).trans Q2.out
  have e3 := Q3.out
  rw [S2.out] at e3
  rw [S1.out] at e1 hq l2 hm
  have hT : Tq W3 (w.heap.size + 1) w.heap.size (.slice none 0 0) [] (fun _ => Option.none) 0 := ⟨e1, ⟨rfl, .inl ⟨rfl, rfl⟩⟩, (M1.out.keep (B2.out.block _ (by rw [S1.out]; exact hm))).keep (B3.out.block _ (by omega))⟩
  have hC : Co [] (fun _ => Option.none) := ⟨fun k h => absurd h (Nat.not_lt_zero _), fun _ _ h => by (cases h), fun _ h => (by cases h), Nat.zero_le _⟩
  refine ⟨w.heap.size + 1 + 1, w.heap.size + 1, w.heap.size, rfl, ⟨e3, ⟨[], _, hT, hC, fun k _ h => absurd h (Nat.not_lt_zero _), .refl _⟩, List.Pairwise.nil⟩, ?_, by omega, by omega, Nat.le_refl _⟩
  exact (B1.out.trans (B2.out.mono (by omega))).trans (B3.out.mono (by omega))
theorem ck_fr {w w' : World} {c Q m : Nat} {v : Value} {R : List AL} (h : Ck w c Q m v R) (hF : FrT Q m v w w') : w'.heap[c]? = some (.cells #[.pointer (some ⟨Q, 0, none⟩)] 54 (0, 0)) :=
  (hF.blk c h.lt.1 h.ne.1 h.ne.2.1 h.ne.2.2).trans h.blk
set_option maxRecDepth 100000 in
set_option maxHeartbeats 1000000 in
theorem ck_set {w : World} {c Q m : Nat} {v : Value} {R : List AL} (h : Ck w c Q m v R) {id t : Int} (hid : i64T id) (hti : i64T t) :
    Calls Try.prog 10 #[.pointer (some ⟨c, 0, none⟩), .int .i64 id, .int .i64 t] w fun e w' => e = .returned (.int .i64 (setR R id t).2) ∧ ∃ v', Ck w' c Q m v' (setR R id t).1 ∧ FrT Q m v w w' ∧ RowN w v v' := by
  have q0 : w.cell? ⟨c, 0, none⟩ = some (.pointer (some ⟨Q, 0, none⟩)) := cell_of_block (o := 0) h.blk rfl
  have K0 := Lib.hid (ck_there h)
  have K1 := Lib.hid (ck_len h)
  have HK := Lib.hid h
  have HCB := Lib.hid (fun (w' : World) (hF : FrT Q m v w w') => ck_fr h hF)
  obtain ⟨A, pm, hT, hC, hH, hp⟩ := h.q
  have hs := h.srt
  have q2 : w.cell? ⟨Q, 1, none⟩ = some (.map (some m)) := cell_of_block (o := 1) hT.blk rfl
  have hlk := hT.map.none_lit hid
  have HID := Lib.hid hid
  clear h hid
  by_cases h1 : t < 0
  case pos =>
    have HE := Lib.hid (show setR R id t = (R, 18) from by unfold setR; rw [if_pos (.inl h1)])
    clear hT hC hH hp hs hlk K1 hti
    go_enter Try.func10, Try.ntmps10
    go_wp2_with fail
    refine K0.out.mono ?_
    rintro e w1 ⟨rfl, hw⟩
    obtain rfl := hw
    go_wp2_with fail
    go_ret
    rw [HE.out]
    exact ⟨rfl, v, HK.out, FrT.refl _ _ _ _, RowN.refl _ _⟩
  case neg =>
    by_cases h2 : 1099511627776 ≤ t
    case pos =>
      have HE := Lib.hid (show setR R id t = (R, 18) from by unfold setR; rw [if_pos (.inr h2)])
      clear hT hC hH hp hs hlk K1 hti
      go_enter Try.func10, Try.ntmps10
      go_wp2_with fail
      refine K0.out.mono ?_
      rintro e w1 ⟨rfl, hw⟩
      obtain rfl := hw
      go_wp2_with fail
      go_ret
      rw [HE.out]
      exact ⟨rfl, v, HK.out, FrT.refl _ _ _ _, RowN.refl _ _⟩
    case neg =>
      have hts : ¬ (t < 0 ∨ 1099511627776 ≤ t) := by omega
      cases hi : pm id with
      | some i =>
        rw [hi] at hlk
        simp only [Option.getD_some, Option.isSome_some, Option.getD_none, Option.isSome_none, Int.natCast_zero] at hlk
        obtain ⟨hi1, hi2⟩ := hC.is id i hi
        obtain ⟨g, cap, cur, rfl, hg, hcp, hm, hsz, ht⟩ := hT.row.pos (by omega)
        have q1 : w.cell? ⟨Q, 0, none⟩ = some (.slice (some ⟨g, 0, none⟩) A.length cap) := cell_of_block (o := 0) hT.blk rfl
        have x0 := cell_of_block hg (cur_get hi1 ht).1
        have f0 := free_of_block (i * 2) hg
        have hl2 : (i : Int) < (A.length : Int) := by omega
        have hw := (wrote_refl hg).set (i * 2) (.int .i64 t)
        have hne := hT.rne (g := g) rfl
        have hT2 : Tq (w.setCell ⟨g, i * 2, none⟩ (.int .i64 t)) Q m (.slice (some ⟨g, 0, none⟩) A.length cap) (A.set i (t, (gA A i).2)) pm A.length :=
          ⟨(hw.rest Q (fun e => hne.1 e.symm)).trans hT.blk, RowA.setAt hi1 hcp hm hsz ht hw.there, hT.map.keep (hw.rest m (fun e => hne.2.1 e.symm))⟩
        have hF2 : FrT Q m (.slice (some ⟨g, 0, none⟩) A.length cap) w (w.setCell ⟨g, i * 2, none⟩ (.int .i64 t)) := ⟨hw.os, hw.tape, hw.output, Nat.le_of_eq hw.size.symm, fun j _ _ _ hj => hw.rest j (fun e => hj (by rw [e]; rfl))⟩
        have k2 := hfix hT2 (hC.setAt hi1 (by omega)) (by have := hC.len; omega) (i := i) (by rw [List.length_set]; exact hi1)
        rw [List.length_set, hi2] at k2
        have HS := Lib.hid (set_known hC hH hp hs hi hts)
        have HFL := Lib.hid (show (fixF (A.set i (t, id)) i A.length).length = A.length from by rw [fixF_len, List.length_set])
        have Q0 : (w.setCell ⟨g, i * 2, none⟩ (.int .i64 t)).cell? ⟨c, 0, none⟩ = some (.pointer (some ⟨Q, 0, none⟩)) := cell_of_block (o := 0) (HCB.out _ hF2) rfl
        have HF2 := Lib.hid hF2
        have K2 := Lib.hid k2
        generalize fixF (A.set i (t, id)) i A.length = B at *
        obtain ⟨n, hn⟩ : ∃ n, n = A.length := ⟨_, rfl⟩
        rw [← hn] at q1 hl2 HF2 K2 HK HCB HFL ⊢
        clear hT hC hH hp hs hti hi hi1 hi2 hg hcp hm hsz ht hne hT2 hF2 k2 hw K1 hn hts
        go_enter Try.func10, Try.ntmps10
        go_wp2_with fail
        refine K0.out.mono ?_
        rintro e w1 ⟨rfl, hw⟩
        obtain rfl := hw
        go_wp2_with fail
        refine K2.out.mono ?_
        rintro e w2 ⟨rfl, pm2, hT, hC, hF⟩
        have HF3 := Lib.hid (HF2.out.trans hF (RowN.refl _ _))
        have HT := Lib.hid hT
        have HC := Lib.hid hC
        clear hT hC hF K2
        go_wp2_with fail
        go_ret
        rw [HS.out.1]
        refine ⟨rfl, _, ⟨HCB.out _ HF3.out, ⟨B, pm2, ?_, HC.out, HS.out.2.1, HS.out.2.2.1⟩, HS.out.2.2.2⟩, HF3.out, RowN.refl _ _⟩
        rw [HFL.out]
        exact HT.out
      | none =>
        rw [hi] at hlk
        simp only [Option.getD_none, Option.isSome_none, Int.natCast_zero] at hlk
        by_cases hl : 4096 ≤ R.length
        case pos =>
          have hk := known_iff hC hp id
          rw [hi] at hk
          have HE := Lib.hid (show setR R id t = (R, 15) from by unfold setR; rw [if_neg hts, if_pos ⟨hk.symm, hl⟩])
          have hlI : (4096 : Int) ≤ (R.length : Int) := by omega
          generalize hN : R.length = N at *
          clear hT hC hH hp hs hti hi hk hts hl
          go_enter Try.func10, Try.ntmps10
          go_wp2_with fail
          refine K0.out.mono ?_
          rintro e w1 ⟨rfl, hw⟩
          obtain rfl := hw
          go_wp2_with fail
          refine K1.out.mono ?_
          rintro e w2 ⟨rfl, hw⟩
          obtain rfl := hw
          go_wp2_with fail
          go_ret
          rw [HE.out]
          exact ⟨rfl, v, HK.out, FrT.refl _ _ _ _, RowN.refl _ _⟩
        case neg =>
          have hlA : A.length < 4096 := by rw [hp.length_eq]; omega
          have hlI : ¬ (4096 : Int) ≤ (R.length : Int) := by omega
          have HS := Lib.hid (set_new hC hH hp hs hi hlA hts)
          have K2 := Lib.hid (hpush hT hC (x := (t, id)) ⟨HID.out, by omega, by omega⟩ hi hlA)
          have HFL := Lib.hid (pushF_len A (t, id))
          generalize R.length = N at *
          generalize pushF A (t, id) = B at *
          clear hT hC hH hp hs hti hi hts hl hlA
          go_enter Try.func10, Try.ntmps10
          go_wp2_with fail
          refine K0.out.mono ?_
          rintro e w1 ⟨rfl, hw⟩
          obtain rfl := hw
          go_wp2_with fail
          refine K1.out.mono ?_
          rintro e w2 ⟨rfl, hw⟩
          obtain rfl := hw
          go_wp2_with fail
          refine K2.out.mono ?_
          rintro e w3 ⟨rfl, v3, pm3, hT, hC, hF, hR⟩
          have HF3 := Lib.hid hF
          have HR3 := Lib.hid hR
          have HT := Lib.hid hT
          have HC := Lib.hid hC
          clear hT hC hF hR K2
          go_wp2_with fail
          go_ret
          rw [HS.out.1]
          refine ⟨rfl, _, ⟨HCB.out _ HF3.out, ⟨B, pm3, ?_, HC.out, HS.out.2.1, HS.out.2.2.1⟩, HS.out.2.2.2⟩, HF3.out, HR3.out⟩
          rw [HFL.out]
          exact HT.out
set_option maxRecDepth 100000 in
theorem ck_drop {w : World} {c Q m : Nat} {v : Value} {R : List AL} (h : Ck w c Q m v R) {id : Int} (hid : i64T id) :
    Calls Try.prog 12 #[.pointer (some ⟨c, 0, none⟩), .int .i64 id] w fun e w' => e = .returned (.bool (inR R id)) ∧ ∃ v', Ck w' c Q m v' (delR R id) ∧ FrT Q m v w w' ∧ RowN w v v' := by
  have q0 : w.cell? ⟨c, 0, none⟩ = some (.pointer (some ⟨Q, 0, none⟩)) := cell_of_block (o := 0) h.blk rfl
  have K0 := Lib.hid (ck_there h)
  have HK := Lib.hid h
  have HCB := Lib.hid (fun (w' : World) (hF : FrT Q m v w w') => ck_fr h hF)
  obtain ⟨A, pm, hT, hC, hH, hp⟩ := h.q
  have hs := h.srt
  have q2 : w.cell? ⟨Q, 1, none⟩ = some (.map (some m)) := cell_of_block (o := 1) hT.blk rfl
  have hlk := hT.map.none_lit hid
  have hk := known_iff hC hp id
  clear h
  cases hi : pm id with
  | none =>
    rw [hi] at hlk hk
    simp only [Option.getD_none, Option.isSome_none, Int.natCast_zero] at hlk hk
    have HE := Lib.hid (show delR R id = R from del_none hk.symm)
    have HI := Lib.hid hk
    clear hT hC hH hp hs hi hk
    go_enter Try.func12, Try.ntmps12
    go_wp2_with fail
    refine K0.out.mono ?_
    rintro e w1 ⟨rfl, hw⟩
    obtain rfl := hw
    go_wp2_with fail
    go_ret
    rw [HE.out, ← HI.out]
    exact ⟨rfl, v, HK.out, FrT.refl _ _ _ _, RowN.refl _ _⟩
  | some i =>
    rw [hi] at hlk hk
    simp only [Option.getD_some, Option.isSome_some] at hlk hk
    have HI := Lib.hid hk
    have hi1 := (hC.is id i hi).1
    obtain ⟨k, hkl⟩ : ∃ k, A.length = k + 1 := ⟨A.length - 1, by omega⟩
    have HD := Lib.hid (drop_known hC hH hp hs hi hkl)
    have hTk := hT
    rw [hkl] at hTk
    have K2 := Lib.hid (hrem hTk hC hkl HD.out.1)
    have HSD := Lib.hid (del_srt hs id)
    clear hT hC hH hp hs hi hk hi1 hTk
    go_enter Try.func12, Try.ntmps12
    go_wp2_with fail
    refine K0.out.mono ?_
    rintro e w1 ⟨rfl, hw⟩
    obtain rfl := hw
    go_wp2_with fail
    refine K2.out.mono ?_
    rintro e w2 ⟨⟨u, rfl⟩, v2, pm2, hT, hC, hF, hR⟩
    have HF3 := Lib.hid hF
    have HR3 := Lib.hid hR
    have HT := Lib.hid hT
    have HC := Lib.hid hC
    clear hT hC hF hR K2
    go_wp2_with fail
    go_ret
    rw [← HI.out]
    refine ⟨rfl, v2, ⟨HCB.out _ HF3.out, ⟨_, pm2, ?_, HC.out, HD.out.2.1, HD.out.2.2.1⟩, HSD.out⟩, HF3.out, HR3.out⟩
    rw [HD.out.2.2.2]
    exact HT.out
end Go.Proofs.Ytfakejfpicjedaa
