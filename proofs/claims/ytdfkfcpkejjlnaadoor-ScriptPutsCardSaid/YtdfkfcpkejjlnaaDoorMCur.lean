/- A cursor in memory: what it holds; what its readings answer, and leave. No condition. -/
import Derived.Test.YtdfkfcpkejjlnaaDoorAs
import Derived.Test.YtdfkfcpkejjlnaaDoorMac
import Derived.Test.YtdfkfcpkejjlnaaDoorCodP
namespace Go.Proofs.YtdfkfcpkejjlnaaDoor
set_option linter.unusedVariables false
open Go.ChangeShapes Go.WideShapes Go.ChangeAt Go.RowKit
attribute [local go_sem ↓] Go.wp_at_zero Go.wp_at_succ comesTo_value_eq comesTo_skip_eq comesTo_enter_eq

/-- an error, as it is held -/
def badV (e : Int) : Value := if e = 0 then .nilIface else .iface 44 (.int .i64 e)
/-- what a cursor holds: what is left, what was wrong -/
structure CS where
  xs : List Int
  bad : Int
/-- a cursor in block C, its bytes in a block of F -/
structure Cur (w : World) (C : Nat) (F : Nat → Prop) (st : CS) : Prop where
  mem : F C
  none_ : st.bad ≠ 0 → st.xs = []
  fits : st.xs.length ≤ 1099511627775
  at_ : ∃ ad n c, w.heap[C]? = some (.cells #[.slice ad n c, badV st.bad] 97 (0, 0)) ∧ TxtAt w (.slice ad n c) st.xs ∧ n ≤ c ∧ ∀ p, ad = some p → p.block ≠ C ∧ F p.block ∧ p.block < w.heap.size
theorem TxtAt.form {w : World} {ad : Option Addr} {n c : Nat} {xs : List Int} (h : TxtAt w (.slice ad n c) xs) : n = xs.length ∧ ((ad = none ∧ xs = []) ∨ (xs = [] ∧ ad.isSome) ∨ ∃ b o, ad = some ⟨b, o, none⟩ ∧ 0 < n ∧ BytesRow w b o xs) := by
  rcases h with ⟨b, o, cap, h1, h2, h3⟩ | ⟨rfl, a, cap, h1, h2⟩
  · injection h1 with e1 e2 e3
    subst e1 e2 e3
    exact ⟨rfl, .inr (.inr ⟨b, o, rfl, h2, h3⟩)⟩
  · injection h1 with e1 e2 e3
    subst e1 e2 e3
    cases ad with
    | none => exact ⟨rfl, .inl ⟨rfl, rfl⟩⟩
    | some p => exact ⟨rfl, .inr (.inl ⟨rfl, rfl⟩)⟩
/-- bytes where their block is as it was -/
theorem TxtAt.of_blocks {w w' : World} {ad : Option Addr} {n c : Nat} {xs : List Int} (h : TxtAt w (.slice ad n c) xs) (hb : ∀ p, ad = some p → p.block < w.heap.size → w'.heap[p.block]? = w.heap[p.block]?) : TxtAt w' (.slice ad n c) xs := by
  rcases h with ⟨b, o, cap, h1, h2, h3⟩ | h
  · refine .inl ⟨b, o, cap, h1, h2, ⟨fun k hk => ?_, h3.lo, h3.hi, h3.len⟩⟩
    injection h1 with e1 e2 e3
    subst e1 e2 e3
    have hlt := World.block_lt_of_cell? w _ (h3.cell 0 (by omega))
    have := hb _ rfl hlt
    have hc := h3.cell k hk
    simp only [World.cell?, this] at hc ⊢
    exact hc
  · exact .inr h
theorem Fr.cur {w w' : World} {C : Nat} {F G : Nat → Prop} {st : CS} (h : Cur w C F st) (hf : Fr G w w') (hG : ∀ j, F j → j < w.heap.size → ¬ G j) : Cur w' C F st := by
  obtain ⟨hm, hn, hft, ad, n, c, hb, ht, hc, hp⟩ := h
  have hlt : C < w.heap.size := (Array.getElem?_eq_some_iff.1 hb).1
  exact ⟨hm, hn, hft, ad, n, c, (hf.block C hlt (hG C hm hlt)).trans hb, ht.of_blocks fun p e hlt => hf.block _ hlt (hG _ (hp p e).2.1 hlt), hc, fun p e => ⟨(hp p e).1, (hp p e).2.1, Nat.lt_of_lt_of_le (hp p e).2.2 hf.size⟩⟩
theorem Cur.below {w w' : World} {C : Nat} {F : Nat → Prop} {st : CS} (h : Cur w C F st) (hb : Below w.heap.size w w') : Cur w' C F st :=
  Fr.cur (G := fun _ => False) h ⟨hb.os, hb.tape, hb.output, hb.size, fun j hj _ => hb.block j hj⟩ (fun _ _ _ => id)
theorem Cur.more {w : World} {C : Nat} {F G : Nat → Prop} {st : CS} (h : Cur w C F st) (hG : ∀ j, F j → G j) : Cur w C G st := by
  obtain ⟨hm, hn, hft, ad, n, c, hb, ht, hc, hp⟩ := h
  exact ⟨hG _ hm, hn, hft, ad, n, c, hb, ht, hc, fun p e => ⟨(hp p e).1, hG _ (hp p e).2.1, (hp p e).2.2⟩⟩
/-- its blocks are there -/
theorem Cur.tight {w : World} {C : Nat} {F : Nat → Prop} {st : CS} (h : Cur w C F st) : Cur w C (fun j => F j ∧ j < w.heap.size) st := by
  obtain ⟨hm, hn, hft, ad, n, c, hb, ht, hc, hp⟩ := h
  exact ⟨⟨hm, (Array.getElem?_eq_some_iff.1 hb).1⟩, hn, hft, ad, n, c, hb, ht, hc, fun p e => ⟨(hp p e).1, ⟨(hp p e).2.1, (hp p e).2.2⟩, (hp p e).2.2⟩⟩
theorem Cur.lt {w : World} {C : Nat} {F : Nat → Prop} {st : CS} (h : Cur w C F st) : C < w.heap.size := by
  obtain ⟨_, _, _, ad, n, c, hb, _⟩ := h
  exact (Array.getElem?_eq_some_iff.1 hb).1
/-- what a writing of the cursor's block leaves -/
theorem Cur.wrote {w w' : World} {C : Nat} {F : Nat → Prop} {st st' : CS} (h : Cur w C F st) {ad : Option Addr} {n c : Nat} (hw : WroteTo C 97 #[.slice ad n c, badV st'.bad] w w') (hn : st'.bad ≠ 0 → st'.xs = []) (hl : st'.xs.length ≤ st.xs.length)
    (ht : TxtAt w (.slice ad n c) st'.xs) (hc : n ≤ c) (hp : ∀ p, ad = some p → p.block ≠ C ∧ F p.block ∧ p.block < w.heap.size) : Cur w' C F st' ∧ Fr (fun j => j = C) w w' :=
  ⟨⟨h.mem, hn, Nat.le_trans hl h.fits, ad, n, c, hw.there, ht.of_blocks fun p e _ => hw.rest _ (hp p e).1, hc, fun p e => ⟨(hp p e).1, (hp p e).2.1, by rw [hw.size]; exact (hp p e).2.2⟩⟩, ⟨hw.os, hw.tape, hw.output, Nat.le_of_eq hw.size.symm, fun j _ hj => hw.rest j hj⟩⟩

def failF (st : CS) (e : Int) : CS := if st.bad = 0 then ⟨[], e⟩ else st
theorem fail_cur {w : World} {C : Nat} {F : Nat → Prop} {st : CS} (h : Cur w C F st) (e : Int) (he : e ≠ 0) :
    Calls Tryd.prog 51 #[.pointer (some ⟨C, 0, none⟩), .int .i64 e] w fun r w' => r = .returned (.int .i64 0) ∧ Cur w' C F (failF st e) ∧ Fr (fun j => j = C) w w' := by
  obtain ⟨ad, n, c, hb, ht, hc, hp⟩ := h.at_
  unfold failF
  by_cases h0 : st.bad = 0
  · rw [if_pos h0]
    rw [h0, show badV 0 = .nilIface from rfl] at hb
    have c0 := cell_of_block (o := 0) hb rfl
    have c1 := cell_of_block (o := 1) hb rfl
    have f0 := free_of_block 0 hb
    have f1 := free_of_block 1 hb
    have H := Lib.hid h
    have HB := Lib.hid hb
    have HE := Lib.hid he
    clear ht hc hp h h0 hb he
    go_enter Tryd.func51, Tryd.ntmps51
    go_wp2
    go_ret
    refine ⟨rfl, H.out.wrote (st' := ⟨[], e⟩) (ad := none) (n := 0) (c := 0) ?_ (fun _ => rfl) (Nat.zero_le _) (.inr ⟨rfl, none, 0, rfl, fun _ => rfl⟩) (Nat.le_refl _) (fun p hp => by cases hp)⟩
    have := ((wrote_refl HB.out).set 1 (.iface 44 (.int .i64 e))).set 0 (.slice none 0 0)
    rw [show badV e = .iface 44 (.int .i64 e) from if_neg HE.out]
    simpa using this
  · rw [if_neg h0]
    rw [show badV st.bad = .iface 44 (.int .i64 st.bad) from if_neg h0] at hb
    have c1 := cell_of_block (o := 1) hb rfl
    have H := Lib.hid h
    clear ht hc hp h h0 hb
    go_enter Tryd.func51, Tryd.ntmps51
    go_wp2
    go_ret
    exact ⟨rfl, H.out, Fr.refl _ _⟩
theorem rest_cur {w : World} {C : Nat} {F : Nat → Prop} {st : CS} (h : Cur w C F st) :
    Calls Tryd.prog 30 #[.pointer (some ⟨C, 0, none⟩)] w fun r w' => r = .returned (.int .i64 (st.xs.length : Int)) ∧ w = w' := by
  obtain ⟨ad, n, c, hb, ht, hc, hp⟩ := h.at_
  have hn := ht.form.1
  by_cases h0 : st.bad = 0
  · rw [h0, show badV 0 = .nilIface from rfl] at hb
    have c0 := cell_of_block (o := 0) hb rfl
    have c1 := cell_of_block (o := 1) hb rfl
    subst hn
    generalize st.xs.length = n at *
    clear ht hc hp h h0 hb
    go_enter Tryd.func30, Tryd.ntmps30
    go_wp2
    go_ret
    exact ⟨rfl, rfl⟩
  · rw [show badV st.bad = .iface 44 (.int .i64 st.bad) from if_neg h0] at hb
    rw [h.none_ h0]
    have c1 := cell_of_block (o := 1) hb rfl
    clear ht hc hp h h0 hb hn
    go_enter Tryd.func30, Tryd.ntmps30
    go_wp2
    go_ret
    exact ⟨rfl, rfl⟩
theorem unfold_any {u : Nat} (hu : u < 18446744073709551616) (w : World) : Calls Tryd.prog 53 #[.int .u64 (u : Int)] w fun e w' => e = .returned (.int .i64 (unfoldF u)) ∧ w = w' := by
  have H := Lib.hid (unfold_bits hu)
  go_enter Tryd.func53, Tryd.ntmps53
  go_wp2
  go_ret
  rw [← H.out]
  exact ⟨rfl, rfl⟩
theorem fold_any {v : Int} (hv : -9223372036854775808 ≤ v ∧ v ≤ 9223372036854775807) (w : World) : Calls Tryd.prog 58 #[.int .i64 v] w fun e w' => e = .returned (.int .u64 (foldF v : Int)) ∧ w = w' := by
  have H := Lib.hid (fold_bits hv)
  clear hv
  go_enter Tryd.func58, Tryd.ntmps58
  go_wp2
  go_ret
  rw [← H.out]
  exact ⟨rfl, rfl⟩
theorem bad_cur {w : World} {C : Nat} {F : Nat → Prop} {st : CS} (h : Cur w C F st) (hE : ErrAt w) :
    Calls Tryd.prog 35 #[.pointer (some ⟨C, 0, none⟩)] w fun r w' => r = .returned (.int .i64 st.bad) ∧ Below w.heap.size w w' := by
  obtain ⟨ad, n, c, hb, ht, hc, hp⟩ := h.at_
  have hlt := h.lt
  have hA := below_alloc (Below.refl _ w) (.cells #[.int .i64 0] 44)
  by_cases h0 : st.bad = 0
  · rw [h0, show badV 0 = .nilIface from rfl] at hb
    have c1 : (w.alloc (.cells #[.int .i64 0] 44)).cell? ⟨C, 1, none⟩ = some .nilIface := (hA.cell (p := ⟨C, 1, none⟩) hlt).trans (cell_of_block (o := 1) hb rfl)
    rw [h0]
    have HA := Lib.hid hA
    clear ht hc hp h h0 hb hA hE hlt
    go_enter Tryd.func35, Tryd.ntmps35
    go_wp2_with (go_at_call 54; refine (as_nil _ _).mono ?_; rintro e w' ⟨rfl, rfl⟩)
    go_ret
    exact ⟨rfl, HA.out⟩
  · rw [show badV st.bad = .iface 44 (.int .i64 st.bad) from if_neg h0] at hb
    have c1 : (w.alloc (.cells #[.int .i64 0] 44)).cell? ⟨C, 1, none⟩ = some (.iface 44 (.int .i64 st.bad)) := (hA.cell (p := ⟨C, 1, none⟩) hlt).trans (cell_of_block (o := 1) hb rfl)
    generalize st.bad = e at *
    have HE : ErrAt (w.alloc (.cells #[.int .i64 0] 44)) := by
      unfold ErrAt at hE ⊢
      exact (hA.cell (p := ⟨_, 0, none⟩) (World.block_lt_of_cell? w _ hE)).trans hE
    have hN : (w.alloc (.cells #[.int .i64 0] 44)).heap[w.heap.size]? = some (.cells #[.int .i64 0] 44 (0, 0)) := World.alloc_heap_new w _
    have K := Lib.hid (as_hit e ⟨w.heap.size, 0, none⟩ (.int .i64 0) _ HE (cell_of_block (o := 0) hN rfl) (free_of_block 0 hN))
    have HA := Lib.hid hA
    clear ht hc hp h h0 hb hA hE hlt HE
    go_enter Tryd.func35, Tryd.ntmps35
    go_wp2_with fail
    refine K.out.mono ?_
    rintro r w' ⟨rfl, rfl⟩
    generalize hX : (w.alloc (.cells #[.int .i64 0] 44)) = W1 at *
    have hs : W1.heap.size = w.heap.size + 1 := by rw [← hX]; simp
    have hb1 := below_alloc (below_alloc (below_alloc (below_alloc (Below.refl _ W1) (.cells #[.pointer (some ⟨w.heap.size, 0, none⟩)] 101)) (.cells #[.pointer (some ⟨1, 101, none⟩), .pointer (some ⟨W1.heap.size, 0, none⟩), .int .u64 150] 107)) (.cells #[.pointer (some ⟨1, 101, none⟩), .pointer (some ⟨W1.heap.size, 0, none⟩), .int .u64 150] 107)) (.cells #[.int .i64 e] 44)
    generalize (((W1.alloc (.cells #[.pointer (some ⟨w.heap.size, 0, none⟩)] 101)).alloc (.cells #[.pointer (some ⟨1, 101, none⟩), .pointer (some ⟨W1.heap.size, 0, none⟩), .int .u64 150] 107)).alloc (.cells #[.pointer (some ⟨1, 101, none⟩), .pointer (some ⟨W1.heap.size, 0, none⟩), .int .u64 150] 107)).alloc (.cells #[.int .i64 e] 44) = W2 at *
    have hN2 : W2.heap[w.heap.size]? = some (.cells #[.int .i64 0] 44 (0, 0)) := (hb1.block _ (by omega)).trans hN
    have hw := (wrote_refl hN2).set 0 (.int .i64 e)
    have r0 : (W2.setCell ⟨w.heap.size, 0, none⟩ (.int .i64 e)).cell? ⟨w.heap.size, 0, none⟩ = some (.int .i64 e) := cell_of_block (o := 0) hw.there rfl
    have HF : Below w.heap.size w (W2.setCell ⟨w.heap.size, 0, none⟩ (.int .i64 e)) := by
      exact Below.setCell (below_next HA.out hb1) (show w.heap.size ≤ (⟨w.heap.size, 0, none⟩ : Addr).block from Nat.le_refl _) _
    have HF := Lib.hid HF
    generalize W2.setCell ⟨w.heap.size, 0, none⟩ (.int .i64 e) = W3 at *
    clear hw hN2 hb1 hs hN HA K c1 hX
    go_wp2
    go_ret
    exact ⟨rfl, HF.out⟩
end Go.Proofs.YtdfkfcpkejjlnaaDoor
