/- The order of items (prio); Sort of fewer than 20 of them; what the known items come to (one). Conditions: a row that is not empty, of fewer than 20 items. -/
import Derived.Test.YtbhnjmdlagjfbaaPrioOf
import Derived.Test.YtbhnjmdlagjfbaaSort
import Derived.Test.YtbhnjmdlagjfbaaShelfP
namespace Go.Proofs.Ytbhnjmdlagjfbaa
set_option linter.unusedVariables false
open Go.ChangeShapes Go.WideShapes Go.ChangeAt Go.RowKit Go.Sort Go.Shelf

/-- is the first of two ahead? (each: its number, its priority) -/
def lessB (x y : Int × Int) : Bool := if x.2 = y.2 then decide (x.1 < y.1) else decide (y.2 < x.2)
def cfP (x y : Int × Int) : Int := if lessB x y = true then -1 else if lessB y x = true then 1 else 0
theorem ltOf_cfP (x y : Int × Int) : ltOf cfP x y = lessB x y := by
  unfold ltOf cfP
  cases h : lessB x y with
  | true => simp
  | false => cases h' : lessB y x <;> simp
theorem ltOf_cfP' : ltOf cfP = lessB := funext fun x => funext fun y => ltOf_cfP x y

theorem less_any (x y : Int × Int) (W : World) : Calls Try.prog 49 #[.agg #[.int .i64 x.1, .int .i64 x.2], .agg #[.int .i64 y.1, .int .i64 y.2]] W fun e w' => e = .returned (.bool (lessB x y)) ∧ ∃ q os', w' = grow (W.drewN q) os' := by
  obtain ⟨x1, x2⟩ := x
  obtain ⟨y1, y2⟩ := y
  have E := Lib.hid (show lessB (x1, x2) (y1, y2) = if x2 = y2 then decide (x1 < y1) else decide (y2 < x2) from rfl)
  generalize lessB (x1, x2) (y1, y2) = R at *
  dsimp only
  by_cases h : x2 = y2
  · subst h
    have hR : R = decide (x1 < y1) := by rw [E.out, if_pos rfl]
    subst hR
    clear E
    go_enter Try.func49, Try.ntmps49
    go_wp2
    go_ret
    exact ⟨rfl, 0, _, by rw [alloc_eq_grow, alloc_eq_grow, grow_grow]; rfl⟩
  · have hR : R = decide (y2 < x2) := by rw [E.out, if_neg h]
    have hb : (x2 == y2) = false := by simpa using h
    subst hR
    clear E h
    go_enter Try.func49, Try.ntmps49
    go_wp2
    go_ret
    exact ⟨rfl, 0, _, by rw [alloc_eq_grow, alloc_eq_grow, grow_grow]; rfl⟩
/-! worlds that have drawn, and got blocks -/
def Gr (W W' : World) : Prop := ∃ q os, W' = grow (W.drewN q) os
theorem Gr.refl (W : World) : Gr W W := ⟨0, #[], by rw [World.drewN_zero, grow_empty]⟩
theorem Gr.alloc {W W' : World} (h : Gr W W') (o : Obj) : Gr W (W'.alloc o) := by
  obtain ⟨q, os, rfl⟩ := h
  exact ⟨q, os ++ #[o], by rw [alloc_eq_grow, grow_grow]⟩
theorem Gr.trans {W W' W2 : World} (h : Gr W W') (h2 : Gr W' W2) : Gr W W2 := by
  obtain ⟨q, os, rfl⟩ := h
  obtain ⟨q2, os2, rfl⟩ := h2
  refine ⟨q + q2, os ++ os2, ?_⟩
  rw [← World.drewN_drewN, ← grow_grow]
  rfl
theorem Gr.below {W W' : World} (h : Gr W W') : Below W.heap.size W W' := by
  obtain ⟨q, os, rfl⟩ := h
  refine ⟨rfl, rfl, rfl, by simp [grow], fun k hk => ?_⟩
  rw [heap_grow_old _ _ (by simpa using hk)]
  rfl
theorem less_gr (x y : Int × Int) (W : World) : Calls Try.prog 49 #[.agg #[.int .i64 x.1, .int .i64 x.2], .agg #[.int .i64 y.1, .int .i64 y.2]] W fun e w' => e = .returned (.bool (lessB x y)) ∧ Gr W w' := less_any x y W
theorem less_is (x1 x2 y1 y2 : Int) (r : Bool) (h : lessB (x1, x2) (y1, y2) = r) (W : World) : Calls Try.prog 49 #[.agg #[.int .i64 x1, .int .i64 x2], .agg #[.int .i64 y1, .int .i64 y2]] W fun e w' => e = .returned (.bool r) ∧ Gr W w' := by
  have := less_gr (x1, x2) (y1, y2) W
  rw [h] at this
  exact this

theorem order_prio (x y : Int × Int) (W : World) : Calls Try.prog 108 #[.agg #[.int .i64 x.1, .int .i64 x.2], .agg #[.int .i64 y.1, .int .i64 y.2]] W fun e w' => e = .returned (.int .i64 (cfP x y)) ∧ ∃ q os', w' = grow (W.drewN q) os' := by
  obtain ⟨x1, x2⟩ := x
  obtain ⟨y1, y2⟩ := y
  have k1 := Lib.hid (fun r h W => less_is x1 x2 y1 y2 r h W)
  have k2 := Lib.hid (fun r h W => less_is y1 y2 x1 x2 r h W)
  have E := Lib.hid (show cfP (x1, x2) (y1, y2) = if lessB (x1, x2) (y1, y2) = true then -1 else if lessB (y1, y2) (x1, x2) = true then 1 else 0 from rfl)
  change Calls _ _ #[.agg #[.int .i64 x1, .int .i64 x2], .agg #[.int .i64 y1, .int .i64 y2]] W fun e w' => e = .returned (.int .i64 (cfP (x1, x2) (y1, y2))) ∧ Gr W w'
  generalize cfP (x1, x2) (y1, y2) = R at *
  cases h1 : lessB (x1, x2) (y1, y2) with
  | true =>
    have hR : R = -1 := by rw [E.out, if_pos h1]
    have K1 := Lib.hid (fun W => k1.out _ h1 W)
    subst hR
    clear E h1 k1 k2
    go_enter Try.func108, Try.ntmps108
    go_wp2_with (go_at_call 49; refine (K1.out _).mono ?_; rintro e w1 ⟨rfl, hg1⟩)
    go_ret
    exact ⟨rfl, (((Gr.refl W).alloc _).alloc _).trans hg1⟩
  | false =>
    have hn : ¬ lessB (x1, x2) (y1, y2) = true := by rw [h1]; decide
    have K1 := Lib.hid (fun W => k1.out _ h1 W)
    cases h2 : lessB (y1, y2) (x1, x2) with
    | true =>
      have hR : R = 1 := by rw [E.out, if_neg hn, if_pos h2]
      have K2 := Lib.hid (fun W => k2.out _ h2 W)
      subst hR
      clear E h1 hn h2 k1 k2
      go_enter Try.func108, Try.ntmps108
      go_wp2_with fail
      refine (K1.out _).mono ?_
      rintro e w1 ⟨rfl, hg1⟩
      obtain ⟨hc, hf⟩ := bcell hg1.below
      have a0 : w1.cell? ⟨W.heap.size, 0, none⟩ = some (.int .i64 x1) := (hc _ 0 (by simp; omega)).trans (by go_simp)
      have a1 : w1.cell? ⟨W.heap.size, 1, none⟩ = some (.int .i64 x2) := (hc _ 1 (by simp; omega)).trans (by go_simp)
      have b0 : w1.cell? ⟨W.heap.size + 1, 0, none⟩ = some (.int .i64 y1) := (hc _ 0 (by simp)).trans (by go_simp)
      have b1 : w1.cell? ⟨W.heap.size + 1, 1, none⟩ = some (.int .i64 y2) := (hc _ 1 (by simp)).trans (by go_simp)
      have G1 := Lib.hid ((((Gr.refl W).alloc _).alloc _).trans hg1)
      clear hc hf hg1
      go_wp2_with (go_at_call 49; refine (K2.out _).mono ?_; rintro e w2 ⟨rfl, hg2⟩)
      go_ret
      exact ⟨rfl, G1.out.trans hg2⟩
    | false =>
      have hn2 : ¬ lessB (y1, y2) (x1, x2) = true := by rw [h2]; decide
      have hR : R = 0 := by rw [E.out, if_neg hn, if_neg hn2]
      have K2 := Lib.hid (fun W => k2.out _ h2 W)
      subst hR
      clear E h1 hn h2 hn2 k1 k2
      go_enter Try.func108, Try.ntmps108
      go_wp2_with fail
      refine (K1.out _).mono ?_
      rintro e w1 ⟨rfl, hg1⟩
      obtain ⟨hc, hf⟩ := bcell hg1.below
      have a0 : w1.cell? ⟨W.heap.size, 0, none⟩ = some (.int .i64 x1) := (hc _ 0 (by simp; omega)).trans (by go_simp)
      have a1 : w1.cell? ⟨W.heap.size, 1, none⟩ = some (.int .i64 x2) := (hc _ 1 (by simp; omega)).trans (by go_simp)
      have b0 : w1.cell? ⟨W.heap.size + 1, 0, none⟩ = some (.int .i64 y1) := (hc _ 0 (by simp)).trans (by go_simp)
      have b1 : w1.cell? ⟨W.heap.size + 1, 1, none⟩ = some (.int .i64 y2) := (hc _ 1 (by simp)).trans (by go_simp)
      have G1 := Lib.hid ((((Gr.refl W).alloc _).alloc _).trans hg1)
      clear hc hf hg1
      go_wp2_with (go_at_call 49; refine (K2.out _).mono ?_; rintro e w2 ⟨rfl, hg2⟩)
      go_ret
      exact ⟨rfl, G1.out.trans hg2⟩

theorem info_item : (Try.prog.info? 97).map (fun i => (i.zero, i.size, i.bytes)) = some (some (.agg #[.int .i64 0, .int .i64 0]), 2, 16) := by kernel_rfl
/-- a row of items of the call's own, from block B on -/
def OwnT (w : World) (B : Nat) (v : Value) (l : List (Int × Int)) : Prop := w.ownsRow B 97 2 v l.length (flatS l)
/-- the stable sort of fewer than 20 items -/
def sorted20 (l : List (Int × Int)) : List (Int × Int) := (Sort.insertionSort lessB l.toArray 0 l.length).toList
theorem sorted_one : sorted20 [(2, 1), (1, 1), (3, 5)] = [(3, 5), (1, 1), (2, 1)] := by decide +kernel
set_option maxHeartbeats 1000000 in
theorem stable_any (g c : Nat) (l : List (Int × Int)) (w : World) (h20 : l.length < 20) (hH : HoldsK encS 2 w g 0 l.toArray) (hblk : g < w.heap.size) :
    Calls Try.prog 144 #[.slice (some ⟨g, 0, none⟩) l.length c, .int .i64 l.length, .func (.func 108) #[] #[]] w fun e w' => e = .returned (.tuple #[]) ∧ ∃ n os, w' = sortWorldK encS 2 w g 0 n (sorted20 l).toArray os := by
  have eg : ∀ args w, (callFunc 108 args).run Try.prog w = .ok (.enter 108 args) w := enters_of Try.func108 (by kernel_rfl) rfl
  have hcon := AnyQ.insertionSortCmpFunc Try.insItem 2 Try.isAgg97 Try.sizeOf97 encS (fun _ => rfl) (fun x v hv => by simp [encS] at hv; rcases hv with rfl | rfl <;> rfl) cfP 108 #[] g 0 c 0 l.length l.toArray w eg
    (fun _ _ _ _ x y => order_prio x y _) hH hblk (Nat.zero_le _) (by simp) (by simp; omega)
  change Calls Try.prog 160 _ _ _ at hcon
  rw [List.size_toArray, ltOf_cfP'] at hcon
  have H := Lib.hid hcon
  clear hcon eg
  have e : (sorted20 l).toArray = Sort.insertionSort lessB l.toArray 0 l.length := by unfold sorted20; simp
  rw [e]
  clear e
  generalize Sort.insertionSort lessB l.toArray 0 l.length = R at *
  generalize hn : l.length = n at *
  have h20' : (n : Int) < 20 := by omega
  clear hH hblk hn
  go_enter Try.func144, Try.ntmps144
  go_wp2_with fail
  go_loop [7, 8] (fun a b => a = .int .i64 0 ∧ b = .int .i64 20) (fun _ _ => 0)
  case atStart => exact ⟨rfl, rfl⟩
  case round =>
    obtain ⟨rfl, rfl⟩ := hrel
    go_wp2_with fail
    refine H.out.mono ?_
    rintro e w1 ⟨rfl, hx⟩
    have HX := Lib.hid hx
    clear hx H
    go_wp2_with fail
    go_loop [6] (fun s => s = .int .i64 20) (fun _ => 0)
    case atStart => rfl
    case round =>
      obtain rfl := hrel
      go_wp2
      go_end0
      exact ⟨rfl, HX.out⟩
theorem stablef_any (g c : Nat) (l : List (Int × Int)) (w : World) (h20 : l.length < 20) (hH : HoldsK encS 2 w g 0 l.toArray) (hblk : g < w.heap.size) :
    Calls Try.prog 107 #[.slice (some ⟨g, 0, none⟩) l.length c, .func (.func 108) #[] #[]] w fun e w' => e = .returned (.tuple #[]) ∧ ∃ n os, w' = sortWorldK encS 2 w g 0 n (sorted20 l).toArray os := by
  have H := Lib.hid (stable_any g c l w h20 hH hblk)
  clear hH hblk h20
  generalize sorted20 l = R at *
  generalize l.length = n at *
  go_enter Try.func107, Try.ntmps107
  go_wp2_with fail
  refine H.out.mono ?_
  rintro e w1 ⟨rfl, hx⟩
  have HX := Lib.hid hx
  clear hx H
  go_wp2
  go_end0
  exact ⟨rfl, HX.out⟩
theorem clone_any (b c : Nat) (l : List (Int × Int)) (w : World) (hl : l.length ≤ 1000000) (hc : ∀ j u, (flatS l)[j]? = some u → w.cell? ⟨b, 0 + j, none⟩ = some u) :
    Calls Try.prog 106 #[.slice (some ⟨b, 0, none⟩) l.length c] w fun e w' => ∃ v', e = .returned v' ∧ OwnT w' w.heap.size v' l ∧ v' ≠ .slice none 0 0 ∧ Below w.heap.size w w' := by
  obtain ⟨i0, hi, hz0, hz1, hz2⟩ := info_parts info_item
  have hcon := AnyE.slices_Clone Try.cloneItem i0 (.agg #[.int .i64 0, .int .i64 0]) 2 16 hi hz0 hz1 hz2 rfl (by decide) Try.sizeOf97 b 0 l.length c (flatS l) w (flatS_length l) (by unfold maxLen; omega) (by omega) hc (fun u hu => by
    have : ∀ (l : List (Int × Int)) u, u ∈ flatS l → u.oneCell' = true := by
      intro l
      induction l with
      | nil => intro u hu; cases hu
      | cons p r ih => intro u hu; simp only [flatS, List.mem_cons] at hu; rcases hu with rfl | rfl | hu
                       · rfl
                       · rfl
                       · exact ih u hu
    exact this l u hu)
  exact hcon
/-- what the sort leaves -/
theorem own_sorted {w : World} {B g c k : Nat} {os : Array Obj} {l l' : List (Int × Int)} (hown : OwnT w B (.slice (some ⟨g, 0, none⟩) l.length c) l) (hl : l'.length = l.length) (hB : B ≤ w.heap.size) :
    OwnT (sortWorldK encS 2 w g 0 k l'.toArray os) B (.slice (some ⟨g, 0, none⟩) l.length c) l' ∧ Below B w (sortWorldK encS 2 w g 0 k l'.toArray os) := by
  obtain ⟨hlen, h0⟩ := hown
  rcases h0 with ⟨h, _⟩ | ⟨g', cap, cur, hv, hg, hh, hn, hcap, hsz, htake⟩
  · cases h
  cases hv
  have hD : sortWorldK encS 2 w g 0 k l'.toArray os = grow (putRow id (Sort.ahead w k) g 0 (flatS l').toArray) os := by
    unfold sortWorldK putRowK
    rw [← flatK_flatS]
  rw [hD]
  refine ⟨⟨by rw [flatS_length], .inr ⟨g, c, putCells id 0 (flatS l').toArray cur, by rw [hl], hg, heap_sortedS _ hh, by rw [hl]; exact hn, hcap, by simp [putCells, hsz], ?_⟩⟩, ?_⟩
  · rw [← flatS_length]
    exact take_putCellsS cur _ (by rw [flatS_length, hl, hsz]; exact Nat.mul_le_mul_right 2 hn)
  · exact Below.grown (Below.refl _ _) (grownBy_sortedS _) hB (fun j hj => by cases hj; exact hg)
/-- Sort of fewer than 20 items -/
theorem sort20_any (b c : Nat) (l : List (Int × Int)) (w : World) (h20 : l.length < 20) (h0 : 0 < l.length) (hs : (sorted20 l).length = l.length) (hc : ∀ j u, (flatS l)[j]? = some u → w.cell? ⟨b, 0 + j, none⟩ = some u) :
    Calls Try.prog 47 #[.slice (some ⟨b, 0, none⟩) l.length c] w fun e w' => ∃ g c', e = .returned (.slice (some ⟨g, 0, none⟩) l.length c') ∧ OwnT w' w.heap.size (.slice (some ⟨g, 0, none⟩) l.length c') (sorted20 l) ∧ Below w.heap.size w w' := by
  have HC := Lib.hid (clone_any b c l w (by omega) hc)
  have HS := Lib.hid (fun g c' W hH hb => stablef_any g c' l W h20 hH hb)
  have HO := Lib.hid (fun (W : World) g c' k os ho hB => own_sorted (w := W) (B := w.heap.size) (g := g) (c := c') (k := k) (os := os) (l := l) (l' := sorted20 l) ho hs hB)
  have HL := Lib.hid h0
  clear hc hs h20 h0
  generalize sorted20 l = R at *
  go_enter Try.func47, Try.ntmps47
  go_wp2_with fail
  refine HC.out.mono ?_
  rintro e w1 ⟨v', rfl, hown, hnn, hb1⟩
  have hex : ∃ g c', v' = .slice (some ⟨g, 0, none⟩) l.length c' ∧ HoldsK encS 2 w1 g 0 l.toArray ∧ g < w1.heap.size := by
    rcases hown.2 with ⟨h, _⟩ | ⟨g', cap, cur, hv, hg, hh, hn, hcap, hsz, htake⟩
    · exact absurd h hnn
    · exact ⟨g', cap, hv, holdsS hh htake, (Array.getElem?_eq_some_iff.1 hh).1⟩
  obtain ⟨g, c', hv, hH, hg⟩ := hex
  rw [hv] at hown ⊢
  have KS := Lib.hid (HS.out g c' w1 hH hg)
  have HO1 := Lib.hid (fun k os => HO.out w1 g c' k os hown hb1.size)
  have HB := Lib.hid hb1
  clear hv hH hg hown hnn hb1 HS HO HC
  clear v'
  go_wp2_with fail
  refine KS.out.mono ?_
  rintro e w2 ⟨rfl, k, os, hw⟩
  have HF := Lib.hid (HO1.out k os)
  rw [← hw] at HF
  clear hw
  go_wp2
  go_ret
  exact ⟨g, c', rfl, HF.out.1, HB.out.trans HF.out.2⟩
theorem of_is {a b c d t n u k : Int} (x : Int) (e : ofI a b c d t n u k = x) (w : World) :
    Calls Try.prog 110 #[.agg #[.int .i64 a, .int .i64 b, .int .i64 c, .int .i64 d], .agg #[.int .i64 t, .int .i64 n, .int .i64 u, .int .i64 k]] w fun e w' => e = .returned (.int .i64 x) ∧ Below w.heap.size w w' := by
  have := of_any a b c d t n u k w
  rw [e] at this
  exact this
set_option maxHeartbeats 1000000 in
theorem prio_one (w : World) :
    Calls Try.prog 50 #[] w fun e w' => e = .returned (.bool true) ∧ Below w.heap.size w w' := by
  have k1 := Lib.hid (fun W => of_is (a := 2) (b := 0) (c := 0) (d := 0) (t := 40) (n := 0) (u := 0) (k := 0) 4 (by decide) W)
  have k2 := Lib.hid (sort20_any w.heap.size 3 [(2, 1), (1, 1), (3, 5)] (w.alloc (.cells #[.int .i64 2, .int .i64 1, .int .i64 1, .int .i64 1, .int .i64 3, .int .i64 5] 97)) (by decide) (by decide) (by rw [sorted_one]; rfl) (fun j u hj => by
    have hj' : j < 6 := by
      rcases Nat.lt_or_ge j 6 with h | h
      · exact h
      · rw [List.getElem?_eq_none (by simpa [flatS] using h)] at hj; cases hj
    have hcase : j = 0 ∨ j = 1 ∨ j = 2 ∨ j = 3 ∨ j = 4 ∨ j = 5 := by omega
    rcases hcase with rfl | rfl | rfl | rfl | rfl | rfl <;> (simp [flatS] at hj; subst hj; simp)))
  rw [sorted_one] at k2
  go_enter Try.func50, Try.ntmps50
  go_wp2_with fail
  refine k2.out.mono ?_
  rintro e w1 ⟨g, c', rfl, hO, hb1⟩
  have c0 : w1.cell? ⟨g, 0, none⟩ = some (.int .i64 3) := by
    have := World.ownsRow.cells hO (g := g) rfl 0 (.int .i64 3) rfl
    simpa [Addr.add] using this
  have c2 : w1.cell? ⟨g, 2, none⟩ = some (.int .i64 1) := by
    have := World.ownsRow.cells hO (g := g) rfl 2 (.int .i64 1) rfl
    simpa [Addr.add] using this
  have hg : g < w1.heap.size := World.block_lt_of_cell? _ _ c0
  have HB := Lib.hid (show Below w.heap.size w w1 from Below.trans (by exact (by repeat (first | exact Below.refl _ _ | assumption | refine below_drewN ?_ _ | refine Below.drew ?_ | refine below_alloc ?_ _ | refine Below.alloc ?_ (by first | omega | (simp; done) | (simp; omega)) _ | refine Below.setCell ?_ (Below.size (by assumption)) _ | refine Below.setCell ?_ (by first | omega | (simp; done) | (simp; omega)) _ | (refine Below.trans ?_ (Below.mono (by assumption) (by first | omega | (simp; done) | (simp; omega)))) | refine below_next ?_ (by assumption)))) (hb1.mono (by simp)))
  clear hO hb1 k2
  go_wp2_with fail
  refine (k1.out _).mono ?_
  rintro e w2 ⟨rfl, hb2⟩
  obtain ⟨hc, hf⟩ := bcell hb2
  replace c0 := (hc _ 0 hg).trans c0
  replace c2 := (hc _ 2 hg).trans c2
  have HB2 := Lib.hid (below_next HB.out hb2)
  clear hc hf hb2 k1
  go_wp2
  go_ret
  exact ⟨rfl, HB2.out⟩
end Go.Proofs.Ytbhnjmdlagjfbaa
