/- Laws that belong together: The sorted users of books (layer 14). No condition.; All lines of books visited in their order (layer 14), told by an invariant of the visitor. No condition.; A user's factor (layer 14). No condition on nobody's; on books that were made: their numbers are within their bounds.; What nobody's books tell; the law's own run (layer 14). No condition.; All lines of books as a row (Lines, layer 14). No condition.; Counts and ticks of one user, plainly (layer 14). No condition.; Acts of the law that come in as arguments; arrays of five ints compared (layer 14). No condition.; A line compared with itself (layer 14). No condition. -/
import Derived.Test.YthflogeaielhlaaGreatDoorMaf
import Derived.Test.YthflogeaielhlaaGreatDoorShelfK
import Derived.OneCell
import Derived.Test.YthflogeaielhlaaGreatDoorMask
import Derived.Deep.Slices
import Derived.WideShapes
import Derived.ChangeArms
import Derived.ChangeKeysEq
import Derived.Test.YthflogeaielhlaaGreatDoorMab
namespace Go.Proofs.YthflogeaielhlaaGreatDoor
set_option linter.unusedVariables false
open Go.ChangeShapes Go.WideShapes Go.ChangeAt Go.RowKit Go.Maps Go.Sort Go.Shelf Bk

theorem Tryz.sortsB (m : Nat) : AnyZI.SortsIn Tryz.prog Tryz.sortedB_ren Fence.wide m :=
  ⟨fun blk off cap ss W hH hblk hsz => callsIn_wide.2 (AnyM.slices_Sort_int Tryz.sortB blk off cap ss W hH hblk hsz),
   fun p cap W => callsIn_wide.2 (AnyM.slices_Sort_int_none Tryz.sortB p cap W)⟩
theorem keys_c (mb : Option Nat) (W : World) : Calls Tryz.prog 49 #[.map mb] W fun e w' => e = .returned (.func (.func 66) #[] #[.pointer (some ⟨W.heap.size, 0, none⟩)]) ∧ w' = W.alloc (.cells #[.map mb] 48) :=
  (callsIn_wide (n := 5)).1 (AnyZI.keys_in Tryz.keysB Fence.wide 5 trivial rfl mb W)
theorem keys_eq (L : List LV) : intKeys (bD L) = L.map usr := by
  unfold intKeys bD
  induction L with
  | nil => rfl
  | cons y L ih => simp only [List.map_cons] at ih ⊢; rw [ih]; rfl
theorem perm_le_eq : ∀ {l m : List Int}, l.Perm m → l.Pairwise (· ≤ ·) → m.Pairwise (· ≤ ·) → l = m
  | [], m, h, _, _ => by rw [List.Perm.nil_eq h]
  | x :: l, [], h, _, _ => by have := h.length_eq; simp at this
  | x :: l, y :: m, h, h1, h2 => by
    have a1 := List.pairwise_cons.1 h1
    have a2 := List.pairwise_cons.1 h2
    have e : x = y := by
      have hx : x ∈ y :: m := h.mem_iff.1 List.mem_cons_self
      have hy : y ∈ x :: l := h.mem_iff.2 List.mem_cons_self
      rcases List.mem_cons.1 hx with rfl | hx
      · rfl
      · rcases List.mem_cons.1 hy with rfl | hy
        · rfl
        · have := a1.1 y hy; have := a2.1 x hx; omega
    subst e
    rw [perm_le_eq (List.Perm.cons_inv h) a1.2 a2.2]
theorem sorted_c {w : World} {b m : Nat} {h : Int} {L : List LV} (H : BkAt w b m h L) :
    Calls Tryz.prog 48 #[.func (.func 66) #[] #[.pointer (some ⟨w.heap.size, 0, none⟩)]] (w.alloc (.cells #[.map (some m)] 48)) fun e w' => ∃ v, e = .returned v ∧ w'.ownsRow w.heap.size 3 1 v L.length ((L.map usr).map (Value.int .i64)) ∧ Below w.heap.size w w' := by
  have hown := H.own
  have hbl := hown.lt
  have hl := H.good.len
  have hsize : Maps.size (bD L) = L.length := by unfold bD Maps.size; simp
  have hseq : SeqGives Fence.wide 2 Tryz.prog 66 #[.pointer (some ⟨w.heap.size, 0, none⟩)] encZ (fun ss => ss.Perm (intKeys (bD L))) (Maps.size (bD L)) (w.alloc (.cells #[.map (some m)] 48)) :=
    AnyZI.keys_gives (ρ := Tryz.keysB_ren) { Tryz.keysB with } Fence.wide _ trivial rfl (by omega) w.heap.size m L.length (bD L) _ (by simp) (by simp) (hown.alloc _)
  have cS := AnyZI.sorted_in Tryz.sortedB Fence.wide 5 trivial trivial trivial trivial rfl (by omega) (Tryz.sortsB _) (enters_of Tryz.func65 (by kernel_rfl) rfl) 66 #[.pointer (some ⟨w.heap.size, 0, none⟩)] trivial (enters_of Tryz.func66 (by kernel_rfl) rfl) _ _ (by rw [hsize]; unfold maxLen; omega) (by rw [hsize]; omega) _ hseq
  change CallsIn _ _ Tryz.prog 48 _ _ _ at cS
  refine Calls.mono ((callsIn_wide (n := _)).1 cS) ?_
  rintro e w' ⟨v, ss, rfl, hS, hrow, hnil, hb⟩
  have hp : ss.mergeSort (fun x y => decide (x ≤ y)) = L.map usr := by
    refine perm_le_eq ((List.mergeSort_perm ss _).trans (hS.trans (by rw [keys_eq]))) ?_ ?_
    · have := List.pairwise_mergeSort (le := fun x y : Int => decide (x ≤ y)) (by intro a b c h1 h2; simp at *; omega) (by intro a b; simp; omega) ss
      exact this.imp (by intro a b h; simpa using h)
    · rw [List.pairwise_map]; exact H.good.up.imp (by intro a b h; omega)
  rw [hp] at hrow
  have hsl : ss.length = L.length := by rw [hS.length_eq, keys_eq, List.length_map]
  rw [hsl] at hrow
  exact ⟨v, rfl, ownsRow_base_a hrow (by simp), ((Below.refl _ w).alloc (Nat.le_refl _) _).trans (hb.mono (by simp))⟩
end Go.Proofs.YthflogeaielhlaaGreatDoor
namespace Go.Proofs.YthflogeaielhlaaGreatDoor
set_option linter.unusedVariables false
open Go.ChangeShapes Go.WideShapes Go.ChangeAt Go.RowKit Bk
attribute [local go_sem ↓] Go.wp_at_zero Go.wp_at_succ comesTo_value_eq comesTo_skip_eq comesTo_enter_eq

/-- rows of ints stay -/
structure StB (w w' : World) : Prop where
  size : w.heap.size ≤ w'.heap.size
  blk : ∀ (j : Nat) (cs : Array Value) (mk : Nat × Nat), w.heap[j]? = some (.cells cs 3 mk) → w'.heap[j]? = w.heap[j]?
theorem StB.of_below {w w' : World} (h : Below w.heap.size w w') : StB w w' := ⟨h.size, fun j _ _ hj => h.block j (Array.getElem?_eq_some_iff.1 hj).1⟩
theorem StB.trans {a b c : World} (h : StB a b) (k : StB b c) : StB a c := ⟨Nat.le_trans h.size k.size, fun j cs mk hj => (k.blk j cs mk ((h.blk j cs mk hj).trans hj)).trans (h.blk j cs mk hj)⟩
theorem rowI_st {w w' : World} {B n : Nat} {v : Value} {xs : List Value} (h : w.ownsRow B 3 1 v n xs) (hs : StB w w') : w'.ownsRow B 3 1 v n xs := by
  obtain ⟨h1, hn | ⟨g, cap, cur, hv, hB, hg, rest⟩⟩ := h
  · exact ⟨h1, .inl hn⟩
  · exact ⟨h1, .inr ⟨g, cap, cur, hv, hB, (hs.blk _ _ _ hg).trans hg, rest⟩⟩
theorem rowI_form {w : World} {B n : Nat} {v : Value} {xs : List Value} (h : w.ownsRow B 3 1 v n xs) : ∃ ad c, v = .slice ad n c ∧ (0 < n → ∃ g, ad = some ⟨g, 0, none⟩) := by
  obtain ⟨_, ⟨rfl, rfl⟩ | ⟨g, cap, cur, hv, _⟩⟩ := h
  · exact ⟨none, 0, rfl, fun h => absurd h (by omega)⟩
  · exact ⟨_, cap, hv, fun _ => ⟨g, rfl⟩⟩
theorem getB_at : ∀ {L : List LV}, Up L → ∀ {k : Nat}, k < L.length → getB L (usr (L.getD k zL)) = some (L.getD k zL)
  | [], _, k, hk => absurd hk (by simp)
  | y :: L, h, 0, _ => by simp [getB]
  | y :: L, h, k + 1, hk => by
    have h0 := List.pairwise_cons.1 h
    have hk' : k < L.length := by simpa using hk
    have ih := getB_at h0.2 hk'
    have hm : L.getD k zL ∈ L := by rw [List.getD_eq_getElem?_getD, List.getElem?_eq_getElem hk']; exact List.getElem_mem _
    have := h0.1 _ hm
    unfold getB at ih ⊢
    rw [show (y :: L).getD (k + 1) zL = L.getD k zL by simp [List.getD], List.find?_cons, show (usr y == usr (L.getD k zL)) = false by rw [beq_eq_false_iff_ne]; omega]
    exact ih
theorem line_at {L : List LV} (h : BG L) {k : Nat} (hk : k < L.length) : lineB L (usr (L.getD k zL)) = L.getD k zL := by unfold lineB; rw [getB_at h.up hk]; rfl
theorem Bk.BG.at {L : List LV} (h : BG L) {k : Nat} (hk : k < L.length) : L.getD k zL ∈ L := by rw [List.getD_eq_getElem?_getD, List.getElem?_eq_getElem hk]; exact List.getElem_mem _
set_option maxRecDepth 100000 in
set_option maxHeartbeats 4000000 in
theorem each_bk {w : World} {b m : Nat} {h : Int} {L : List LV} (H : BkAt w b m h L) (fb : FuncId) (caps : Array Value) (Inv : Nat → World → Prop) (hE : Go.Proofs.Enters Tryz.prog fb)
    (h0 : ∀ W, Below w.heap.size w W → Inv 0 W) (hR : ∀ k W, Inv k W → BkAt W b m h L)
    (hC : ∀ k W, k < L.length → Inv k W → Calls Tryz.prog fb (#[.agg (vL (L.getD k zL)).toArray] ++ caps) W fun e w' => e = .returned (.tuple #[]) ∧ Inv (k + 1) w' ∧ StB W w') :
    Calls Tryz.prog 33 #[.pointer (some ⟨b, 0, none⟩), .func (.func fb) #[] caps] w fun e w' => e = .returned (.tuple #[]) ∧ Inv L.length w' ∧ StB w w' := by
  unfold Go.Proofs.Enters at hE
  have KT := Lib.hid (there_bk H)
  have KK := Lib.hid (keys_c (some m) w)
  have KS := Lib.hid (sorted_c H)
  have HG := Lib.hid H.good
  have HC := Lib.hid hC
  have HR := Lib.hid hR
  have H0 := Lib.hid h0
  have HLN := Lib.hid H.good.len
  have c1 : w.cell? ⟨b, 1, none⟩ = some (.map (some m)) := cell_of_block (o := 1) H.blk rfl
  clear hC hR h0 H
  go_enter Tryz.func33, Tryz.ntmps33
  go_wp2_with fail
  refine KT.out.mono ?_
  rintro e w1 ⟨rfl, hww⟩
  obtain rfl := hww
  go_wp2_with fail
  refine KK.out.mono ?_
  rintro e w2 ⟨rfl, hww⟩
  obtain rfl := hww
  go_wp2_with fail
  refine KS.out.mono ?_
  rintro e w3 ⟨v, rfl, hrow, hbel⟩
  obtain ⟨ad, c, rfl, had⟩ := rowI_form hrow
  have HRW := Lib.hid hrow
  have HAD := Lib.hid had
  have HB := Lib.hid hbel
  have HI := Lib.hid (H0.out _ hbel)
  clear hrow had hbel c1 KT KK KS H0
  go_wp2_with fail
  go_loopw [16] (fun i wr => ∃ k : Nat, k ≤ L.length ∧ i = .int .i64 k ∧ Inv k wr ∧ StB w3 wr) (fun i _ => L.length - (intOf i).toNat)
  case atStart => exact ⟨0, Nat.zero_le _, rfl, HI.out, ⟨Nat.le_refl _, fun _ _ _ _ => rfl⟩⟩
  case round =>
    obtain ⟨k, hk, rfl, hinv, hst⟩ := hrel
    have HV := Lib.hid hinv
    have HS := Lib.hid hst
    clear hinv hst HI
    by_cases hlt : k < L.length
    · have hd2 : decide ((k : Int) < (L.length : Int)) = true := decide_eq_true (by omega)
      have hlo : (0 : Int) ≤ (k : Int) := by omega
      have hkl : (k : Int) < (L.length : Int) := by omega
      have hw1 : IntKind.i64.wrap ((k : Int) + 1) = (k : Int) + 1 := by have := HLN.out; rw [IntKind.wrap_i64]; omega
      obtain ⟨g, hg⟩ := HAD.out (by omega)
      subst hg
      have HRW2 := rowI_st HRW.out HS.out
      have cu : wr.cell? ⟨g, k, none⟩ = some (.int .i64 (usr (L.getD k zL))) := by
        rw [HRW2.cellAt k (by omega)]
        rw [List.getElem?_map, List.getElem?_map, List.getD_eq_getElem?_getD, List.getElem?_eq_getElem hlt]
        rfl
      have HA := HG.out.all _ (HG.out.at hlt)
      have HH := HR.out k wr HV.out
      have hlk := HH.look (u := usr (L.getD k zL)) (by omega) (by omega)
      rw [line_at HG.out hlt] at hlk
      have cb : wr.cell? ⟨b, 1, none⟩ = some (.map (some m)) := cell_of_block (o := 1) HH.blk rfl
      have KC := Lib.hid (HC.out k wr hlt HV.out)
      clear HRW2 HA HH HV
      generalize hx : usr (L.getD k zL) = u at *
      clear hx
      generalize (vL (L.getD k zL)).toArray = A at *
      go_wp2_with fail
      refine KC.out.mono ?_
      rintro e w4 ⟨rfl, hv4, hs4⟩
      have HV4 := Lib.hid hv4
      have HS4 := Lib.hid (HS.out.trans hs4)
      clear hv4 hs4 HS KC cu cb hlk
      go_wp2_with fail
      go_roundw
      case rel => exact ⟨k + 1, by omega, by go_num, HV4.out, HS4.out⟩
      case measure => simp [intOf]; omega
    · have hke : k = L.length := by omega
      subst hke
      have hd2 : decide ((L.length : Int) < (L.length : Int)) = false := decide_eq_false (by omega)
      go_wp2_with fail
      go_end0
      exact ⟨rfl, HV.out, (StB.of_below HB.out).trans HS.out⟩
theorem each_no {w : World} {v : Value} (h : NoBk w v) (f : Value) : Calls Tryz.prog 33 #[v, f] w fun e w' => e = .returned (.tuple #[]) ∧ w' = w := by
  have KT := Lib.hid (there_no h)
  obtain ⟨p, rfl⟩ : ∃ p, v = .pointer p := by rcases h with rfl | ⟨g, rfl, _⟩ <;> exact ⟨_, rfl⟩
  clear h
  go_enter Tryz.func33, Tryz.ntmps33
  go_wp2_with fail
  refine KT.out.mono ?_
  rintro e w1 ⟨rfl, hw⟩
  obtain rfl := hw
  go_wp2_with fail
  (try simp only [Exit.inBlock, Exit.then])
  refine bodyPost_ret (results_none rfl _ _ _) rfl ?_
  exact ⟨rfl, rfl⟩
theorem half_bk {w : World} {b m : Nat} {h : Int} {L : List LV} (H : BkAt w b m h L) : Calls Tryz.prog 7 #[.pointer (some ⟨b, 0, none⟩)] w fun e w' => e = .returned (.int .i64 h) ∧ Below w.heap.size w w' := by
  have KT := Lib.hid (there_bk H)
  have c0 : w.cell? ⟨b, 0, none⟩ = some (.int .i64 h) := cell_of_block (o := 0) H.blk rfl
  clear H
  go_enter Tryz.func7, Tryz.ntmps7
  go_wp2_with fail
  refine KT.out.mono ?_
  rintro e w1 ⟨rfl, hw⟩
  obtain rfl := hw
  go_wp2_with fail
  go_ret
  exact ⟨rfl, Below.refl _ _⟩
theorem half_no {w : World} {v : Value} (h : NoBk w v) : Calls Tryz.prog 7 #[v] w fun e w' => e = .returned (.int .i64 0) ∧ Below w.heap.size w w' := by
  have KT := Lib.hid (there_no h)
  obtain ⟨p, rfl⟩ : ∃ p, v = .pointer p := by rcases h with rfl | ⟨g, rfl, _⟩ <;> exact ⟨_, rfl⟩
  clear h
  go_enter Tryz.func7, Tryz.ntmps7
  go_wp2_with fail
  refine KT.out.mono ?_
  rintro e w1 ⟨rfl, hw⟩
  obtain rfl := hw
  go_wp2_with fail
  go_ret
  exact ⟨rfl, Below.refl _ _⟩
theorem line_no {w : World} {v : Value} (h : NoBk w v) (u : Int) : Calls Tryz.prog 21 #[v, .int .i64 u] w fun e w' => e = .returned (.tuple #[.agg (vL zL).toArray, .bool false]) ∧ Below w.heap.size w w' := by
  have KT := Lib.hid (fun X (hX : Below w.heap.size w X) => there_no (h.below hX))
  obtain ⟨p, rfl⟩ : ∃ p, v = .pointer p := by rcases h with rfl | ⟨g, rfl, _⟩ <;> exact ⟨_, rfl⟩
  clear h
  have HB := Lib.hid (below_alloc (Below.refl _ w) (.cells #[.int .i64 0, .int .i64 0, .int .i64 0, .int .i64 0, .int .i64 0, .int .i64 0, .int .i64 0, .int .i64 0, .int .i64 0] 46))
  have HR := Lib.hid (World.alloc_heap_new w (.cells #[.int .i64 0, .int .i64 0, .int .i64 0, .int .i64 0, .int .i64 0, .int .i64 0, .int .i64 0, .int .i64 0, .int .i64 0] 46))
  go_enter Tryz.func21, Tryz.ntmps21
  go_upto_region 1 with fail
  generalize w.alloc (.cells #[.int .i64 0, .int .i64 0, .int .i64 0, .int .i64 0, .int .i64 0, .int .i64 0, .int .i64 0, .int .i64 0, .int .i64 0] 46) = W1 at *
  go_wp2_with fail
  refine (KT.out _ HB.out).mono ?_
  rintro e w1 ⟨rfl, hw⟩
  obtain rfl := hw
  obtain ⟨q, hq⟩ : ∃ q, q = w.heap.size := ⟨_, rfl⟩
  rw [← hq] at HR ⊢
  have HQ := Lib.hid hq
  clear hq
  go_upto_region 2 with fail
  refine wp_region_lit ?_
  refine wpList_yield (w' := w1) (v := .agg (vL zL).toArray) rfl (by first | (go_simp; done) | (go_simp; rfl)) ?_
  refine wpList_store_all rfl 46 _ _ rfl q (T := 46) (vL zL) (by go_simp) (by go_simp) HR.out (by rfl) (lineInfo rfl) (vL_one _) ?_
  intro w2 hw2
  have HB2 := Lib.hid (hw2.below HB.out (by have := HQ.out; omega))
  have HR2 := Lib.hid hw2.there
  clear hw2
  refine wpList_yield (w' := w2) (v := .bool false) rfl (by go_simp) ?_
  rename_i hK
  refine hK _ _ ?_
  go_simp
  go_wp2_with fail
  refine bodyPost_ret (results_all2 (vL zL) _ Tryz.results21 (by go_simp) HR2.out Tryz.underlying46 rfl (lineInfo rfl)) rfl ?_
  exact ⟨by first | (go_simp; done) | simp, HB2.out⟩
end Go.Proofs.YthflogeaielhlaaGreatDoor
namespace Go.Proofs.YthflogeaielhlaaGreatDoor
set_option linter.unusedVariables false
open Go.ChangeShapes Go.WideShapes Go.ChangeAt Go.RowKit Bk
attribute [local go_sem ↓] Go.wp_at_zero Go.wp_at_succ comesTo_value_eq comesTo_skip_eq comesTo_enter_eq Rl.comesToR_value_eq Rl.comesToR_skip_eq Rl.comesToR_enter_eq

/-- a line's share -/
def shrL (l : LV) : Int × Int := (l.getD 7 0, l.getD 8 0)
section
variable {ops : Array Oper} {rest : List Oper} {o : Oper} {a : Act} {w : World} {Q : Exit → Act → World → Prop}
/-- APPEND of one share; just the row may have turned -/
theorem wpList_append_shareG (hgd : o.guard = none) (s x : Operand)
    (ho : o.op = .call { callee := .builtin .append, args := #[s, x], argTypes := #[93, 93] })
    (B : Nat) (v : Value) (l : List (Int × Int)) (hs : a.eval s = v) (hown : OwnH w B v l) (g c : Nat) (p : Int × Int) (hx : a.eval x = .slice (some ⟨g, 0, none⟩) 1 c)
    (c0 : w.cell? ⟨g, 0, none⟩ = some (.int .i64 p.1)) (c1 : w.cell? ⟨g, 1, none⟩ = some (.int .i64 p.2)) (h63 : l.length + 1 ≤ 1099511627776) (hB : B ≤ w.heap.size)
    (h' : ∀ (ad : Option Addr) (n c : Nat) (w' : World), OwnH w' B (.slice ad n c) (l ++ [p]) → w.grownBy w' v.ownBlock → wpList Tryz.prog ops Q rest (a.put o.dst (.slice ad n c)) w') : wpList Tryz.prog ops Q (o :: rest) a w := by
  have h : ∀ v' w', OwnH w' B v' (l ++ [p]) → w.grownBy w' v.ownBlock → wpList Tryz.prog ops Q rest (a.put o.dst v') w' := fun v' w' h1 h2 => by
    rcases h1.2 with ⟨e, _⟩ | ⟨g, cap, cur, e, _⟩
    · subst e; exact h' none 0 0 w' h1 h2
    · subst e; exact h' _ _ cap w' h1 h2
  obtain ⟨i0, hi, hz0, hz1, hz2⟩ := info_parts info_share
  refine wpList_append_own _ hgd s x 93 ho B 44 i0 (.agg #[.int .i64 0, .int .i64 0]) 2 16 Tryz.underlying93 hi hz0 hz1 hz2 rfl (by decide) v l.length (flatH l) hs hown
      ⟨g, 0, none⟩ 1 c (flatH [p]) hx rfl (fun j u hj => ?_) (fun u hu => ?_) (by unfold maxLen; omega) (by omega) hB (fun v' w' h1 h2 _ => ?_)
  · match j, hj with
    | 0, hj => simp [flatH] at hj; subst hj; simpa [Addr.add] using c0
    | 1, hj => simp [flatH] at hj; subst hj; simpa [Addr.add] using c1
    | j + 2, hj => simp [flatH] at hj
  · simp [flatH] at hu
    rcases hu with rfl | rfl <;> rfl
  · exact h v' w' (by unfold OwnH; rw [List.length_append, flatH_append]; exact h1) h2
end
theorem OwnH.blk {w : World} {B : Nat} {v : Value} {l : List (Int × Int)} (h : OwnH w B v l) {g : Nat} (hg : v.ownBlock = some g) : B ≤ g ∧ ∃ cs, w.heap[g]? = some (.cells cs 44 (0, 0)) := by
  rcases h.2 with ⟨rfl, _⟩ | ⟨g', cap, cur, rfl, hB, hh, _⟩
  · cases hg
  · simp only [Value.ownBlock, Option.some.injEq] at hg
    subst hg
    exact ⟨hB, _, hh⟩
/-- just the box q and shares in blocks past it may have turned -/
structure FrQ (q : Nat) (w w' : World) : Prop where
  os : w'.os = w.os
  tape : w'.tape = w.tape
  output : w'.output = w.output
  size : w.heap.size ≤ w'.heap.size
  blk : ∀ j, j < w.heap.size → j ≠ q → w'.heap[j]? = w.heap[j]? ∨ (q < j ∧ ∃ cs, w.heap[j]? = some (.cells cs 44 (0, 0)))
theorem FrQ.below {q : Nat} {w w' : World} (h : FrQ q w w') (hq : q ≤ w.heap.size) : Below q w w' := ⟨h.os, h.tape, h.output, h.size, fun j hj => by
  rcases h.blk j (by omega) (by omega) with h1 | ⟨h1, _⟩
  · exact h1
  · omega⟩
theorem FrQ.st {q : Nat} {w w' : World} (h : FrQ q w w') {cq : Array Value} (hq : w.heap[q]? = some (.cells cq 93 (0, 0))) : StB w w' := ⟨h.size, fun j cs mk hj => by
  rcases h.blk j (Array.getElem?_eq_some_iff.1 hj).1 (by rintro rfl; rw [hj] at hq; injection hq with hq; injection hq with _ hq _; exact absurd hq (by decide)) with h1 | ⟨_, cs', h1⟩
  · exact h1
  · rw [hj] at h1; injection h1 with h1; injection h1 with _ h1 _; exact absurd h1 (by decide)⟩
theorem nine {l : LV} (h : l.length = 9) : ∃ a0 a1 a2 a3 a4 a5 a6 a7 a8, l = [a0, a1, a2, a3, a4, a5, a6, a7, a8] := by
  match l, h with
  | [a0, a1, a2, a3, a4, a5, a6, a7, a8], _ => exact ⟨a0, a1, a2, a3, a4, a5, a6, a7, a8, rfl⟩
set_option maxRecDepth 100000 in
set_option maxHeartbeats 4000000 in
theorem fac1_any (l : LV) (hl : l.length = 9) (q : Nat) (ad : Option Addr) (n0 c0 : Nat) (zs : List (Int × Int)) (hz : zs.length + 1 ≤ 1099511627776) (w : World) (hq : w.heap[q]? = some (.cells #[.slice ad n0 c0] 93 (0, 0))) (ho : OwnH w (q + 1) (.slice ad n0 c0) zs) :
    Calls Tryz.prog 43 #[.agg (vL l).toArray, .pointer (some ⟨q, 0, none⟩)] w fun e w' => e = .returned (.tuple #[]) ∧ FrQ q w w' ∧ ∃ (ad' : Option Addr) (n' c' : Nat), w'.heap[q]? = some (.cells #[.slice ad' n' c'] 93 (0, 0)) ∧ OwnH w' (q + 1) (.slice ad' n' c') (zs ++ [shrL l]) := by
  obtain ⟨a0, a1, a2, a3, a4, a5, a6, a7, a8, rfl⟩ := nine hl
  have hq2 : q < w.heap.size := (Array.getElem?_eq_some_iff.1 hq).1
  have hc : w.cell? ⟨q, 0, none⟩ = some (.slice ad n0 c0) := cell_of_block (o := 0) hq rfl
  have hf : w.frozen? ⟨q, 0, none⟩ = false := free_of_block 0 hq
  have HO := Lib.hid ho
  have HQ := Lib.hid hq
  clear ho hq hl
  show Calls Tryz.prog 43 #[.agg #[.int .i64 a0, .int .i64 a1, .int .i64 a2, .int .i64 a3, .int .i64 a4, .int .i64 a5, .int .i64 a6, .int .i64 a7, .int .i64 a8], .pointer (some ⟨q, 0, none⟩)] w _
  go_enter Tryz.func43, Tryz.ntmps43
  have HW := Lib.hid (show Below w.heap.size w ((w.alloc (.cells #[.int .i64 a0, .int .i64 a1, .int .i64 a2, .int .i64 a3, .int .i64 a4, .int .i64 a5, .int .i64 a6, .int .i64 a7, .int .i64 a8] 46)).alloc (.cells #[.int .i64 a7, .int .i64 a8] 44)) from ((Below.refl w.heap.size w).alloc (Nat.le_refl _) _).alloc (by simp) _)
  go_wp2_with (at_builtin; refine wpList_append_shareG rfl _ _ rfl (q + 1) (.slice ad n0 c0) zs rfl (HO.out.below (((Below.refl w.heap.size w).alloc (Nat.le_refl _) _).alloc (by simp) _)) (w.heap.size + 1) 1 (a7, a8) rfl (by go_simp) (by go_simp) hz (by simp; omega) ?_; intro ad1 n1 c1 w1 o1 b1; have e1 := (b1.block q (by simp; omega) (by intro h9; have := (HO.out.blk h9.symm).1; omega)).trans ((HW.out.block q hq2).trans HQ.out); have E1 := Lib.hid e1; have x1 : w1.cell? ⟨q, 0, none⟩ = some (.slice ad n0 c0) := cell_of_block (o := 0) e1 rfl; have y1 : w1.frozen? ⟨q, 0, none⟩ = false := free_of_block 0 e1; have O1 := Lib.hid o1; have B1 := Lib.hid b1; clear o1 b1 e1)
  go_end0
  refine ⟨rfl, ?_, ad1, n1, c1, one_setCell E1.out, O1.out.under (by omega) _⟩
  have hb := B1.out
  have hw := HW.out
  refine ⟨hb.os.trans hw.os, hb.tape.trans hw.tape, hb.output.trans hw.output, Nat.le_trans hw.size (by rw [World.size_setCell]; exact hb.size), fun j hj hne => ?_⟩
  rw [Below.heap_setCell _ _ _ _ hne]
  by_cases h9 : some j = (Value.slice ad n0 c0).ownBlock
  · obtain ⟨h1, cs, h2⟩ := HO.out.blk h9.symm
    exact .inr ⟨by omega, cs, h2⟩
  · exact .inl ((hb.block j (Nat.lt_of_lt_of_le hj hw.size) h9).trans (hw.block j hj))
set_option maxRecDepth 100000 in
set_option maxHeartbeats 4000000 in
theorem factor_bk {w : World} {b m : Nat} {h : Int} {L : List LV} (H : BkAt w b m h L) {u n : Int} (h0 : -9223372036854775808 ≤ u) (h1 : u ≤ 9223372036854775807) :
    Calls Tryz.prog 25 #[.pointer (some ⟨b, 0, none⟩), .int .i64 u, .int .i64 n] w fun e w' => e = .returned (.int .i64 (factI (atI (shrL (lineB L u)).1 (shrL (lineB L u)).2 n h).1 (totI n h (L.map shrL)))) ∧ Below w.heap.size w w' := by
  have hmx : Tryz.prog.follows .mixedOrders = true := by kernel_rfl
  have hln := H.good.len
  have HE := Lib.hid (each_bk (w := w.alloc (.cells #[.slice none 0 0] 93)) (H.below (below_alloc (Below.refl _ w) _)) 43 #[.pointer (some ⟨w.heap.size, 0, none⟩)]
    (fun k W => BkAt W b m h L ∧ Below w.heap.size w W ∧ ∃ (ad : Option Addr) (n' c : Nat), W.heap[w.heap.size]? = some (.cells #[.slice ad n' c] 93 (0, 0)) ∧ OwnH W (w.heap.size + 1) (.slice ad n' c) ((L.take k).map shrL))
    (enters_of Tryz.func43 (by kernel_rfl) rfl)
    (fun W hW => by
      have ha := below_alloc (Below.refl _ w) (.cells #[.slice none 0 0] 93)
      have hb := below_next ha hW
      refine ⟨H.below hb, hb, none, 0, 0, (hW.block w.heap.size (by simp)).trans (World.alloc_heap_new w _), OwnH.nil⟩)
    (fun k W hi => hi.1)
    (fun k W hk hi => by
      obtain ⟨hB, hbel, ad, n', c, hq, ho⟩ := hi
      have hg := (hB.good.all _ (hB.good.at hk)).1
      refine (fac1_any _ hg w.heap.size ad n' c _ (by rw [List.length_map, List.length_take]; omega) W hq ho).mono ?_
      rintro e w' ⟨rfl, hfr, ad', n'', c', hq', ho'⟩
      have hb' : Below w.heap.size w w' := hbel.trans (hfr.below hbel.size)
      refine ⟨rfl, ⟨H.below hb', hb', ad', n'', c', hq', ?_⟩, hfr.st hq⟩
      rw [List.take_succ_eq_append_getElem hk, List.map_append, List.map_singleton, show L[k] = L.getD k zL by rw [List.getD_eq_getElem?_getD, List.getElem?_eq_getElem hk]; rfl]
      exact ho'))
  have hbd := totI_bd n h (L.map shrL) (L.map shrL).length
  rw [List.take_length] at hbd
  have hat := (atI_bd (shrL (lineB L u)).1 (shrL (lineB L u)).2 n h)
  obtain ⟨a0, a1, a2, a3, a4, a5, a6, a7, a8, e9⟩ := nine (H.good.line u)
  have KL := Lib.hid (fun X (hX : BkAt X b m h L) => (show Calls Tryz.prog 21 #[.pointer (some ⟨b, 0, none⟩), .int .i64 u] X fun e w' => e = .returned (.tuple #[.agg #[.int .i64 a0, .int .i64 a1, .int .i64 a2, .int .i64 a3, .int .i64 a4, .int .i64 a5, .int .i64 a6, .int .i64 a7, .int .i64 a8], .bool (getB L u).isSome]) ∧ Below X.heap.size X w' from by
    have := line_bk hX h0 h1
    rw [e9] at this
    exact this))
  have hs1 : shrL [a0, a1, a2, a3, a4, a5, a6, a7, a8] = (a7, a8) := rfl
  rw [e9, hs1] at hat ⊢
  dsimp only at hat ⊢
  generalize hT : totI n h (L.map shrL) = T at *
  have HT := Lib.hid hT
  have HLN := Lib.hid hln
  obtain ⟨q, hqq⟩ : ∃ q, q = w.heap.size := ⟨_, rfl⟩
  have HQQ := Lib.hid hqq
  clear hT e9 hs1 H h0 h1 hln hqq
  go_enter Tryz.func25, Tryz.ntmps25
  go_upto_region 2 with fail
  rw [← HQQ.out] at HE ⊢
  generalize w.alloc (.cells #[.slice none 0 0] 93) = W0 at *
  go_wp2_with fail
  refine HE.out.mono ?_
  rintro e w1 ⟨rfl, ⟨hB, hbel, ad, n', c, hq, ho⟩, hst⟩
  have HB1 := Lib.hid hB
  have HL1 := Lib.hid hbel
  rw [List.take_length] at ho
  have HO1 := Lib.hid ho
  have HQ1 := Lib.hid hq
  clear hB hbel ho hq hst HE
  go_wp2_with fail
  refine (KL.out _ HB1.out).mono ?_
  rintro e w2 ⟨rfl, hb2⟩
  have HL2 := Lib.hid (show Below q w w2 from HL1.out.trans (hb2.mono (by have := HL1.out.size; have := HQQ.out; omega)))
  have HB2 := Lib.hid (HB1.out.below hb2)
  have HQ2 := Lib.hid ((hb2.block q (Array.getElem?_eq_some_iff.1 HQ1.out).1).trans HQ1.out)
  have HO2 := Lib.hid (HO1.out.below hb2)
  clear hb2 HL1 HB1 HQ1 HO1 KL
  go_upto_region 4 with fail
  have hb3 := below_alloc (Below.refl _ w2) (.cells #[.int .i64 a0, .int .i64 a1, .int .i64 a2, .int .i64 a3, .int .i64 a4, .int .i64 a5, .int .i64 a6, .int .i64 a7, .int .i64 a8] 46)
  have HN3 := Lib.hid (World.alloc_heap_new w2 (.cells #[.int .i64 a0, .int .i64 a1, .int .i64 a2, .int .i64 a3, .int .i64 a4, .int .i64 a5, .int .i64 a6, .int .i64 a7, .int .i64 a8] 46))
  have HL3 := Lib.hid (show Below q w _ from HL2.out.trans (hb3.mono (by have := HL2.out.size; have := HQQ.out; omega)))
  have HB3 := Lib.hid (HB2.out.below hb3)
  have HQ3 := Lib.hid ((hb3.block q (Array.getElem?_eq_some_iff.1 HQ2.out).1).trans HQ2.out)
  have HO3 := Lib.hid (HO2.out.below hb3)
  clear hb3 HL2 HB2 HQ2 HO2
  generalize w2.alloc (.cells #[.int .i64 a0, .int .i64 a1, .int .i64 a2, .int .i64 a3, .int .i64 a4, .int .i64 a5, .int .i64 a6, .int .i64 a7, .int .i64 a8] 46) = W3 at *
  generalize w2.heap.size = p at *
  have HZ := Lib.hid (show n' = (L.map shrL).length from by obtain ⟨_, _, e, _⟩ := HO3.out.form; cases e; rfl)
  have HLM := Lib.hid (show (L.map shrL).length = L.length from List.length_map _)
  have KA := Lib.hid (fun X => at_any a7 a8 n h X)
  have KT := Lib.hid (fun X (hX : Below W3.heap.size W3 X) => total_any ad c (L.map shrL) n h X (fits_mem (by rw [HLM.out]; have := HLN.out; omega) (fun hp => by
    obtain ⟨ad', c', e, hg⟩ := (HO3.out.below hX).form
    cases e
    obtain ⟨g, rfl, _⟩ := hg hp
    exact ⟨g, 0, rfl, (HO3.out.below hX).row.1⟩)))
  rw [HT.out, ← HZ.out] at KT
  have KF := Lib.hid (fun X => factor_any (atI a7 a8 n h).1 T hat.1.2 (by have := hbd.2; omega) X)
  have KH := Lib.hid (fun X (hX : Below W3.heap.size W3 X) => half_bk (HB3.out.below hX))
  have Y7 := Lib.hid (fun X (hX : Below W3.heap.size W3 X) => (show X.cell? ⟨p, 7, none⟩ = some (.int .i64 a7) from cell_of_block (o := 7) ((hX.block p (Array.getElem?_eq_some_iff.1 HN3.out).1).trans HN3.out) rfl))
  have Y8 := Lib.hid (fun X (hX : Below W3.heap.size W3 X) => (show X.cell? ⟨p, 8, none⟩ = some (.int .i64 a8) from cell_of_block (o := 8) ((hX.block p (Array.getElem?_eq_some_iff.1 HN3.out).1).trans HN3.out) rfl))
  have YQ := Lib.hid (fun X (hX : Below W3.heap.size W3 X) => (show X.cell? ⟨q, 0, none⟩ = some (.slice ad n' c) from cell_of_block (o := 0) ((hX.block q (Array.getElem?_eq_some_iff.1 HQ3.out).1).trans HQ3.out) rfl))
  generalize hP : (atI a7 a8 n h).1 = P1 at *
  have HP := Lib.hid hP
  clear hP
  generalize (atI a7 a8 n h).2 = P2 at *
  clear hat hbd HT HN3 HB3 HQ3 HO3 HZ HLM HLN
  refine Rl.wp_region_rel (fun a b => Below a.heap.size a b) W3 (fun a b c h h' => below_next h h') (fun a => Below.refl _ _) hmx (by kernel_rfl) (Below.refl _ _).drew ?_
  (refine Rl.textR_run ?_ (fun ρ => ?_) (fun ρ W hS hd => ?_) ?_; rotate_left; (focus go_simp); (focus (obtain ⟨hc, hf⟩ := bcell hS; go_simp; first | exact ⟨rfl, Below.refl _ _⟩ | (refine ⟨?_, Below.refl _ _⟩; rfl))); (try go_simp))
  (refine Rl.textR_run ?_ (fun ρ => ?_) (fun ρ W hS hd => ?_) ?_; rotate_left; (focus go_simp); (focus (have hfact0 := Y7.out W hS; have hfact1 := Y8.out W hS; go_simp; first | exact ⟨rfl, Below.refl _ _⟩ | (refine ⟨?_, Below.refl _ _⟩; rfl))); (try go_simp))
  (refine Rl.textR_run ?_ (fun ρ => ?_) (fun ρ W hS hd => ?_) ?_; rotate_left; (focus go_simp); (focus (obtain ⟨hc, hf⟩ := bcell hS; go_simp; first | exact ⟨rfl, Below.refl _ _⟩ | (refine ⟨?_, Below.refl _ _⟩; rfl))); (try go_simp))
  (refine Rl.textR_run ?_ (fun ρ => ?_) (fun ρ W hS hd => ?_) ?_; rotate_left; (focus go_simp); (focus (obtain ⟨hc, hf⟩ := bcell hS; go_simp; first | exact ⟨rfl, Below.refl _ _⟩ | (refine ⟨?_, Below.refl _ _⟩; rfl))); (try go_simp))
  (refine Rl.textR_run ?_ (fun ρ => ?_) (fun ρ W hS hd => ?_) ?_; rotate_left; (focus go_simp); (focus (obtain ⟨hc, hf⟩ := bcell hS; go_simp; refine (KH.out W hS).mono ?_; rintro e w1 ⟨rfl, hb⟩; refine ⟨_, rfl, ?_, hb⟩; rfl)); (try go_simp))
  (refine Rl.textR_run ?_ (fun ρ => ?_) (fun ρ W hS hd => ?_) ?_; rotate_left; (focus go_simp); (focus (obtain ⟨hc, hf⟩ := bcell hS; go_simp; refine (KA.out W).mono ?_; rintro e w1 ⟨rfl, hb⟩; refine ⟨_, rfl, ?_, hb⟩; rfl)); (try go_simp))
  (refine Rl.textR_run ?_ (fun ρ => ?_) (fun ρ W hS hd => ?_) ?_; rotate_left; (focus go_simp); (focus (obtain ⟨hc, hf⟩ := bcell hS; go_simp; first | exact ⟨rfl, Below.refl _ _⟩ | (refine ⟨?_, Below.refl _ _⟩; rfl))); (try go_simp))
  (refine Rl.textR_run ?_ (fun ρ => ?_) (fun ρ W hS hd => ?_) ?_; rotate_left; (focus go_simp); (focus (have hfact := YQ.out W hS; go_simp; first | exact ⟨rfl, Below.refl _ _⟩ | (refine ⟨?_, Below.refl _ _⟩; rfl))); (try go_simp))
  (refine Rl.textR_run ?_ (fun ρ => ?_) (fun ρ W hS hd => ?_) ?_; rotate_left; (focus go_simp); (focus (obtain ⟨hc, hf⟩ := bcell hS; go_simp; first | exact ⟨rfl, Below.refl _ _⟩ | (refine ⟨?_, Below.refl _ _⟩; rfl))); (try go_simp))
  (refine Rl.textR_run ?_ (fun ρ => ?_) (fun ρ W hS hd => ?_) ?_; rotate_left; (focus go_simp); (focus (obtain ⟨hc, hf⟩ := bcell hS; go_simp; first | exact ⟨rfl, Below.refl _ _⟩ | (refine ⟨?_, Below.refl _ _⟩; rfl))); (try go_simp))
  (refine Rl.textR_run ?_ (fun ρ => ?_) (fun ρ W hS hd => ?_) ?_; rotate_left; (focus go_simp); (focus (obtain ⟨hc, hf⟩ := bcell hS; go_simp; refine (KH.out W hS).mono ?_; rintro e w1 ⟨rfl, hb⟩; refine ⟨_, rfl, ?_, hb⟩; rfl)); (try go_simp))
  (refine Rl.textR_run ?_ (fun ρ => ?_) (fun ρ W hS hd => ?_) ?_; rotate_left; (focus go_simp); (focus (obtain ⟨hc, hf⟩ := bcell hS; go_simp; refine (KT.out W hS).mono ?_; rintro e w1 ⟨rfl, hb⟩; refine ⟨_, rfl, ?_, hb⟩; rfl)); (try go_simp))
  (refine Rl.textR_run ?_ (fun ρ => ?_) (fun ρ W hS hd => ?_) ?_; rotate_left; (focus go_simp); (focus (obtain ⟨hc, hf⟩ := bcell hS; go_simp; refine (KF.out W).mono ?_; rintro e w1 ⟨rfl, hb⟩; refine ⟨_, rfl, ?_, hb⟩; rfl)); (try go_simp))
  (refine Rl.textR_run ?_ (fun ρ => ?_) (fun ρ W hS hd => ?_) ?_; rotate_left; (focus go_simp); (focus (obtain ⟨hc, hf⟩ := bcell hS; go_simp; first | exact ⟨rfl, Below.refl _ _⟩ | (refine ⟨?_, Below.refl _ _⟩; rfl))); (try go_simp))
  refine Rl.textR_nil ?_
  intro ρ wA hgA hkA
  dsimp only
  have HGA := Lib.hid hgA
  clear hgA hkA
  go_simp
  go_wp2_with fail
  go_ret
  exact ⟨by rw [HP.out]; rfl, by rw [← HQQ.out]; exact HL3.out.trans (HGA.out.mono (by have := HL3.out.size; have := HQQ.out; omega))⟩
set_option maxRecDepth 100000 in
set_option maxHeartbeats 4000000 in
theorem factor_no {w : World} {v : Value} (hv : NoBk w v) (u n : Int) : Calls Tryz.prog 25 #[v, .int .i64 u, .int .i64 n] w fun e w' => e = .returned (.int .i64 1000) ∧ Below w.heap.size w w' := by
  have hmx : Tryz.prog.follows .mixedOrders = true := by kernel_rfl
  have KE := Lib.hid (fun X (hX : Below w.heap.size w X) f => each_no (hv.below hX) f)
  have KL := Lib.hid (fun X (hX : Below w.heap.size w X) => (show Calls Tryz.prog 21 #[v, .int .i64 u] X fun e w' => e = .returned (.tuple #[.agg #[.int .i64 0, .int .i64 0, .int .i64 0, .int .i64 0, .int .i64 0, .int .i64 0, .int .i64 0, .int .i64 0, .int .i64 0], .bool false]) ∧ Below X.heap.size X w' from line_no (hv.below hX) u))
  have KH := Lib.hid (fun X (hX : Below w.heap.size w X) => half_no (hv.below hX))
  have hat := atI_bd 0 0 n 0
  obtain ⟨pv, rfl⟩ : ∃ p, v = .pointer p := by rcases hv with rfl | ⟨g, rfl, _⟩ <;> exact ⟨_, rfl⟩
  clear hv
  have HB0 := Lib.hid (below_alloc (Below.refl _ w) (.cells #[.slice none 0 0] 93))
  have HN0 := Lib.hid (World.alloc_heap_new w (.cells #[.slice none 0 0] 93))
  go_enter Tryz.func25, Tryz.ntmps25
  go_upto_region 2 with fail
  generalize w.alloc (.cells #[.slice none 0 0] 93) = W0 at *
  obtain ⟨q, hqq⟩ : ∃ q, q = w.heap.size := ⟨_, rfl⟩
  have HQQ := Lib.hid hqq
  rw [← hqq] at HN0 ⊢
  clear hqq
  go_wp2_with fail
  refine (KE.out _ HB0.out _).mono ?_
  rintro e w1 ⟨rfl, hww⟩
  obtain rfl := hww
  go_wp2_with fail
  refine (KL.out _ HB0.out).mono ?_
  rintro e w2 ⟨rfl, hb2⟩
  have HB2 := Lib.hid (below_next HB0.out hb2)
  have HN2 := Lib.hid ((hb2.block q (Array.getElem?_eq_some_iff.1 HN0.out).1).trans HN0.out)
  clear hb2
  go_upto_region 4 with fail
  have hb3 := below_alloc (Below.refl _ w2) (.cells #[.int .i64 0, .int .i64 0, .int .i64 0, .int .i64 0, .int .i64 0, .int .i64 0, .int .i64 0, .int .i64 0, .int .i64 0] 46)
  have HN3 := Lib.hid (World.alloc_heap_new w2 (.cells #[.int .i64 0, .int .i64 0, .int .i64 0, .int .i64 0, .int .i64 0, .int .i64 0, .int .i64 0, .int .i64 0, .int .i64 0] 46))
  have HB3 := Lib.hid (below_next HB2.out hb3)
  have HQ3 := Lib.hid ((hb3.block q (Array.getElem?_eq_some_iff.1 HN2.out).1).trans HN2.out)
  clear hb3 HN2 HB2
  generalize w2.alloc (.cells #[.int .i64 0, .int .i64 0, .int .i64 0, .int .i64 0, .int .i64 0, .int .i64 0, .int .i64 0, .int .i64 0, .int .i64 0] 46) = W3 at *
  generalize w2.heap.size = p at *
  have KA := Lib.hid (fun X => at_any 0 0 n 0 X)
  have KT := Lib.hid (fun X => total_any none 0 [] n 0 X (fits_mem (by simp) (fun hp => by simp at hp)))
  have HT := Lib.hid (show totI n 0 [] = 0 from rfl)
  rw [HT.out] at KT
  have KF := Lib.hid (fun X => factor_any (atI 0 0 n 0).1 0 hat.1.2 (by decide) X)
  rw [show factI (atI 0 0 n 0).1 0 = 1000 from by unfold factI; rw [if_pos (by decide)]] at KF
  have Y7 := Lib.hid (fun X (hX : Below W3.heap.size W3 X) => (show X.cell? ⟨p, 7, none⟩ = some (.int .i64 0) from cell_of_block (o := 7) ((hX.block p (Array.getElem?_eq_some_iff.1 HN3.out).1).trans HN3.out) rfl))
  have Y8 := Lib.hid (fun X (hX : Below W3.heap.size W3 X) => (show X.cell? ⟨p, 8, none⟩ = some (.int .i64 0) from cell_of_block (o := 8) ((hX.block p (Array.getElem?_eq_some_iff.1 HN3.out).1).trans HN3.out) rfl))
  have YQ := Lib.hid (fun X (hX : Below W3.heap.size W3 X) => (show X.cell? ⟨q, 0, none⟩ = some (.slice none 0 0) from cell_of_block (o := 0) ((hX.block q (Array.getElem?_eq_some_iff.1 HQ3.out).1).trans HQ3.out) rfl))
  generalize (atI 0 0 n 0).1 = P1 at *
  generalize (atI 0 0 n 0).2 = P2 at *
  clear hat HT HN3 HQ3 KE KL
  refine Rl.wp_region_rel (fun a b => Below a.heap.size a b) W3 (fun a b c h h' => below_next h h') (fun a => Below.refl _ _) hmx (by kernel_rfl) (Below.refl _ _).drew ?_
  (refine Rl.textR_run ?_ (fun ρ => ?_) (fun ρ W hS hd => ?_) ?_; rotate_left; (focus go_simp); (focus (obtain ⟨hc, hf⟩ := bcell hS; go_simp; first | exact ⟨rfl, Below.refl _ _⟩ | (refine ⟨?_, Below.refl _ _⟩; rfl))); (try go_simp))
  (refine Rl.textR_run ?_ (fun ρ => ?_) (fun ρ W hS hd => ?_) ?_; rotate_left; (focus go_simp); (focus (have hfact0 := Y7.out W hS; have hfact1 := Y8.out W hS; go_simp; first | exact ⟨rfl, Below.refl _ _⟩ | (refine ⟨?_, Below.refl _ _⟩; rfl))); (try go_simp))
  (refine Rl.textR_run ?_ (fun ρ => ?_) (fun ρ W hS hd => ?_) ?_; rotate_left; (focus go_simp); (focus (obtain ⟨hc, hf⟩ := bcell hS; go_simp; first | exact ⟨rfl, Below.refl _ _⟩ | (refine ⟨?_, Below.refl _ _⟩; rfl))); (try go_simp))
  (refine Rl.textR_run ?_ (fun ρ => ?_) (fun ρ W hS hd => ?_) ?_; rotate_left; (focus go_simp); (focus (obtain ⟨hc, hf⟩ := bcell hS; go_simp; first | exact ⟨rfl, Below.refl _ _⟩ | (refine ⟨?_, Below.refl _ _⟩; rfl))); (try go_simp))
  (refine Rl.textR_run ?_ (fun ρ => ?_) (fun ρ W hS hd => ?_) ?_; rotate_left; (focus go_simp); (focus (obtain ⟨hc, hf⟩ := bcell hS; go_simp; refine (KH.out W (below_next HB3.out hS)).mono ?_; rintro e w1 ⟨rfl, hb⟩; refine ⟨_, rfl, ?_, hb⟩; rfl)); (try go_simp))
  (refine Rl.textR_run ?_ (fun ρ => ?_) (fun ρ W hS hd => ?_) ?_; rotate_left; (focus go_simp); (focus (obtain ⟨hc, hf⟩ := bcell hS; go_simp; refine (KA.out W).mono ?_; rintro e w1 ⟨rfl, hb⟩; refine ⟨_, rfl, ?_, hb⟩; rfl)); (try go_simp))
  (refine Rl.textR_run ?_ (fun ρ => ?_) (fun ρ W hS hd => ?_) ?_; rotate_left; (focus go_simp); (focus (obtain ⟨hc, hf⟩ := bcell hS; go_simp; first | exact ⟨rfl, Below.refl _ _⟩ | (refine ⟨?_, Below.refl _ _⟩; rfl))); (try go_simp))
  (refine Rl.textR_run ?_ (fun ρ => ?_) (fun ρ W hS hd => ?_) ?_; rotate_left; (focus go_simp); (focus (have hfact := YQ.out W hS; go_simp; first | exact ⟨rfl, Below.refl _ _⟩ | (refine ⟨?_, Below.refl _ _⟩; rfl))); (try go_simp))
  (refine Rl.textR_run ?_ (fun ρ => ?_) (fun ρ W hS hd => ?_) ?_; rotate_left; (focus go_simp); (focus (obtain ⟨hc, hf⟩ := bcell hS; go_simp; first | exact ⟨rfl, Below.refl _ _⟩ | (refine ⟨?_, Below.refl _ _⟩; rfl))); (try go_simp))
  (refine Rl.textR_run ?_ (fun ρ => ?_) (fun ρ W hS hd => ?_) ?_; rotate_left; (focus go_simp); (focus (obtain ⟨hc, hf⟩ := bcell hS; go_simp; first | exact ⟨rfl, Below.refl _ _⟩ | (refine ⟨?_, Below.refl _ _⟩; rfl))); (try go_simp))
  (refine Rl.textR_run ?_ (fun ρ => ?_) (fun ρ W hS hd => ?_) ?_; rotate_left; (focus go_simp); (focus (obtain ⟨hc, hf⟩ := bcell hS; go_simp; refine (KH.out W (below_next HB3.out hS)).mono ?_; rintro e w1 ⟨rfl, hb⟩; refine ⟨_, rfl, ?_, hb⟩; rfl)); (try go_simp))
  (refine Rl.textR_run ?_ (fun ρ => ?_) (fun ρ W hS hd => ?_) ?_; rotate_left; (focus go_simp); (focus (obtain ⟨hc, hf⟩ := bcell hS; go_simp; refine (KT.out W).mono ?_; rintro e w1 ⟨rfl, hb⟩; refine ⟨_, rfl, ?_, hb⟩; rfl)); (try go_simp))
  (refine Rl.textR_run ?_ (fun ρ => ?_) (fun ρ W hS hd => ?_) ?_; rotate_left; (focus go_simp); (focus (obtain ⟨hc, hf⟩ := bcell hS; go_simp; refine (KF.out W).mono ?_; rintro e w1 ⟨rfl, hb⟩; refine ⟨_, rfl, ?_, hb⟩; rfl)); (try go_simp))
  (refine Rl.textR_run ?_ (fun ρ => ?_) (fun ρ W hS hd => ?_) ?_; rotate_left; (focus go_simp); (focus (obtain ⟨hc, hf⟩ := bcell hS; go_simp; first | exact ⟨rfl, Below.refl _ _⟩ | (refine ⟨?_, Below.refl _ _⟩; rfl))); (try go_simp))
  refine Rl.textR_nil ?_
  intro ρ wA hgA hkA
  dsimp only
  have HGA := Lib.hid (below_next HB3.out hgA)
  clear hgA hkA
  go_simp
  go_wp2_with fail
  go_ret
  exact ⟨rfl, HGA.out⟩
end Go.Proofs.YthflogeaielhlaaGreatDoor
namespace Go.Proofs.YthflogeaielhlaaGreatDoor
set_option linter.unusedVariables false
open Go.ChangeShapes Go.WideShapes Go.ChangeAt Go.RowKit Bk
attribute [local go_sem ↓] Go.wp_at_zero Go.wp_at_succ comesTo_value_eq comesTo_skip_eq comesTo_enter_eq

theorem lines_no {w : World} {v : Value} (hv : NoBk w v) : Calls Tryz.prog 18 #[v] w fun e w' => e = .returned (.slice none 0 0) ∧ Below w.heap.size w w' := by
  have KE := Lib.hid (fun X (hX : Below w.heap.size w X) f => each_no (hv.below hX) f)
  obtain ⟨pv, rfl⟩ : ∃ p, v = .pointer p := by rcases hv with rfl | ⟨g, rfl, _⟩ <;> exact ⟨_, rfl⟩
  clear hv
  have HB0 := Lib.hid (below_alloc (Below.refl _ w) (.cells #[.slice none 0 0] 63))
  have HN0 := Lib.hid (World.alloc_heap_new w (.cells #[.slice none 0 0] 63))
  go_enter Tryz.func18, Tryz.ntmps18
  go_upto_region 2 with fail
  generalize w.alloc (.cells #[.slice none 0 0] 63) = W0 at *
  obtain ⟨q, hqq⟩ : ∃ q, q = w.heap.size := ⟨_, rfl⟩
  rw [← hqq] at HN0 ⊢
  clear hqq
  have c0 : W0.cell? ⟨q, 0, none⟩ = some (.slice none 0 0) := cell_of_block (o := 0) HN0.out rfl
  go_wp2_with fail
  refine (KE.out _ HB0.out _).mono ?_
  rintro e w1 ⟨rfl, hww⟩
  obtain rfl := hww
  go_wp2_with fail
  go_ret
  exact ⟨rfl, HB0.out⟩
theorem put_no {w : World} {v : Value} (h : NoBk w v) : Calls Tryz.prog 19 #[v] w fun e w' => e = .returned (.slice none 0 0) ∧ w' = w := by
  have KT := Lib.hid (there_no h)
  obtain ⟨p, rfl⟩ : ∃ p, v = .pointer p := by rcases h with rfl | ⟨g, rfl, _⟩ <;> exact ⟨_, rfl⟩
  clear h
  go_enter Tryz.func19, Tryz.ntmps19
  go_wp2_with fail
  refine KT.out.mono ?_
  rintro e w1 ⟨rfl, hw⟩
  obtain rfl := hw
  go_wp2_with fail
  go_ret
  exact ⟨rfl, rfl⟩
theorem one_L : chargedB [] 10 2 0 3 5 = [[2, 0, 0, 0, 0, 0, 15, 15, 0]] := by kernel_rfl
theorem one_f2 : factI (atI (shrL (lineB [[2, 0, 0, 0, 0, 0, 15, 15, 0]] 2)).1 (shrL (lineB [[2, 0, 0, 0, 0, 0, 15, 15, 0]] 2)).2 0 10).1 (totI 0 10 ([[2, 0, 0, 0, 0, 0, 15, 15, 0]].map shrL)) = 0 := by kernel_rfl
theorem one_f1 : factI (atI (shrL (lineB [[2, 0, 0, 0, 0, 0, 15, 15, 0]] 1)).1 (shrL (lineB [[2, 0, 0, 0, 0, 0, 15, 15, 0]] 1)).2 0 10).1 (totI 0 10 ([[2, 0, 0, 0, 0, 0, 15, 15, 0]].map shrL)) = 1000 := by kernel_rfl
theorem BN.nil : BN [] := fun _ h => by cases h
theorem below_grown {B m : Nat} {w w1 w2 : World} (h : Below B w w1) (g : w1.grownBy w2 (some m)) (hB : B ≤ m) (hs : B ≤ w.heap.size) : Below B w w2 :=
  ⟨g.os.trans h.os, g.tape.trans h.tape, g.output.trans h.output, Nat.le_trans h.size g.size, fun k hk => (g.block k (Nat.lt_of_lt_of_le hk (Nat.le_trans hs h.size)) (by intro e; injection e with e; omega)).trans (h.block k hk)⟩
set_option maxRecDepth 100000 in
set_option maxHeartbeats 4000000 in
theorem bone (w : World) : Calls Tryz.prog 8 #[] w fun e w' => e = .returned (.bool true) ∧ Below w.heap.size w w' := by
  have KN := Lib.hid (bnew_any 10 (by decide) (by decide) w)
  have KC := Lib.hid (fun X b m (h : BkAt X b m 10 []) => (show Calls Tryz.prog 24 #[.pointer (some ⟨b, 0, none⟩), .int .i64 2, .int .i64 0, .int .i64 3, .int .i64 5] X fun e w' => e = .returned (.int .i64 0) ∧ BkAt w' b m 10 [[2, 0, 0, 0, 0, 0, 15, 15, 0]] ∧ X.grownBy w' (some m) from by
    have := charge_ok h BN.nil (u := 2) (by decide) (by decide) (c := 3) (by decide) (by decide) 0 5
    rw [one_L] at this
    exact this))
  have KL := Lib.hid (fun X b m (h : BkAt X b m 10 [[2, 0, 0, 0, 0, 0, 15, 15, 0]]) => (show Calls Tryz.prog 21 #[.pointer (some ⟨b, 0, none⟩), .int .i64 2] X fun e w' => e = .returned (.tuple #[.agg #[.int .i64 2, .int .i64 0, .int .i64 0, .int .i64 0, .int .i64 0, .int .i64 0, .int .i64 15, .int .i64 15, .int .i64 0], .bool true]) ∧ Below X.heap.size X w' from line_bk h (u := 2) (by decide) (by decide)))
  have KF2 := Lib.hid (fun X b m (h : BkAt X b m 10 [[2, 0, 0, 0, 0, 0, 15, 15, 0]]) => (show Calls Tryz.prog 25 #[.pointer (some ⟨b, 0, none⟩), .int .i64 2, .int .i64 0] X fun e w' => e = .returned (.int .i64 0) ∧ Below X.heap.size X w' from by
    have := factor_bk h (u := 2) (n := 0) (by decide) (by decide)
    rw [one_f2] at this
    exact this))
  have KF1 := Lib.hid (fun X b m (h : BkAt X b m 10 [[2, 0, 0, 0, 0, 0, 15, 15, 0]]) => (show Calls Tryz.prog 25 #[.pointer (some ⟨b, 0, none⟩), .int .i64 1, .int .i64 0] X fun e w' => e = .returned (.int .i64 1000) ∧ Below X.heap.size X w' from by
    have := factor_bk h (u := 1) (n := 0) (by decide) (by decide)
    rw [one_f1] at this
    exact this))
  go_enter Tryz.func8, Tryz.ntmps8
  go_wp2_with fail
  refine KN.out.mono ?_
  rintro e w1 ⟨rfl, h1, b1⟩
  have H1 := Lib.hid h1
  have B1 := Lib.hid b1
  clear h1 b1
  obtain ⟨b, hb⟩ : ∃ b, b = w.heap.size + 1 := ⟨_, rfl⟩
  obtain ⟨m, hm⟩ : ∃ m, m = w.heap.size := ⟨_, rfl⟩
  rw [← hb] at H1 ⊢
  rw [← hm] at H1
  have HM := Lib.hid hm
  clear hb hm KN
  go_wp2_with fail
  refine (KC.out _ _ _ H1.out).mono ?_
  rintro e w2 ⟨rfl, h2, g2⟩
  have H2 := Lib.hid h2
  have B2 := Lib.hid (below_grown B1.out g2 (by have := HM.out; omega) (Nat.le_refl _))
  clear h2 g2 KC H1 B1
  go_wp2_with fail
  refine (KL.out _ _ _ H2.out).mono ?_
  rintro e w3 ⟨rfl, b3⟩
  have H3 := Lib.hid (H2.out.below b3)
  have B3 := Lib.hid (below_next B2.out b3)
  clear b3 KL H2 B2
  go_upto_region 4 with fail
  have b4 := below_alloc (Below.refl _ w3) (.cells #[.int .i64 2, .int .i64 0, .int .i64 0, .int .i64 0, .int .i64 0, .int .i64 0, .int .i64 15, .int .i64 15, .int .i64 0] 46)
  have HN4 := World.alloc_heap_new w3 (.cells #[.int .i64 2, .int .i64 0, .int .i64 0, .int .i64 0, .int .i64 0, .int .i64 0, .int .i64 15, .int .i64 15, .int .i64 0] 46)
  have H4 := Lib.hid (H3.out.below b4)
  have B4 := Lib.hid (below_next B3.out b4)
  clear b4 H3 B3
  generalize w3.alloc (.cells #[.int .i64 2, .int .i64 0, .int .i64 0, .int .i64 0, .int .i64 0, .int .i64 0, .int .i64 15, .int .i64 15, .int .i64 0] 46) = W4 at *
  generalize w3.heap.size = p at *
  have c6 : W4.cell? ⟨p, 6, none⟩ = some (.int .i64 15) := cell_of_block (o := 6) HN4 rfl
  have c7 : W4.cell? ⟨p, 7, none⟩ = some (.int .i64 15) := cell_of_block (o := 7) HN4 rfl
  clear HN4
  go_wp2_with fail
  refine (KF2.out _ _ _ H4.out).mono ?_
  rintro e w5 ⟨rfl, b5⟩
  have H5 := Lib.hid (H4.out.below b5)
  have B5 := Lib.hid (below_next B4.out b5)
  clear b5 c6 c7 H4 B4 KF2
  go_wp2_with fail
  refine (KF1.out _ _ _ H5.out).mono ?_
  rintro e w6 ⟨rfl, b6⟩
  have B6 := Lib.hid (below_next B5.out b6)
  clear b6 H5 B5 KF1
  go_wp2_with fail
  go_ret
  exact ⟨rfl, B6.out⟩
end Go.Proofs.YthflogeaielhlaaGreatDoor
namespace Go.Proofs.YthflogeaielhlaaGreatDoor
set_option linter.unusedVariables false
open Go.ChangeShapes Go.WideShapes Go.ChangeAt Go.RowKit Bk
attribute [local go_sem ↓] Go.wp_at_zero Go.wp_at_succ comesTo_value_eq comesTo_skip_eq comesTo_enter_eq

theorem info_lineR : (Tryz.prog.info? 46).map (fun i => (i.zero, i.size, i.bytes)) = some (some (.agg #[.int .i64 0, .int .i64 0, .int .i64 0, .int .i64 0, .int .i64 0, .int .i64 0, .int .i64 0, .int .i64 0, .int .i64 0]), 9, 72) := by kernel_rfl
/-- a row of lines of the call's own -/
def OwnB (w : World) (B : Nat) (v : Value) (L : List LV) : Prop := w.ownsRow B 46 9 v L.length (vL L.flatten)
theorem OwnB.nil {w : World} {B : Nat} : OwnB w B (.slice none 0 0) [] := ⟨rfl, .inl ⟨rfl, rfl⟩⟩
theorem OwnB.keep {w w' : World} {B : Nat} {v : Value} {L : List LV} (h : OwnB w B v L) (hb : ∀ k, v.ownBlock = some k → w'.heap[k]? = w.heap[k]?) : OwnB w' B v L := Ap.own_keep h hb
theorem OwnB.below {w w' : World} {B : Nat} {v : Value} {L : List LV} (h : OwnB w B v L) (hb : Below w.heap.size w w') : OwnB w' B v L := Ap.own_below h hb
theorem OwnB.under {w : World} {B q : Nat} {v : Value} {L : List LV} (h : OwnB w B v L) (hq : q < B) (u : Value) : OwnB (w.setCell ⟨q, 0, none⟩ u) B v L := ownsRow_setCell_below h hq u
theorem OwnB.form {w : World} {B : Nat} {v : Value} {L : List LV} (h : OwnB w B v L) : ∃ ad c, v = .slice ad L.length c := by
  rcases h.2 with ⟨e, h0⟩ | ⟨g, cap, cur, e, _⟩
  · exact ⟨none, 0, by rw [e, h0]⟩
  · exact ⟨_, cap, e⟩
theorem OwnB.blk {w : World} {B : Nat} {v : Value} {L : List LV} (h : OwnB w B v L) {g : Nat} (hg : v.ownBlock = some g) : B ≤ g ∧ ∃ cs, w.heap[g]? = some (.cells cs 46 (0, 0)) := by
  rcases h.2 with ⟨rfl, _⟩ | ⟨g', cap, cur, rfl, hB, hh, _⟩
  · cases hg
  · simp only [Value.ownBlock, Option.some.injEq] at hg
    subst hg
    exact ⟨hB, _, hh⟩
section
variable {ops : Array Oper} {rest : List Oper} {o : Oper} {a : Act} {w : World} {Q : Exit → Act → World → Prop}
/-- APPEND of one line; just the row may have turned -/
theorem wpList_append_line (hgd : o.guard = none) (s x : Operand)
    (ho : o.op = .call { callee := .builtin .append, args := #[s, x], argTypes := #[63, 63] })
    (B : Nat) (v : Value) (L : List LV) (hs : a.eval s = v) (hown : OwnB w B v L) (g c : Nat) (l : LV) (hl9 : l.length = 9) (hx : a.eval x = .slice (some ⟨g, 0, none⟩) 1 c)
    (hg : w.heap[g]? = some (.cells (vL l).toArray 46 (0, 0))) (h63 : L.length + 1 ≤ 100000) (hB : B ≤ w.heap.size)
    (h' : ∀ (ad : Option Addr) (n c : Nat) (w' : World), OwnB w' B (.slice ad n c) (L ++ [l]) → w.grownBy w' v.ownBlock → wpList Tryz.prog ops Q rest (a.put o.dst (.slice ad n c)) w') : wpList Tryz.prog ops Q (o :: rest) a w := by
  have h : ∀ v' w', OwnB w' B v' (L ++ [l]) → w.grownBy w' v.ownBlock → wpList Tryz.prog ops Q rest (a.put o.dst v') w' := fun v' w' h1 h2 => by
    rcases h1.2 with ⟨e, _⟩ | ⟨g, cap, cur, e, _⟩
    · subst e; exact h' none 0 0 w' h1 h2
    · subst e; exact h' _ _ cap w' h1 h2
  obtain ⟨i0, hi, hz0, hz1, hz2⟩ := info_parts info_lineR
  have hplain : ∀ j, (⟨g, 0, none⟩ : Addr).add j = ⟨g, j, none⟩ := fun j => by unfold Addr.add; split <;> simp_all
  refine wpList_append_own _ hgd s x 63 ho B 46 i0 _ 9 72 Tryz.underlying63 hi hz0 hz1 hz2 rfl (by decide) v L.length (vL L.flatten) hs hown
      ⟨g, 0, none⟩ 1 c (vL l) hx (by rw [vL_len]; omega) (fun j u hj => ?_) (fun u hu => ?_) (by unfold maxLen; omega) (by omega) hB (fun v' w' h1 h2 _ => ?_)
  · rw [hplain]
    exact cell_of_block hg (by simpa using hj)
  · unfold vL at hu
    obtain ⟨y, _, rfl⟩ := List.mem_map.1 hu
    rfl
  · refine h v' w' ?_ h2
    unfold OwnB
    rw [List.length_append, List.flatten_append, show vL (L.flatten ++ [l].flatten) = vL L.flatten ++ vL l from by unfold vL; simp]
    exact h1
end
/-- just the box q and lines in blocks past it may have turned -/
structure FrL (q : Nat) (w w' : World) : Prop where
  os : w'.os = w.os
  tape : w'.tape = w.tape
  output : w'.output = w.output
  size : w.heap.size ≤ w'.heap.size
  blk : ∀ j, j < w.heap.size → j ≠ q → w'.heap[j]? = w.heap[j]? ∨ (q < j ∧ ∃ cs, w.heap[j]? = some (.cells cs 46 (0, 0)))
theorem FrL.below {q : Nat} {w w' : World} (h : FrL q w w') (hq : q ≤ w.heap.size) : Below q w w' := ⟨h.os, h.tape, h.output, h.size, fun j hj => by
  rcases h.blk j (by omega) (by omega) with h1 | ⟨h1, _⟩
  · exact h1
  · omega⟩
theorem FrL.st {q : Nat} {w w' : World} (h : FrL q w w') {cq : Array Value} (hq : w.heap[q]? = some (.cells cq 63 (0, 0))) : StB w w' := ⟨h.size, fun j cs mk hj => by
  rcases h.blk j (Array.getElem?_eq_some_iff.1 hj).1 (by rintro rfl; rw [hj] at hq; injection hq with hq; injection hq with _ hq _; exact absurd hq (by decide)) with h1 | ⟨_, cs', h1⟩
  · exact h1
  · rw [hj] at h1; injection h1 with h1; injection h1 with _ h1 _; exact absurd h1 (by decide)⟩
set_option maxRecDepth 100000 in
set_option maxHeartbeats 4000000 in
theorem lin1_any (l : LV) (hl : l.length = 9) (q : Nat) (ad : Option Addr) (n0 c0 : Nat) (L : List LV) (hz : L.length + 1 ≤ 100000) (w : World) (hq : w.heap[q]? = some (.cells #[.slice ad n0 c0] 63 (0, 0))) (ho : OwnB w (q + 1) (.slice ad n0 c0) L) :
    Calls Tryz.prog 34 #[.agg (vL l).toArray, .pointer (some ⟨q, 0, none⟩)] w fun e w' => e = .returned (.tuple #[]) ∧ FrL q w w' ∧ ∃ (ad' : Option Addr) (n' c' : Nat), w'.heap[q]? = some (.cells #[.slice ad' n' c'] 63 (0, 0)) ∧ OwnB w' (q + 1) (.slice ad' n' c') (L ++ [l]) := by
  obtain ⟨a0, a1, a2, a3, a4, a5, a6, a7, a8, rfl⟩ := nine hl
  have hq2 : q < w.heap.size := (Array.getElem?_eq_some_iff.1 hq).1
  have hc : w.cell? ⟨q, 0, none⟩ = some (.slice ad n0 c0) := cell_of_block (o := 0) hq rfl
  have hf : w.frozen? ⟨q, 0, none⟩ = false := free_of_block 0 hq
  have HO := Lib.hid ho
  have HQ := Lib.hid hq
  clear ho hq hl
  have HW := Lib.hid (show Below w.heap.size w ((w.alloc (.cells #[.int .i64 a0, .int .i64 a1, .int .i64 a2, .int .i64 a3, .int .i64 a4, .int .i64 a5, .int .i64 a6, .int .i64 a7, .int .i64 a8] 46)).alloc (.cells #[.int .i64 a0, .int .i64 a1, .int .i64 a2, .int .i64 a3, .int .i64 a4, .int .i64 a5, .int .i64 a6, .int .i64 a7, .int .i64 a8] 46)) from ((Below.refl w.heap.size w).alloc (Nat.le_refl _) _).alloc (by simp) _)
  have hn2 := World.alloc_heap_new (w.alloc (.cells #[.int .i64 a0, .int .i64 a1, .int .i64 a2, .int .i64 a3, .int .i64 a4, .int .i64 a5, .int .i64 a6, .int .i64 a7, .int .i64 a8] 46)) (.cells #[.int .i64 a0, .int .i64 a1, .int .i64 a2, .int .i64 a3, .int .i64 a4, .int .i64 a5, .int .i64 a6, .int .i64 a7, .int .i64 a8] 46)
  rw [World.size_alloc] at hn2
  have HN2 := Lib.hid hn2
  clear hn2
  show Calls Tryz.prog 34 #[.agg #[.int .i64 a0, .int .i64 a1, .int .i64 a2, .int .i64 a3, .int .i64 a4, .int .i64 a5, .int .i64 a6, .int .i64 a7, .int .i64 a8], .pointer (some ⟨q, 0, none⟩)] w _
  go_enter Tryz.func34, Tryz.ntmps34
  go_wp2_with (at_builtin; refine wpList_append_line rfl _ _ rfl (q + 1) (.slice ad n0 c0) L rfl (HO.out.below HW.out) (w.heap.size + 1) 1 [a0, a1, a2, a3, a4, a5, a6, a7, a8] rfl rfl HN2.out hz (by simp; omega) ?_; intro ad1 n1 c1 w1 o1 b1; have e1 := (b1.block q (by simp; omega) (by intro h9; have := (HO.out.blk h9.symm).1; omega)).trans ((HW.out.block q hq2).trans HQ.out); have E1 := Lib.hid e1; have x1 : w1.cell? ⟨q, 0, none⟩ = some (.slice ad n0 c0) := cell_of_block (o := 0) e1 rfl; have y1 : w1.frozen? ⟨q, 0, none⟩ = false := free_of_block 0 e1; have O1 := Lib.hid o1; have B1 := Lib.hid b1; clear o1 b1 e1)
  go_end0
  refine ⟨rfl, ?_, ad1, n1, c1, one_setCell E1.out, O1.out.under (by omega) _⟩
  have hb := B1.out
  have hw := HW.out
  refine ⟨hb.os.trans hw.os, hb.tape.trans hw.tape, hb.output.trans hw.output, Nat.le_trans hw.size (by rw [World.size_setCell]; exact hb.size), fun j hj hne => ?_⟩
  rw [Below.heap_setCell _ _ _ _ hne]
  by_cases h9 : some j = (Value.slice ad n0 c0).ownBlock
  · obtain ⟨h1, cs, h2⟩ := HO.out.blk h9.symm
    exact .inr ⟨by omega, cs, h2⟩
  · exact .inl ((hb.block j (Nat.lt_of_lt_of_le hj hw.size) h9).trans (hw.block j hj))
set_option maxRecDepth 100000 in
set_option maxHeartbeats 4000000 in
theorem lines_bk {w : World} {b m : Nat} {h : Int} {L : List LV} (H : BkAt w b m h L) :
    Calls Tryz.prog 18 #[.pointer (some ⟨b, 0, none⟩)] w fun e w' => ∃ v, e = .returned v ∧ OwnB w' w.heap.size v L ∧ Below w.heap.size w w' := by
  have hln := H.good.len
  have HE := Lib.hid (each_bk (w := w.alloc (.cells #[.slice none 0 0] 63)) (H.below (below_alloc (Below.refl _ w) _)) 34 #[.pointer (some ⟨w.heap.size, 0, none⟩)]
    (fun k W => BkAt W b m h L ∧ Below w.heap.size w W ∧ ∃ (ad : Option Addr) (n' c : Nat), W.heap[w.heap.size]? = some (.cells #[.slice ad n' c] 63 (0, 0)) ∧ OwnB W (w.heap.size + 1) (.slice ad n' c) (L.take k))
    (enters_of Tryz.func34 (by kernel_rfl) rfl)
    (fun W hW => by
      have ha := below_alloc (Below.refl _ w) (.cells #[.slice none 0 0] 63)
      have hb := below_next ha hW
      refine ⟨H.below hb, hb, none, 0, 0, (hW.block w.heap.size (by simp)).trans (World.alloc_heap_new w _), OwnB.nil⟩)
    (fun k W hi => hi.1)
    (fun k W hk hi => by
      obtain ⟨hB, hbel, ad, n', c, hq, ho⟩ := hi
      have hg := (hB.good.all _ (hB.good.at hk)).1
      refine (lin1_any _ hg w.heap.size ad n' c _ (by rw [List.length_take]; omega) W hq ho).mono ?_
      rintro e w' ⟨rfl, hfr, ad', n'', c', hq', ho'⟩
      have hb' : Below w.heap.size w w' := hbel.trans (hfr.below hbel.size)
      refine ⟨rfl, ⟨H.below hb', hb', ad', n'', c', hq', ?_⟩, hfr.st hq⟩
      rw [List.take_succ_eq_append_getElem hk, show L[k] = L.getD k zL by rw [List.getD_eq_getElem?_getD, List.getElem?_eq_getElem hk]; rfl]
      exact ho'))
  clear H hln
  go_enter Tryz.func18, Tryz.ntmps18
  go_upto_region 2 with fail
  go_wp2_with fail
  refine HE.out.mono ?_
  rintro e w1 ⟨rfl, ⟨hB, hbel, ad, n', c, hq, ho⟩, hst⟩
  rw [List.take_length] at ho
  have b0 := cell_of_block (o := 0) hq rfl
  have HO := Lib.hid (show OwnB w1 w.heap.size (.slice ad n' c) L from ownsRow_base_a ho (by omega))
  have HL1 := Lib.hid hbel
  clear hB hbel ho hq hst HE
  go_wp2_with fail
  go_ret
  exact ⟨_, rfl, HO.out, HL1.out⟩
end Go.Proofs.YthflogeaielhlaaGreatDoor
namespace Go.Proofs.YthflogeaielhlaaGreatDoor
set_option linter.unusedVariables false
open Go.ChangeShapes Go.WideShapes Go.ChangeAt Go.RowKit Bk

/-- what a law has counted of a user's behind k acts -/
structure CR (U : Int) (L : List LV) (wl : LV) (k : Nat) : Prop where
  len : wl.length = 9
  eq : ∀ i, 1 ≤ i → i ≤ 6 → (lineB L U).getD i 0 = wl.getD i 0
  cb : ∀ i, 1 ≤ i → i ≤ 5 → 0 ≤ wl.getD i 0 ∧ wl.getD i 0 ≤ k
  tb : 0 ≤ wl.getD 6 0 ∧ wl.getD 6 0 ≤ k * 4194240
theorem lineB_put {L : List LV} (h : Up L) (x : LV) (U : Int) : lineB (putB L x) U = if usr x = U then x else lineB L U := by
  unfold lineB
  rw [getB_put h]
  split <;> rfl
theorem CR.zero (U : Int) : CR U [] zL 0 := by
  refine ⟨rfl, fun i _ _ => rfl, fun i h0 h1 => ?_, by decide⟩
  rcases (by omega : i = 1 ∨ i = 2 ∨ i = 3 ∨ i = 4 ∨ i = 5) with rfl | rfl | rfl | rfl | rfl <;> decide
theorem CR.same {U : Int} {L : List LV} {wl : LV} {k : Nat} (h : CR U L wl k) : CR U L wl (k + 1) :=
  ⟨h.len, h.eq, fun i h0 h1 => by have := h.cb i h0 h1; omega, by have := h.tb; omega⟩
theorem CR.other {U : Int} {L : List LV} {wl : LV} {k : Nat} (h : CR U L wl k) (hu : Up L) {x : LV} (hx : usr x ≠ U) : CR U (putB L x) wl (k + 1) :=
  ⟨h.len, fun i h0 h1 => by rw [lineB_put hu, if_neg hx]; exact h.eq i h0 h1, h.same.cb, h.same.tb⟩
theorem CR.note {U : Int} {L : List LV} {wl : LV} {k : Nat} (h : CR U L wl k) (hg : BG L) (hk : k < 60) {c : Nat} (hc : c ≤ 4) : CR U (notedB L U c) (wl.set (1 + c) (wl.getD (1 + c) 0 + 1)) (k + 1) := by
  have hl := hg.line U
  have hb := h.cb (1 + c) (by omega) (by omega)
  have he := h.eq (1 + c) (by omega) (by omega)
  have hu : usr (noteL c ((lineB L U).set 0 U)) = U := by rw [usr_note, usr_set0 hl]
  refine ⟨by rw [List.length_set]; exact h.len, fun i h0 h1 => ?_, fun i h0 h1 => ?_, ?_⟩
  · unfold notedB
    rw [lineB_put hg.up, if_pos hu]
    unfold noteL
    rw [getD_set, getD_set, getD_set, getD_set, List.length_set, if_neg (show ¬ (0 = 1 + c ∧ 1 + c < (lineB L U).length) by omega), hl, h.len, he]
    by_cases h2 : 1 + c = i
    · rw [if_pos ⟨h2, by omega⟩, if_pos ⟨h2, by omega⟩]
      omega
    · rw [if_neg (by omega), if_neg (by omega), if_neg (by omega)]
      exact h.eq i h0 h1
  · rw [getD_set]
    have := h.cb i h0 h1
    split <;> omega
  · rw [getD_set, if_neg (by omega)]
    have := h.tb
    omega
theorem usedI_eq {m c : Int} (h0 : 0 ≤ m) (h1 : m ≤ 65535) (c0 : 0 ≤ c) (c1 : c ≤ 64) : usedI m c = m * c ∧ 0 ≤ m * c ∧ m * c ≤ 4194240 := by
  have hb : 0 ≤ m * c ∧ m * c ≤ 4194240 := ⟨Int.mul_nonneg h0 c0, Int.le_trans (Int.mul_le_mul_of_nonneg_right h1 c0) (by omega)⟩
  refine ⟨?_, hb⟩
  have ht : timesI m c = m * c := by
    unfold timesI
    rw [clampI_id h0 (by omega)]
    split
    · obtain rfl : c = 0 := by omega
      simp
    · split
      · rename_i h; rw [h]; simp
      · rw [if_neg]
        have : 64 ≤ 1099511627776 / m := (Int.le_ediv_iff_mul_le (by omega)).2 (by omega)
        omega
  unfold usedI
  rw [ht, if_neg (by omega)]
theorem CR.charge {U : Int} {L : List LV} {wl : LV} {k : Nat} (h : CR U L wl k) (hg : BG L) (hk : k < 60) {hf now m c : Int} (h0 : 0 ≤ m) (h1 : m ≤ 65535) (c0 : 0 ≤ c) (c1 : c ≤ 64) :
    CR U (chargedB L hf U now c m) (wl.set 6 (wl.getD 6 0 + m * c)) (k + 1) := by
  have hl := hg.line U
  obtain ⟨hue, hu0, hu1⟩ := usedI_eq h0 h1 c0 c1
  have ht := h.tb
  have he := h.eq 6 (by omega) (by omega)
  have hu : usr (chargeL now hf (usedI m c) ((lineB L U).set 0 U)) = U := by rw [usr_charge, usr_set0 hl]
  rw [hue] at hu
  refine ⟨by rw [List.length_set]; exact h.len, fun i h0 h1 => ?_, fun i h0 h1 => ?_, ?_⟩
  · unfold chargedB
    rw [hue, lineB_put hg.up, if_pos hu]
    unfold chargeL
    rw [getD_set, if_neg (by omega), getD_set, if_neg (by omega), getD_set, getD_set, getD_set, getD_set, List.length_set, if_neg (show ¬ (0 = 6 ∧ 6 < (lineB L U).length) by omega), hl, h.len, he]
    by_cases h2 : 6 = i
    · rw [if_pos ⟨h2, by omega⟩, if_pos ⟨h2, by omega⟩]
      omega
    · rw [if_neg (by omega), if_neg (by omega), if_neg (by omega)]
      exact h.eq i h0 h1
  · rw [getD_set, if_neg (by omega)]
    have := h.cb i h0 h1
    omega
  · rw [getD_set, if_pos ⟨rfl, by have := h.len; omega⟩]
    omega
theorem usr_none {L : List LV} {U : Int} (h0 : 1 ≤ U) : (getB L U).isSome = (usr (lineB L U) == U) := by
  unfold lineB
  cases hg : getB L U with
  | none => simp only [Option.isSome_none, Option.getD_none]; rw [eq_comm, beq_eq_false_iff_ne]; unfold usr zL; simp; omega
  | some l => have := (getB_usr hg).1; simp [this]
/-- who used nothing has the whole factor -/
theorem fac_none {u s n h T : Int} (hu : u ≤ 0) : factI (atI u s n h).1 T = 1000 := by
  have h1 := atI_bd u s n h
  have h2 : cntI u ≤ 0 := by unfold cntI; split <;> (try split) <;> omega
  unfold factI
  split
  · rfl
  · rw [if_pos (by omega)]
end Go.Proofs.YthflogeaielhlaaGreatDoor
namespace Go.Proofs.YthflogeaielhlaaGreatDoor
set_option linter.unusedVariables false
open Go.ChangeShapes Go.WideShapes Go.RowKit Go.Deep

namespace B14
def i64R (x : Int) : Prop := -9223372036854775808 ≤ x ∧ x ≤ 9223372036854775807
theorem fields_at {P : Program} {fs : Array Field} {l : List (Nat × Nat × TypeId)} (h : fs.toList.map (fun f => (f.offset, P.cellsOf f.type, f.type)) = l) {i o c : Nat} {t : TypeId} (hi : l[i]? = some (o, c, t)) : ∃ f, fs[i]? = some f ∧ f.offset = o ∧ P.cellsOf f.type = c ∧ f.type = t := by
  rw [← h, List.getElem?_map] at hi
  cases hf : fs.toList[i]? with
  | none => rw [hf] at hi; cases hi
  | some f =>
    rw [hf] at hi
    injection hi with hi
    injection hi with h1 h2
    injection h2 with h2 h3
    exact ⟨f, by simpa using hf, h1, h2, h3⟩
theorem trod_field {H : Type} {enc : TypeId × Value → H} {P : Program} {w : World} {base : Nat} {spare : Nat → Bool} {held : Bool} {fuel : Nat} {t : TypeId} {cs : List Value} {x : DataW H × List MemPlace} {fs : Array Field} (hs : P.underlying t = some (.struct fs)) (h : DataW.trod enc P w base spare held fuel t cs = some x)
    {l : List (Nat × Nat × TypeId)} (hl : fs.toList.map (fun f => (f.offset, P.cellsOf f.type, f.type)) = l) {i o c : Nat} {u : TypeId} (hi : l[i]? = some (o, c, u)) : ∃ n y, DataW.trod enc P w base spare held n u ((cs.drop o).take c) = some y := by
  obtain ⟨xs, n, _, _, _, hlen, hfs⟩ := DataW.trod_struct hs h
  obtain ⟨f, hf, rfl, rfl, rfl⟩ := fields_at hl hi
  have hlt : i < xs.length := by rw [hlen]; exact (Array.getElem?_eq_some_iff.1 hf).1
  exact ⟨n, xs[i], (hfs i f hf).trans (List.getElem?_eq_getElem hlt)⟩
/-- an act: its kind, the user, what, when, how much -/
structure ActB where
  kind : Int
  u : Int
  t : Int
  n : Int
  y : Int
structure ActB.Cells (w : World) (b o : Nat) (a : ActB) : Prop where
  c0 : w.cell? ⟨b, o, none⟩ = some (.int .i64 a.kind)
  c1 : w.cell? ⟨b, o + 1, none⟩ = some (.int .i64 a.u)
  c2 : w.cell? ⟨b, o + 2, none⟩ = some (.int .i64 a.t)
  c3 : w.cell? ⟨b, o + 3, none⟩ = some (.int .i64 a.n)
  c4 : w.cell? ⟨b, o + 4, none⟩ = some (.int .i64 a.y)
  u64 : i64R a.u
  t64 : i64R a.t
  n64 : i64R a.n
  y64 : i64R a.y
def ActsB (w : World) (ad : Option Addr) (len : Nat) (A : Nat → ActB) : Prop := len ≤ 9223372036854775807 ∧ (0 < len → ∃ b off, ad = some ⟨b, off, none⟩ ∧ ∀ k, k < len → ActB.Cells w b (off + k * 5) (A k))
instance : Inhabited ActB := ⟨⟨0, 0, 0, 0, 0⟩⟩
end B14
theorem mask_15 (x : Int) : bits .and .i64 x 15 = x % 16 := mask_i64 x 4 16 rfl (by decide) (by decide) (by decide)
theorem part_int {l : List Int} {j : Nat} (hj : j < l.length) (w : World) : (part 3 (l.map (Value.int .i64)).toArray (j * 1)).run Tryz.prog w = .ok (.int .i64 (l.getD j 0)) w := by
  simp [part, isAgg, run_underlying Tryz.underlying3, List.getD, List.getElem?_eq_getElem hj]
theorem eqItems_same (d : Nat) (l : List Int) (w : World) : ∀ is : List Nat, (∀ i ∈ is, i < l.length) → (Op.eqItems (d + 1) 3 1 (l.map (Value.int .i64)).toArray (l.map (Value.int .i64)).toArray is).run Tryz.prog w = .ok true w
  | [], _ => by simp [Op.eqItems]
  | i :: is, h => by
    have ih := eqItems_same d l w is fun j hj => h j (List.mem_cons_of_mem _ hj)
    have hp := part_int (h i List.mem_cons_self) w
    simp only [Op.eqItems, Sem.run_bind, hp, Result.andThen_ok, run_equalIn_int w d _ _ _ _ _ Tryz.underlying3]
    simpa using ih
theorem eqin5d (D : Nat) (a b c d e : Int) (w : World) : (Op.equalIn (D + 2) 42 (.agg #[.int .i64 a, .int .i64 b, .int .i64 c, .int .i64 d, .int .i64 e]) (.agg #[.int .i64 a, .int .i64 b, .int .i64 c, .int .i64 d, .int .i64 e])).run Tryz.prog w = .ok true w := by
  have hc : Tryz.prog.cellsOf 3 = 1 := by kernel_rfl
  obtain ⟨i, hi⟩ : ∃ i, Tryz.prog.info? 3 = some i := Option.isSome_iff_exists.1 (by kernel_rfl)
  refine (run_equalIn_array w (D + 1) _ _ Tryz.underlying42 hi).trans ?_
  rw [hc]
  exact eqItems_same D [a, b, c, d, e] w (List.range 5) (fun i hi => by have := List.mem_range.1 hi; simpa using this)
theorem eqin5 (a b c d e : Int) (w : World) : (Op.equalIn 10000 42 (.agg #[.int .i64 a, .int .i64 b, .int .i64 c, .int .i64 d, .int .i64 e]) (.agg #[.int .i64 a, .int .i64 b, .int .i64 c, .int .i64 d, .int .i64 e])).run Tryz.prog w = .ok true w := eqin5d 9998 a b c d e w
end Go.Proofs.YthflogeaielhlaaGreatDoor
namespace Go.Proofs.YthflogeaielhlaaGreatDoor
set_option linter.unusedVariables false
open Go.ChangeShapes Go.WideShapes Go.ChangeAt Go.RowKit Bk
theorem eqinS (d : Nat) (f t : Int) (w : World) : (Op.equalIn (d + 2) 44 (.agg #[.int .i64 f, .int .i64 t]) (.agg #[.int .i64 f, .int .i64 t])).run Tryz.prog w = .ok true w := by
  have hS : Tryz.prog.underlying 44 = some (.struct (Tryz.prog.fieldsOf 44)) := by kernel_rfl
  have hp : Tryz.prog.stoodInHeld 44 = false := by kernel_rfl
  have hm : (Tryz.prog.fieldsOf 44).toList.map (fun f => (f.name != "_", f.offset, f.type)) = [(true, 0, 2), (true, 1, 33)] := by kernel_rfl
  refine (run_equalIn_struct w (d + 1) _ _ _ hS hp).trans ?_
  rw [run_eqFields_all w (fun _ => true)]
  · simp
  · intro x hf
    have h1 : (x.name != "_", x.offset, x.type) ∈ (Tryz.prog.fieldsOf 44).toList.map (fun f => (f.name != "_", f.offset, f.type)) := List.mem_map.2 ⟨x, hf, rfl⟩
    rw [hm] at h1
    simp only [List.mem_cons, List.not_mem_nil, or_false, Prod.mk.injEq] at h1
    rcases h1 with ⟨h1, h2, h3⟩ | ⟨h1, h2, h3⟩
    · refine ⟨by simpa using h1, .int .i64 f, .int .i64 f, ?_, ?_, ?_⟩
      · rw [h2, h3]; simp [part, isAgg, run_underlying Tryz.underlying2]
      · rw [h2, h3]; simp [part, isAgg, run_underlying Tryz.underlying2]
      · rw [h3]; refine (run_equalIn_int w d _ _ .i64 f f Tryz.underlying2).trans ?_; simp
    · refine ⟨by simpa using h1, .int .i64 t, .int .i64 t, ?_, ?_, ?_⟩
      · rw [h2, h3]; simp [part, isAgg, run_underlying Tryz.underlying33]
      · rw [h2, h3]; simp [part, isAgg, run_underlying Tryz.underlying33]
      · rw [h3]; refine (run_equalIn_int w d _ _ .i64 t t Tryz.underlying33).trans ?_; simp
set_option maxRecDepth 100000 in
theorem eqinL (a0 a1 a2 a3 a4 a5 a6 a7 a8 : Int) (w : World) : (Op.equalIn 10000 46 (.agg #[.int .i64 a0, .int .i64 a1, .int .i64 a2, .int .i64 a3, .int .i64 a4, .int .i64 a5, .int .i64 a6, .int .i64 a7, .int .i64 a8]) (.agg #[.int .i64 a0, .int .i64 a1, .int .i64 a2, .int .i64 a3, .int .i64 a4, .int .i64 a5, .int .i64 a6, .int .i64 a7, .int .i64 a8])).run Tryz.prog w = .ok true w := by
  have hS : Tryz.prog.underlying 46 = some (.struct (Tryz.prog.fieldsOf 46)) := by kernel_rfl
  have hp : Tryz.prog.stoodInHeld 46 = false := by kernel_rfl
  have hm : (Tryz.prog.fieldsOf 46).toList.map (fun f => (f.name != "_", f.offset, f.type)) = [(true, 0, 3), (true, 1, 42), (true, 6, 2), (true, 7, 44)] := by kernel_rfl
  refine (run_equalIn_struct w 9999 _ _ _ hS hp).trans ?_
  rw [run_eqFields_all w (fun _ => true)]
  · simp
  · intro x hf
    have h1 : (x.name != "_", x.offset, x.type) ∈ (Tryz.prog.fieldsOf 46).toList.map (fun f => (f.name != "_", f.offset, f.type)) := List.mem_map.2 ⟨x, hf, rfl⟩
    rw [hm] at h1
    simp only [List.mem_cons, List.not_mem_nil, or_false, Prod.mk.injEq] at h1
    rcases h1 with ⟨h1, h2, h3⟩ | ⟨h1, h2, h3⟩ | ⟨h1, h2, h3⟩ | ⟨h1, h2, h3⟩
    · refine ⟨by simpa using h1, .int .i64 a0, .int .i64 a0, ?_, ?_, ?_⟩
      · rw [h2, h3]; simp [part, isAgg, run_underlying Tryz.underlying3]
      · rw [h2, h3]; simp [part, isAgg, run_underlying Tryz.underlying3]
      · rw [h3]; refine (run_equalIn_int w 9998 _ _ .i64 a0 a0 Tryz.underlying3).trans ?_; simp
    · refine ⟨by simpa using h1, .agg #[.int .i64 a1, .int .i64 a2, .int .i64 a3, .int .i64 a4, .int .i64 a5], .agg #[.int .i64 a1, .int .i64 a2, .int .i64 a3, .int .i64 a4, .int .i64 a5], ?_, ?_, ?_⟩
      · rw [h2, h3]; go_simp; try rfl
      · rw [h2, h3]; go_simp; try rfl
      · rw [h3]; exact eqin5d 9997 a1 a2 a3 a4 a5 w
    · refine ⟨by simpa using h1, .int .i64 a6, .int .i64 a6, ?_, ?_, ?_⟩
      · rw [h2, h3]; simp [part, isAgg, run_underlying Tryz.underlying2]
      · rw [h2, h3]; simp [part, isAgg, run_underlying Tryz.underlying2]
      · rw [h3]; refine (run_equalIn_int w 9998 _ _ .i64 a6 a6 Tryz.underlying2).trans ?_; simp
    · refine ⟨by simpa using h1, .agg #[.int .i64 a7, .int .i64 a8], .agg #[.int .i64 a7, .int .i64 a8], ?_, ?_, ?_⟩
      · rw [h2, h3]; go_simp; try rfl
      · rw [h2, h3]; go_simp; try rfl
      · rw [h3]; exact eqinS 9997 a7 a8 w
end Go.Proofs.YthflogeaielhlaaGreatDoor
