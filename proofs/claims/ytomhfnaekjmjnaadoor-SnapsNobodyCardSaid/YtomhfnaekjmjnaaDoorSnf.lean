/- A text that is saved. No condition but the lengths' bounds. -/
import Derived.Test.YtomhfnaekjmjnaaDoorSne
import Derived.Test.YtomhfnaekjmjnaaDoorJnA
namespace Go.Proofs.YtomhfnaekjmjnaaDoor
set_option linter.unusedVariables false
open Go.ChangeShapes Go.WideShapes Go.ChangeAt Go.RowKit
attribute [local go_sem ↓] Go.wp_at_zero Go.wp_at_succ comesTo_value_eq comesTo_skip_eq comesTo_enter_eq

def saveF (st : SS) (ds : DS) (bs : List Int) : SS × DS × Int :=
  if (writeF ds (if st.last = 0 then st.f1 else st.f0) (st.gen + 1, bs)).2 ≠ 0 then ({ st with failed := true }, (writeF ds (if st.last = 0 then st.f1 else st.f0) (st.gen + 1, bs)).1, (writeF ds (if st.last = 0 then st.f1 else st.f0) (st.gen + 1, bs)).2)
  else ({ st with last := if st.last = 0 then 1 else 0, text := bs, gen := st.gen + 1, failed := false }, (writeF ds (if st.last = 0 then st.f1 else st.f0) (st.gen + 1, bs)).1, 0)
/-- what saving leaves -/
def SaveEnd (w : World) (S D : Nat) (H : Nat → Prop) (x : SS × DS × Int) (e : Ending) (w' : World) : Prop :=
  e = .returned (.int .i64 x.2.2) ∧ SD w' S D (fun j => H j ∨ w.heap.size ≤ j) x.1 x.2.1 ∧ Fr H w w'
theorem leaves_congr {P : Program} {fn : Func} {t1 t2 : Array Value} {R : Ending → World → Prop} (ht : ∀ w, (results fn t1).run P w = (results fn t2).run P w) : ∀ (ds : List Deferred) (u : FrameMode) (w : World), Leaves P fn t1 R ds u w → Leaves P fn t2 R ds u w
  | [], .returning, w, h => by
    obtain ⟨v, h1, h2⟩ := h
    exact ⟨v, (ht w).symm.trans h1, h2⟩
  | [], .panicking chain, w, h => h
  | [], .run, _, h => h
  | d :: ds, u, w, h => by
    obtain ⟨h1, fv, cap, f, args, h2, h3, h4⟩ := h
    refine ⟨h1, fv, cap, f, args, h2, h3, h4.mono fun e u' w' he => ?_⟩
    cases e with
    | returned v => exact leaves_congr ht ds _ w' he
    | panicked chain => exact leaves_congr ht ds _ w' he
    | outgrown => exact he
theorem leaves_put {a : Act} {d : Tmp} {v : Value} {R : Ending → World → Prop} {u : FrameMode} {w : World} (hd : d ≠ 4) (h : Leaves Tryd.prog Tryd.f57 (a.put (some d) v).tmps R (a.put (some d) v).defers u w) : Leaves Tryd.prog Tryd.f57 a.tmps R a.defers u w := by
  refine leaves_congr (fun w => ?_) _ _ _ h
  simp [results, Tryd.results57, Act.put, Array.getElem?_setIfInBounds_ne hd]
set_option maxRecDepth 100000 in
set_option maxHeartbeats 8000000 in
theorem save_sd {w : World} {S D : Nat} {H : Nat → Prop} {f0 f1 last gen : Int} {text : List Int} {ds : DS} (h : SD w S D H ⟨f0, f1, last, text, gen, false⟩ ds) (hgen : gen < 4611686018427387904) (ad : Option Addr) (n c : Nat) (bs : List Int) (hX : ∀ w', Fr H w w' → TxtAt w' (.slice ad n c) bs) (hlen : bs.length ≤ 65536) :
    Calls Tryd.prog 57 #[.pointer (some ⟨S, 0, none⟩), .slice ad n c] w fun e w' => SaveEnd w S D H (saveF ⟨f0, f1, last, text, gen, false⟩ ds bs) e w' := by
  have hmx : Tryd.prog.follows .mixedOrders = true := by kernel_rfl
  have hmf : ∀ (fn : Fn) (first cap : Array Value) (w : World), (Instr.makeFunc fn first cap).run Tryd.prog w = .ok (.func fn first cap) w := fun _ _ _ _ => rfl
  obtain ⟨F, G, hs, hd, hFG, hH⟩ := h
  have hsl := hs.lt
  obtain ⟨hm, hgi, hli, hln, tv, hb, ht⟩ := hs
  unfold snCells at hb
  simp only at hb hgi hli hln ht
  have hA1 := below_alloc (Below.refl _ w) (.cells #[.pointer (some ⟨S, 0, none⟩)] 66)
  have hA2 := below_alloc hA1 (.cells #[.slice ad n c] 22)
  have hA3 := below_alloc hA2 (.cells #[.int .i64 0] 25)
  have hA4 := below_alloc hA3 (.cells #[.int .i64 0] 3)
  have b1 := Boxed.new w 66 (.pointer (some ⟨S, 0, none⟩))
  have b2 := Boxed.new (w.alloc (.cells #[.pointer (some ⟨S, 0, none⟩)] 66)) 22 (.slice ad n c)
  have b3 := Boxed.new ((w.alloc (.cells #[.pointer (some ⟨S, 0, none⟩)] 66)).alloc (.cells #[.slice ad n c] 22)) 25 (.int .i64 0)
  have b4 := Boxed.new (((w.alloc (.cells #[.pointer (some ⟨S, 0, none⟩)] 66)).alloc (.cells #[.slice ad n c] 22)).alloc (.cells #[.int .i64 0] 25)) 3 (.int .i64 0)
  rw [World.size_alloc] at b2
  rw [World.size_alloc, World.size_alloc] at b3
  rw [World.size_alloc, World.size_alloc, World.size_alloc] at b4
  replace b1 := ((b1.alloc (.cells #[.slice ad n c] 22)).alloc (.cells #[.int .i64 0] 25)).alloc (.cells #[.int .i64 0] 3)
  replace b2 := (b2.alloc (.cells #[.int .i64 0] 25)).alloc (.cells #[.int .i64 0] 3)
  replace b3 := b3.alloc (.cells #[.int .i64 0] 3)
  have hsz : ((((w.alloc (.cells #[.pointer (some ⟨S, 0, none⟩)] 66)).alloc (.cells #[.slice ad n c] 22)).alloc (.cells #[.int .i64 0] 25)).alloc (.cells #[.int .i64 0] 3)).heap.size = w.heap.size + 4 := by simp
  have HSG := Lib.hid (hFG S hm)
  have HSL := Lib.hid hsl
  have HGB := Lib.hid (fun j (hj : G j) => (hH j (.inr hj)).2)
  have HHH := Lib.hid hH
  have HFG := Lib.hid hFG
  have HM := Lib.hid hm
  have HG := Lib.hid (And.intro hgi.1 hgen)
  have HLI := Lib.hid (And.intro hli hln)
  have HX := Lib.hid hX
  have HLEN := Lib.hid hlen
  have HTX := Lib.hid ht
  have HD := Lib.hid hd
  have HMS := Lib.hid hb
  have HBA := Lib.hid hA4
  have hmS1 := (hA4.block S hsl).trans hb
  have HB1 := Lib.hid b1
  have HB2 := Lib.hid b2
  have HB3 := Lib.hid b3
  have HB4 := Lib.hid b4
  have HSZ1 := Lib.hid hsz
  have c1 := b1.cell
  have c3 := cell_of_block (o := 3) hmS1 rfl
  have HM1 := Lib.hid hmS1
  clear hgi hli hln ht hb hd hFG hH hm hA1 hA2 hA3 hA4 b1 b2 b3 b4 hsz hX hlen hgen hsl hmS1
  go_enter_defers Tryd.func57, Tryd.ntmps57
  go_upto_region 2 with fail
  generalize (((w.alloc (.cells #[.pointer (some ⟨S, 0, none⟩)] 66)).alloc (.cells #[.slice ad n c] 22)).alloc (.cells #[.int .i64 0] 25)).alloc (.cells #[.int .i64 0] 3) = W1 at *
  have hlS := (Array.getElem?_eq_some_iff.1 HM1.out).1
  have HSZ := HSZ1
  have HFA0 : ∀ (W2 w3 w4 w' : World) (cs : Array Value) (T : TypeId) (cs' : Array Value), (∀ j, j < w.heap.size → W2.heap[j]? = w.heap[j]?) → w.heap.size ≤ W2.heap.size → W2.os = w.os ∧ W2.tape = w.tape ∧ W2.output = w.output → Fr G W2 w3 → WroteTo (w.heap.size + 2) T cs w3 w4 → Fr (fun j => j = S) w4 w' → Fr H w w' := fun W2 w3 w4 w' cs T cs' h0 hs ho h1 h2 h3 =>
    ⟨h3.os.trans (h2.os.trans (h1.os.trans ho.1)), h3.tape.trans (h2.tape.trans (h1.tape.trans ho.2.1)), h3.output.trans (h2.output.trans (h1.output.trans ho.2.2)), by have := h1.size; have := h2.size; have := h3.size; omega, fun j hj hn => (h3.block j (by have := h1.size; have := h2.size; omega) (fun e => by subst e; exact hn (HHH.out _ (.inl HM.out)).1)).trans ((h2.rest j (by omega)).trans ((h1.block j (by omega) (fun hg => hn (HHH.out _ (.inr hg)).1)).trans (h0 j hj)))⟩
  have HFAL := Lib.hid HFA0
  clear HFA0 hlS
  by_cases hl0 : last = 0
  · have hd0 : (last == 0) = true := by simpa using hl0
    have HL0 := Lib.hid hl0
    have c4 := HB4.out.cell
    have f4 := HB4.out.frozen
    have hw2 := (wrote_refl (show W1.heap[w.heap.size + 3]? = some (.cells #[.int .i64 0] 3 (0, 0)) from HB4.out)).set 0 (.int .i64 1)
    have hbs : Boxed (W1.setCell ⟨w.heap.size + 3, 0, none⟩ (.int .i64 1)) w.heap.size 66 (.pointer (some ⟨S, 0, none⟩)) := (hw2.rest _ (by omega)).trans HB1.out
    have hbx : Boxed (W1.setCell ⟨w.heap.size + 3, 0, none⟩ (.int .i64 1)) (w.heap.size + 1) 22 (.slice ad n c) := (hw2.rest _ (by omega)).trans HB2.out
    have hbb : Boxed (W1.setCell ⟨w.heap.size + 3, 0, none⟩ (.int .i64 1)) (w.heap.size + 2) 25 (.int .i64 0) := (hw2.rest _ (by omega)).trans HB3.out
    have hbt : Boxed (W1.setCell ⟨w.heap.size + 3, 0, none⟩ (.int .i64 1)) (w.heap.size + 3) 3 (.int .i64 1) := hw2.there
    have hmS := (hw2.rest S (by have := HSL.out; omega)).trans HM1.out
    have HB2W := Lib.hid (show Below w.heap.size w (W1.setCell ⟨w.heap.size + 3, 0, none⟩ (.int .i64 1)) from hw2.below HBA.out (by omega))
    have HSZ2 := Lib.hid hw2.size
    have hT2 := HX.out _ (Fr.of_below HB2W.out)
    have HD2 := Lib.hid (HD.out.below HB2W.out)
    clear hl0 hw2
    go_upto_region 4 with fail
    clear c1 c3 c4 f4 hd0
    generalize W1.setCell ⟨w.heap.size + 3, 0, none⟩ (.int .i64 1) = W2 at *
    have HSZ := Lib.hid (show W2.heap.size = w.heap.size + 4 from HSZ2.out.trans HSZ1.out)
    have HFA := Lib.hid (fun (w3 w4 w' : World) (cs : Array Value) (T : TypeId) (h1 : Fr G W2 w3) (h2 : WroteTo (w.heap.size + 2) T cs w3 w4) (h3 : Fr (fun j => j = S) w4 w') => HFAL.out W2 w3 w4 w' cs T #[] (fun j hj => HB2W.out.block j hj) HB2W.out.size ⟨HB2W.out.os, HB2W.out.tape, HB2W.out.output⟩ h1 h2 h3)
    have HT2 := Lib.hid hT2
    clear hT2
    go_upto_region 5 with fail
    refine wp_region_held (S := fun X => X.cell? ⟨w.heap.size, 0, none⟩ = some (.pointer (some ⟨S, 0, none⟩)) ∧ X.cell? ⟨w.heap.size + 1, 0, none⟩ = some (.slice ad n c) ∧ X.cell? ⟨w.heap.size + 3, 0, none⟩ = some (.int .i64 1) ∧ X.heap[S]? = some (.cells #[.pointer (some ⟨D, 0, none⟩), .int .i64 f0, .int .i64 f1, .int .i64 last, tv, .int .i64 gen, .bool false] 87 (0, 0))) hmx ?_
    change wpAnyH _ _ _ _ _ 16 _ _ W2.drew
    have hSS : W2.drew.cell? ⟨w.heap.size, 0, none⟩ = some (.pointer (some ⟨S, 0, none⟩)) ∧ W2.drew.cell? ⟨w.heap.size + 1, 0, none⟩ = some (.slice ad n c) ∧ W2.drew.cell? ⟨w.heap.size + 3, 0, none⟩ = some (.int .i64 1) ∧ W2.drew.heap[S]? = some (.cells #[.pointer (some ⟨D, 0, none⟩), .int .i64 f0, .int .i64 f1, .int .i64 last, tv, .int .i64 gen, .bool false] 87 (0, 0)) := ⟨hbs.cell, hbx.cell, hbt.cell, hmS⟩
    have hwg : IntKind.i64.wrap (gen + 1) = gen + 1 := by have := HG.out; rw [IntKind.wrap_i64]; omega
    have hwg2 : wrap64 (gen + 1) = gen + 1 := by have := HG.out; unfold wrap64; omega
    refine wpAnyH_take (i := 0) (v := .pointer (some ⟨S, 0, none⟩)) rfl (by decide +kernel) (by decide +kernel) (by decide +kernel) (fun _ _ _ h => leaves_put (by decide) h) (.inl ⟨by first | rfl | (go_simp; done), fun X hX => by have hx1 := hX.1; have hx2 := hX.2.1; have hx3 := hX.2.2.1; have hm1 := cell_of_block (o := 1) hX.2.2.2 rfl; have hm2 := cell_of_block (o := 2) hX.2.2.2 rfl; have hm5 := cell_of_block (o := 5) hX.2.2.2 rfl; clear hX; first | (go_simp; done) | (go_simp; rfl)⟩) hSS ?_
    refine wpAnyH_take (i := 1) (v := .pointer (some ⟨S, 0, none⟩)) rfl (by decide +kernel) (by decide +kernel) (by decide +kernel) (fun _ _ _ h => leaves_put (by decide) h) (.inl ⟨by first | rfl | (go_simp; done), fun X hX => by have hx1 := hX.1; have hx2 := hX.2.1; have hx3 := hX.2.2.1; have hm1 := cell_of_block (o := 1) hX.2.2.2 rfl; have hm2 := cell_of_block (o := 2) hX.2.2.2 rfl; have hm5 := cell_of_block (o := 5) hX.2.2.2 rfl; clear hX; first | (go_simp; done) | (go_simp; rfl)⟩) hSS ?_
    refine wpAnyH_take (i := 2) (v := .int .i64 1) rfl (by decide +kernel) (by decide +kernel) (by decide +kernel) (fun _ _ _ h => leaves_put (by decide) h) (.inl ⟨by first | rfl | (go_simp; done), fun X hX => by have hx1 := hX.1; have hx2 := hX.2.1; have hx3 := hX.2.2.1; have hm1 := cell_of_block (o := 1) hX.2.2.2 rfl; have hm2 := cell_of_block (o := 2) hX.2.2.2 rfl; have hm5 := cell_of_block (o := 5) hX.2.2.2 rfl; clear hX; first | (go_simp; done) | (go_simp; rfl)⟩) hSS ?_
    refine wpAnyH_take (i := 3) (v := .pointer (some ⟨S, 0, none⟩)) rfl (by decide +kernel) (by decide +kernel) (by decide +kernel) (fun _ _ _ h => leaves_put (by decide) h) (.inl ⟨by first | rfl | (go_simp; done), fun X hX => by have hx1 := hX.1; have hx2 := hX.2.1; have hx3 := hX.2.2.1; have hm1 := cell_of_block (o := 1) hX.2.2.2 rfl; have hm2 := cell_of_block (o := 2) hX.2.2.2 rfl; have hm5 := cell_of_block (o := 5) hX.2.2.2 rfl; clear hX; first | (go_simp; done) | (go_simp; rfl)⟩) hSS ?_
    refine wpAnyH_take (i := 4) (v := .pointer (some ⟨S, 1, none⟩)) rfl (by decide +kernel) (by decide +kernel) (by decide +kernel) (fun _ _ _ h => leaves_put (by decide) h) (.inl ⟨by first | rfl | (go_simp; done), fun X hX => by have hx1 := hX.1; have hx2 := hX.2.1; have hx3 := hX.2.2.1; have hm1 := cell_of_block (o := 1) hX.2.2.2 rfl; have hm2 := cell_of_block (o := 2) hX.2.2.2 rfl; have hm5 := cell_of_block (o := 5) hX.2.2.2 rfl; clear hX; first | (go_simp; done) | (go_simp; rfl)⟩) hSS ?_
    refine wpAnyH_take (i := 5) (v := .pointer (some ⟨S, 2, none⟩)) rfl (by decide +kernel) (by decide +kernel) (by decide +kernel) (fun _ _ _ h => leaves_put (by decide) h) (.inl ⟨by first | rfl | (go_simp; done), fun X hX => by have hx1 := hX.1; have hx2 := hX.2.1; have hx3 := hX.2.2.1; have hm1 := cell_of_block (o := 1) hX.2.2.2 rfl; have hm2 := cell_of_block (o := 2) hX.2.2.2 rfl; have hm5 := cell_of_block (o := 5) hX.2.2.2 rfl; clear hX; first | (go_simp; done) | (go_simp; rfl)⟩) hSS ?_
    refine wpAnyH_take (i := 6) (v := .int .i64 f1) rfl (by decide +kernel) (by decide +kernel) (by decide +kernel) (fun _ _ _ h => leaves_put (by decide) h) (.inl ⟨by first | rfl | (go_simp; done), fun X hX => by have hx1 := hX.1; have hx2 := hX.2.1; have hx3 := hX.2.2.1; have hm1 := cell_of_block (o := 1) hX.2.2.2 rfl; have hm2 := cell_of_block (o := 2) hX.2.2.2 rfl; have hm5 := cell_of_block (o := 5) hX.2.2.2 rfl; clear hX; first | (go_simp; done) | (go_simp; rfl)⟩) hSS ?_
    refine wpAnyH_take (i := 7) (v := .pointer (some ⟨S, 0, none⟩)) rfl (by decide +kernel) (by decide +kernel) (by decide +kernel) (fun _ _ _ h => leaves_put (by decide) h) (.inl ⟨by first | rfl | (go_simp; done), fun X hX => by have hx1 := hX.1; have hx2 := hX.2.1; have hx3 := hX.2.2.1; have hm1 := cell_of_block (o := 1) hX.2.2.2 rfl; have hm2 := cell_of_block (o := 2) hX.2.2.2 rfl; have hm5 := cell_of_block (o := 5) hX.2.2.2 rfl; clear hX; first | (go_simp; done) | (go_simp; rfl)⟩) hSS ?_
    refine wpAnyH_take (i := 8) (v := .pointer (some ⟨S, 0, none⟩)) rfl (by decide +kernel) (by decide +kernel) (by decide +kernel) (fun _ _ _ h => leaves_put (by decide) h) (.inl ⟨by first | rfl | (go_simp; done), fun X hX => by have hx1 := hX.1; have hx2 := hX.2.1; have hx3 := hX.2.2.1; have hm1 := cell_of_block (o := 1) hX.2.2.2 rfl; have hm2 := cell_of_block (o := 2) hX.2.2.2 rfl; have hm5 := cell_of_block (o := 5) hX.2.2.2 rfl; clear hX; first | (go_simp; done) | (go_simp; rfl)⟩) hSS ?_
    refine wpAnyH_take (i := 9) (v := .pointer (some ⟨S, 5, none⟩)) rfl (by decide +kernel) (by decide +kernel) (by decide +kernel) (fun _ _ _ h => leaves_put (by decide) h) (.inl ⟨by first | rfl | (go_simp; done), fun X hX => by have hx1 := hX.1; have hx2 := hX.2.1; have hx3 := hX.2.2.1; have hm1 := cell_of_block (o := 1) hX.2.2.2 rfl; have hm2 := cell_of_block (o := 2) hX.2.2.2 rfl; have hm5 := cell_of_block (o := 5) hX.2.2.2 rfl; clear hX; first | (go_simp; done) | (go_simp; rfl)⟩) hSS ?_
    refine wpAnyH_take (i := 10) (v := .int .i64 gen) rfl (by decide +kernel) (by decide +kernel) (by decide +kernel) (fun _ _ _ h => leaves_put (by decide) h) (.inl ⟨by first | rfl | (go_simp; done), fun X hX => by have hx1 := hX.1; have hx2 := hX.2.1; have hx3 := hX.2.2.1; have hm1 := cell_of_block (o := 1) hX.2.2.2 rfl; have hm2 := cell_of_block (o := 2) hX.2.2.2 rfl; have hm5 := cell_of_block (o := 5) hX.2.2.2 rfl; clear hX; first | (go_simp; done) | (go_simp; rfl)⟩) hSS ?_
    refine wpAnyH_take (i := 11) (v := .int .i64 (gen + 1)) rfl (by decide +kernel) (by decide +kernel) (by decide +kernel) (fun _ _ _ h => leaves_put (by decide) h) (.inl ⟨by first | rfl | (go_simp; done), fun X hX => by have hx1 := hX.1; have hx2 := hX.2.1; have hx3 := hX.2.2.1; have hm1 := cell_of_block (o := 1) hX.2.2.2 rfl; have hm2 := cell_of_block (o := 2) hX.2.2.2 rfl; have hm5 := cell_of_block (o := 5) hX.2.2.2 rfl; clear hX; first | (go_simp; done) | (go_simp; rfl)⟩) hSS ?_
    refine wpAnyH_take (i := 12) (v := .slice ad n c) rfl (by decide +kernel) (by decide +kernel) (by decide +kernel) (fun _ _ _ h => leaves_put (by decide) h) (.inl ⟨by first | rfl | (go_simp; done), fun X hX => by have hx1 := hX.1; have hx2 := hX.2.1; have hx3 := hX.2.2.1; have hm1 := cell_of_block (o := 1) hX.2.2.2 rfl; have hm2 := cell_of_block (o := 2) hX.2.2.2 rfl; have hm5 := cell_of_block (o := 5) hX.2.2.2 rfl; clear hX; first | (go_simp; done) | (go_simp; rfl)⟩) hSS ?_
    refine wpAnyH_take (i := 13) (v := .agg #[.int .i64 (gen + 1), .slice ad n c]) rfl (by decide +kernel) (by decide +kernel) (by decide +kernel) (fun _ _ _ h => leaves_put (by decide) h) (.inl ⟨by first | rfl | (go_simp; done), fun X hX => by have hx1 := hX.1; have hx2 := hX.2.1; have hx3 := hX.2.2.1; have hm1 := cell_of_block (o := 1) hX.2.2.2 rfl; have hm2 := cell_of_block (o := 2) hX.2.2.2 rfl; have hm5 := cell_of_block (o := 5) hX.2.2.2 rfl; clear hX; first | (go_simp; done) | (go_simp; rfl)⟩) hSS ?_
    clear hwg hwg2
    have KW := Lib.hid (write_sn (w := W2.drew) (S := S) (D := D) (G := G) (ds := ds) (cell_of_block (o := 0) hmS rfl) HSG.out (HD2.out.below (Below.refl _ _).drew) (fun j hj => by have h1 := HGB.out j hj; have h2 := HSZ.out; show j < W2.heap.size; have h3 := Nat.lt_of_lt_of_eq (Nat.lt_of_lt_of_le h1 (Nat.le_add_right _ 4)) h2.symm; exact h3) f1 (gen + 1) (by have := HG.out; omega) ad n c bs (HT2.out.below (Below.refl _ _).drew))
    refine anyH_call (i := 14) (by decide +kernel) rfl (by first | rfl | (go_simp; done)) (by go_simp) KW.out ?_
    rintro e w3 ⟨rfl, hd3, hf3⟩
    have hsz := HSZ.out
    have hgb := HGB.out
    have hf3 : Fr G W2 w3 := drew_fr hf3
    have hd3 : Dk w3 D (fun j => G j ∨ W2.heap.size ≤ j) _ := hd3
    have hbs3 : Boxed w3 w.heap.size 66 (.pointer (some ⟨S, 0, none⟩)) := (hf3.block _ (by omega) (fun h => by have := hgb _ h; omega)).trans hbs
    have hbx3 : Boxed w3 (w.heap.size + 1) 22 (.slice ad n c) := (hf3.block _ (by omega) (fun h => by have := hgb _ h; omega)).trans hbx
    have hbb3 : Boxed w3 (w.heap.size + 2) 25 (.int .i64 0) := (hf3.block _ (by omega) (fun h => by have := hgb _ h; omega)).trans hbb
    have hbt3 : Boxed w3 (w.heap.size + 3) 3 (.int .i64 1) := (hf3.block _ (by omega) (fun h => by have := hgb _ h; omega)).trans hbt
    have hmS3 := (hf3.block S (by have := HSL.out; omega) HSG.out).trans hmS
    refine ⟨_, rfl, ⟨hbs3.cell, hbx3.cell, hbt3.cell, hmS3⟩, ?_⟩
    obtain ⟨y, hy⟩ : ∃ y, y = writeF ds f1 (gen + 1, bs) := ⟨_, rfl⟩
    rw [← hy] at hd3 ⊢
    obtain ⟨d1, k1⟩ := y
    simp only at hd3 ⊢
    have cb3 := hbb3.cell
    have fb3 := hbb3.frozen
    have hw4 := (wrote_refl (show w3.heap[w.heap.size + 2]? = some (.cells #[.int .i64 0] 25 (0, 0)) from hbb3)).set 0 (.int .i64 k1)
    have hbs4 : Boxed (w3.setCell ⟨w.heap.size + 2, 0, none⟩ (.int .i64 k1)) w.heap.size 66 (.pointer (some ⟨S, 0, none⟩)) := (hw4.rest _ (by omega)).trans hbs3
    have hbx4 : Boxed (w3.setCell ⟨w.heap.size + 2, 0, none⟩ (.int .i64 k1)) (w.heap.size + 1) 22 (.slice ad n c) := (hw4.rest _ (by omega)).trans hbx3
    have hbt4 : Boxed (w3.setCell ⟨w.heap.size + 2, 0, none⟩ (.int .i64 k1)) (w.heap.size + 3) 3 (.int .i64 1) := (hw4.rest _ (by omega)).trans hbt3
    have hmS4 := (hw4.rest S (by have := HSL.out; omega)).trans hmS3
    refine anyH_store (i := 15) (w' := w3.setCell ⟨w.heap.size + 2, 0, none⟩ (.int .i64 k1)) (by decide +kernel) rfl (by first | rfl | (go_simp; done)) (by first | (go_simp; done) | (go_simp; rfl)) ⟨hbs4.cell, hbx4.cell, hbt4.cell, hmS4⟩ ?_
    refine wpAnyH_done (by decide +kernel) ?_ _
    have HW4 := Lib.hid hw4
    have HF3 := Lib.hid hf3
    have HD3 := Lib.hid hd3
    have HY := Lib.hid hy
    have HM4 := Lib.hid hmS4
    have HBS4 := Lib.hid hbs4
    have HBX4 := Lib.hid hbx4
    have HBT4 := Lib.hid hbt4
    have cb4 := cell_of_block (o := 0) hw4.there rfl
    have HCB4 := Lib.hid cb4
    clear hSS hd3 hf3 hbs3 hbx3 hbb3 hbt3 hmS3 hy cb3 fb3 hw4 hbs4 hbx4 hbt4 hmS4 hbs hbx hbb hbt hmS KW cb4 hsz hgb
    generalize w3.setCell ⟨w.heap.size + 2, 0, none⟩ (.int .i64 k1) = w4 at *
    go_simp
    go_wp2
    refine leaves_cons (f := 71) (args := #[.pointer (some ⟨w.heap.size + 2, 0, none⟩), .pointer (some ⟨w.heap.size, 0, none⟩), .pointer (some ⟨w.heap.size + 3, 0, none⟩), .pointer (some ⟨w.heap.size + 1, 0, none⟩)]) (by simp) (by simp [go_sem]) ?_
    have hsl := HSL.out
    have hsz := HSZ.out
    have hs3 := HF3.out.size
    have hs4 := HW4.out.size
    by_cases hk : k1 = 0
    case neg =>
      refine (save1_bad hk HCB4.out HBS4.out.cell (by omega) HM4.out .returning).mono ?_
      rintro e u' w5 ⟨rfl, rfl, hw5⟩
      have hcb5 := (World.cell?_of_block (a := ⟨w.heap.size + 2, 0, none⟩) (hw5.rest _ (by show w.heap.size + 2 ≠ S; omega))).trans HCB4.out
      have hsv : saveF ⟨f0, f1, last, text, gen, false⟩ ds bs = (⟨f0, f1, last, text, gen, true⟩, d1, k1) := by
        unfold saveF
        simp only
        rw [if_pos HL0.out, ← HY.out, if_pos hk]
      have hb4 : ∀ j, j < w.heap.size → ¬ G j → w4.heap[j]? = w.heap[j]? := fun j hj hg => (HW4.out.rest j (by omega)).trans ((HF3.out.block j (by omega) hg).trans (HB2W.out.block j hj))
      have hd4 : Dk w4 D (fun j => G j ∨ W2.heap.size ≤ j) d1 := Fr.dk (G := fun j => j = w.heap.size + 2) HD3.out ⟨HW4.out.os, HW4.out.tape, HW4.out.output, Nat.le_of_eq HW4.out.size.symm, fun j _ hj => HW4.out.rest j hj⟩ (fun j hj _ e => by rcases hj with h | h; have := HGB.out j h; omega; omega)
      have hfr5 : Fr (fun j => j = S) w4 w5 := ⟨hw5.os, hw5.tape, hw5.output, Nat.le_of_eq hw5.size.symm, fun j _ hj => hw5.rest j hj⟩
      refine ⟨.int .i64 k1, ?_, ?_⟩
      · clear hb4 hd4 hfr5 hsv hw5 hk
        simp [results, Tryd.results57, go_sem]; try go_simp
      · unfold SaveEnd
        rw [hsv]
        refine ⟨rfl, SD.of (F := F) (G := fun j => G j ∨ W2.heap.size ≤ j) ⟨HM.out, ⟨HG.out.1, by show gen ≤ _; have := HG.out; omega⟩, HLI.out.1, HLI.out.2, tv, hw5.there, HTX.out.keep (by have := hw5.size; omega) fun j hj hlt => (hw5.rest j hj.2).trans (hb4 j hlt (HFG.out j hj.1))⟩ (Fr.dk hd4 hfr5 (fun j hj _ e => by rcases hj with h | h; exact HSG.out (e ▸ h); omega)) (fun j _ hj hg => by rcases hg with h | h; exact HFG.out j hj h; have := (HHH.out j (.inl hj)).2; omega) (fun j _ hj => .inl (HHH.out j (.inl hj)).1) (fun j _ hj => hj.elim (fun h => .inl (HHH.out j (.inr h)).1) (fun h => .inr (by omega))), HFA.out _ _ _ _ _ HF3.out HW4.out hfr5⟩
    case pos =>
      subst hk
      refine (save1_ok HLEN.out HCB4.out HBS4.out.cell HBT4.out.cell HBX4.out.cell (by omega) (by omega) (by omega) HM4.out HG.out (fun w' hw' => HX.out w' (HFA.out _ _ _ _ _ HF3.out HW4.out ⟨hw'.os, hw'.tape, hw'.output, Nat.le_of_eq hw'.size.symm, fun j _ hj => hw'.rest j hj⟩)) .returning).mono ?_
      rintro e u' w5 ⟨rfl, rfl, v5, ho5, hm5, hf5⟩
      have hcb5 := (World.cell?_of_block (a := ⟨w.heap.size + 2, 0, none⟩) (hf5.block _ (by show w.heap.size + 2 < w4.heap.size; omega) (by show ¬ (w.heap.size + 2 = S); omega))).trans HCB4.out
      have hsv : saveF ⟨f0, f1, last, text, gen, false⟩ ds bs = (⟨f0, f1, 1, bs, gen + 1, false⟩, d1, 0) := by
        unfold saveF
        simp only
        rw [if_pos HL0.out, ← HY.out, if_neg (by simp), if_pos HL0.out]
      have hb4 : ∀ j, j < w.heap.size → ¬ G j → w4.heap[j]? = w.heap[j]? := fun j hj hg => (HW4.out.rest j (by omega)).trans ((HF3.out.block j (by omega) hg).trans (HB2W.out.block j hj))
      have hd4 : Dk w4 D (fun j => G j ∨ W2.heap.size ≤ j) d1 := Fr.dk (G := fun j => j = w.heap.size + 2) HD3.out ⟨HW4.out.os, HW4.out.tape, HW4.out.output, Nat.le_of_eq HW4.out.size.symm, fun j _ hj => HW4.out.rest j hj⟩ (fun j hj _ e => by rcases hj with h | h; have := HGB.out j h; omega; omega)
      refine ⟨.int .i64 0, ?_, ?_⟩
      · clear hb4 hd4 hf5 hsv hm5 ho5
        simp [results, Tryd.results57, go_sem]; try go_simp
      · unfold SaveEnd
        rw [hsv]
        have hs5 := hf5.size
        refine ⟨rfl, SD.of (F := fun j => F j ∨ w4.heap.size ≤ j) (G := fun j => (G j ∨ W2.heap.size ≤ j) ∧ j < w4.heap.size) ⟨.inl HM.out, ⟨by show 0 ≤ gen + 1; have := HG.out; omega, by show gen + 1 ≤ _; have := HG.out; omega⟩, by simp only; decide, HLEN.out, v5, hm5, (TxtF.of_own ho5).more fun j _ hj => ⟨.inr hj, by omega⟩⟩ (Fr.dk hd4.bound hf5 (fun j hj _ e => by rcases hj.1 with h | h; exact HSG.out (e ▸ h); omega)) (fun j _ hj hg => by
          rcases hj with hj | hj
          · rcases hg.1 with h | h
            · exact HFG.out j hj h
            · have := (HHH.out j (.inl hj)).2; omega
          · have := hg.2; omega) (fun j _ hj => hj.elim (fun h => .inl (HHH.out j (.inl h)).1) (fun h => .inr (by omega))) (fun j _ hj => hj.1.elim (fun h => .inl (HHH.out j (.inr h)).1) (fun h => .inr (by omega))), HFA.out _ _ _ _ _ HF3.out HW4.out hf5⟩
  · have hd0 : (last == 0) = false := by simpa using hl0
    have HL0 := Lib.hid hl0
    have hbs := HB1.out
    have hbx := HB2.out
    have hbb := HB3.out
    have hbt := HB4.out
    have hmS := HM1.out
    have HB2W := HBA
    have hT2 := HX.out _ (Fr.of_below HB2W.out)
    have HD2 := Lib.hid (HD.out.below HB2W.out)
    clear hl0
    go_upto_region 4 with fail
    clear c1 c3 hd0
    have HFA := Lib.hid (fun (w3 w4 w' : World) (cs : Array Value) (T : TypeId) (h1 : Fr G W1 w3) (h2 : WroteTo (w.heap.size + 2) T cs w3 w4) (h3 : Fr (fun j => j = S) w4 w') => HFAL.out W1 w3 w4 w' cs T #[] (fun j hj => HB2W.out.block j hj) HB2W.out.size ⟨HB2W.out.os, HB2W.out.tape, HB2W.out.output⟩ h1 h2 h3)
    have HT2 := Lib.hid hT2
    clear hT2
    go_upto_region 5 with fail
    refine wp_region_held (S := fun X => X.cell? ⟨w.heap.size, 0, none⟩ = some (.pointer (some ⟨S, 0, none⟩)) ∧ X.cell? ⟨w.heap.size + 1, 0, none⟩ = some (.slice ad n c) ∧ X.cell? ⟨w.heap.size + 3, 0, none⟩ = some (.int .i64 0) ∧ X.heap[S]? = some (.cells #[.pointer (some ⟨D, 0, none⟩), .int .i64 f0, .int .i64 f1, .int .i64 last, tv, .int .i64 gen, .bool false] 87 (0, 0))) hmx ?_
    change wpAnyH _ _ _ _ _ 16 _ _ W1.drew
    have hSS : W1.drew.cell? ⟨w.heap.size, 0, none⟩ = some (.pointer (some ⟨S, 0, none⟩)) ∧ W1.drew.cell? ⟨w.heap.size + 1, 0, none⟩ = some (.slice ad n c) ∧ W1.drew.cell? ⟨w.heap.size + 3, 0, none⟩ = some (.int .i64 0) ∧ W1.drew.heap[S]? = some (.cells #[.pointer (some ⟨D, 0, none⟩), .int .i64 f0, .int .i64 f1, .int .i64 last, tv, .int .i64 gen, .bool false] 87 (0, 0)) := ⟨hbs.cell, hbx.cell, hbt.cell, hmS⟩
    have hwg : IntKind.i64.wrap (gen + 1) = gen + 1 := by have := HG.out; rw [IntKind.wrap_i64]; omega
    have hwg2 : wrap64 (gen + 1) = gen + 1 := by have := HG.out; unfold wrap64; omega
    refine wpAnyH_take (i := 0) (v := .pointer (some ⟨S, 0, none⟩)) rfl (by decide +kernel) (by decide +kernel) (by decide +kernel) (fun _ _ _ h => leaves_put (by decide) h) (.inl ⟨by first | rfl | (go_simp; done), fun X hX => by have hx1 := hX.1; have hx2 := hX.2.1; have hx3 := hX.2.2.1; have hm1 := cell_of_block (o := 1) hX.2.2.2 rfl; have hm2 := cell_of_block (o := 2) hX.2.2.2 rfl; have hm5 := cell_of_block (o := 5) hX.2.2.2 rfl; clear hX; first | (go_simp; done) | (go_simp; rfl)⟩) hSS ?_
    refine wpAnyH_take (i := 1) (v := .pointer (some ⟨S, 0, none⟩)) rfl (by decide +kernel) (by decide +kernel) (by decide +kernel) (fun _ _ _ h => leaves_put (by decide) h) (.inl ⟨by first | rfl | (go_simp; done), fun X hX => by have hx1 := hX.1; have hx2 := hX.2.1; have hx3 := hX.2.2.1; have hm1 := cell_of_block (o := 1) hX.2.2.2 rfl; have hm2 := cell_of_block (o := 2) hX.2.2.2 rfl; have hm5 := cell_of_block (o := 5) hX.2.2.2 rfl; clear hX; first | (go_simp; done) | (go_simp; rfl)⟩) hSS ?_
    refine wpAnyH_take (i := 2) (v := .int .i64 0) rfl (by decide +kernel) (by decide +kernel) (by decide +kernel) (fun _ _ _ h => leaves_put (by decide) h) (.inl ⟨by first | rfl | (go_simp; done), fun X hX => by have hx1 := hX.1; have hx2 := hX.2.1; have hx3 := hX.2.2.1; have hm1 := cell_of_block (o := 1) hX.2.2.2 rfl; have hm2 := cell_of_block (o := 2) hX.2.2.2 rfl; have hm5 := cell_of_block (o := 5) hX.2.2.2 rfl; clear hX; first | (go_simp; done) | (go_simp; rfl)⟩) hSS ?_
    refine wpAnyH_take (i := 3) (v := .pointer (some ⟨S, 0, none⟩)) rfl (by decide +kernel) (by decide +kernel) (by decide +kernel) (fun _ _ _ h => leaves_put (by decide) h) (.inl ⟨by first | rfl | (go_simp; done), fun X hX => by have hx1 := hX.1; have hx2 := hX.2.1; have hx3 := hX.2.2.1; have hm1 := cell_of_block (o := 1) hX.2.2.2 rfl; have hm2 := cell_of_block (o := 2) hX.2.2.2 rfl; have hm5 := cell_of_block (o := 5) hX.2.2.2 rfl; clear hX; first | (go_simp; done) | (go_simp; rfl)⟩) hSS ?_
    refine wpAnyH_take (i := 4) (v := .pointer (some ⟨S, 1, none⟩)) rfl (by decide +kernel) (by decide +kernel) (by decide +kernel) (fun _ _ _ h => leaves_put (by decide) h) (.inl ⟨by first | rfl | (go_simp; done), fun X hX => by have hx1 := hX.1; have hx2 := hX.2.1; have hx3 := hX.2.2.1; have hm1 := cell_of_block (o := 1) hX.2.2.2 rfl; have hm2 := cell_of_block (o := 2) hX.2.2.2 rfl; have hm5 := cell_of_block (o := 5) hX.2.2.2 rfl; clear hX; first | (go_simp; done) | (go_simp; rfl)⟩) hSS ?_
    refine wpAnyH_take (i := 5) (v := .pointer (some ⟨S, 1, none⟩)) rfl (by decide +kernel) (by decide +kernel) (by decide +kernel) (fun _ _ _ h => leaves_put (by decide) h) (.inl ⟨by first | rfl | (go_simp; done), fun X hX => by have hx1 := hX.1; have hx2 := hX.2.1; have hx3 := hX.2.2.1; have hm1 := cell_of_block (o := 1) hX.2.2.2 rfl; have hm2 := cell_of_block (o := 2) hX.2.2.2 rfl; have hm5 := cell_of_block (o := 5) hX.2.2.2 rfl; clear hX; first | (go_simp; done) | (go_simp; rfl)⟩) hSS ?_
    refine wpAnyH_take (i := 6) (v := .int .i64 f0) rfl (by decide +kernel) (by decide +kernel) (by decide +kernel) (fun _ _ _ h => leaves_put (by decide) h) (.inl ⟨by first | rfl | (go_simp; done), fun X hX => by have hx1 := hX.1; have hx2 := hX.2.1; have hx3 := hX.2.2.1; have hm1 := cell_of_block (o := 1) hX.2.2.2 rfl; have hm2 := cell_of_block (o := 2) hX.2.2.2 rfl; have hm5 := cell_of_block (o := 5) hX.2.2.2 rfl; clear hX; first | (go_simp; done) | (go_simp; rfl)⟩) hSS ?_
    refine wpAnyH_take (i := 7) (v := .pointer (some ⟨S, 0, none⟩)) rfl (by decide +kernel) (by decide +kernel) (by decide +kernel) (fun _ _ _ h => leaves_put (by decide) h) (.inl ⟨by first | rfl | (go_simp; done), fun X hX => by have hx1 := hX.1; have hx2 := hX.2.1; have hx3 := hX.2.2.1; have hm1 := cell_of_block (o := 1) hX.2.2.2 rfl; have hm2 := cell_of_block (o := 2) hX.2.2.2 rfl; have hm5 := cell_of_block (o := 5) hX.2.2.2 rfl; clear hX; first | (go_simp; done) | (go_simp; rfl)⟩) hSS ?_
    refine wpAnyH_take (i := 8) (v := .pointer (some ⟨S, 0, none⟩)) rfl (by decide +kernel) (by decide +kernel) (by decide +kernel) (fun _ _ _ h => leaves_put (by decide) h) (.inl ⟨by first | rfl | (go_simp; done), fun X hX => by have hx1 := hX.1; have hx2 := hX.2.1; have hx3 := hX.2.2.1; have hm1 := cell_of_block (o := 1) hX.2.2.2 rfl; have hm2 := cell_of_block (o := 2) hX.2.2.2 rfl; have hm5 := cell_of_block (o := 5) hX.2.2.2 rfl; clear hX; first | (go_simp; done) | (go_simp; rfl)⟩) hSS ?_
    refine wpAnyH_take (i := 9) (v := .pointer (some ⟨S, 5, none⟩)) rfl (by decide +kernel) (by decide +kernel) (by decide +kernel) (fun _ _ _ h => leaves_put (by decide) h) (.inl ⟨by first | rfl | (go_simp; done), fun X hX => by have hx1 := hX.1; have hx2 := hX.2.1; have hx3 := hX.2.2.1; have hm1 := cell_of_block (o := 1) hX.2.2.2 rfl; have hm2 := cell_of_block (o := 2) hX.2.2.2 rfl; have hm5 := cell_of_block (o := 5) hX.2.2.2 rfl; clear hX; first | (go_simp; done) | (go_simp; rfl)⟩) hSS ?_
    refine wpAnyH_take (i := 10) (v := .int .i64 gen) rfl (by decide +kernel) (by decide +kernel) (by decide +kernel) (fun _ _ _ h => leaves_put (by decide) h) (.inl ⟨by first | rfl | (go_simp; done), fun X hX => by have hx1 := hX.1; have hx2 := hX.2.1; have hx3 := hX.2.2.1; have hm1 := cell_of_block (o := 1) hX.2.2.2 rfl; have hm2 := cell_of_block (o := 2) hX.2.2.2 rfl; have hm5 := cell_of_block (o := 5) hX.2.2.2 rfl; clear hX; first | (go_simp; done) | (go_simp; rfl)⟩) hSS ?_
    refine wpAnyH_take (i := 11) (v := .int .i64 (gen + 1)) rfl (by decide +kernel) (by decide +kernel) (by decide +kernel) (fun _ _ _ h => leaves_put (by decide) h) (.inl ⟨by first | rfl | (go_simp; done), fun X hX => by have hx1 := hX.1; have hx2 := hX.2.1; have hx3 := hX.2.2.1; have hm1 := cell_of_block (o := 1) hX.2.2.2 rfl; have hm2 := cell_of_block (o := 2) hX.2.2.2 rfl; have hm5 := cell_of_block (o := 5) hX.2.2.2 rfl; clear hX; first | (go_simp; done) | (go_simp; rfl)⟩) hSS ?_
    refine wpAnyH_take (i := 12) (v := .slice ad n c) rfl (by decide +kernel) (by decide +kernel) (by decide +kernel) (fun _ _ _ h => leaves_put (by decide) h) (.inl ⟨by first | rfl | (go_simp; done), fun X hX => by have hx1 := hX.1; have hx2 := hX.2.1; have hx3 := hX.2.2.1; have hm1 := cell_of_block (o := 1) hX.2.2.2 rfl; have hm2 := cell_of_block (o := 2) hX.2.2.2 rfl; have hm5 := cell_of_block (o := 5) hX.2.2.2 rfl; clear hX; first | (go_simp; done) | (go_simp; rfl)⟩) hSS ?_
    refine wpAnyH_take (i := 13) (v := .agg #[.int .i64 (gen + 1), .slice ad n c]) rfl (by decide +kernel) (by decide +kernel) (by decide +kernel) (fun _ _ _ h => leaves_put (by decide) h) (.inl ⟨by first | rfl | (go_simp; done), fun X hX => by have hx1 := hX.1; have hx2 := hX.2.1; have hx3 := hX.2.2.1; have hm1 := cell_of_block (o := 1) hX.2.2.2 rfl; have hm2 := cell_of_block (o := 2) hX.2.2.2 rfl; have hm5 := cell_of_block (o := 5) hX.2.2.2 rfl; clear hX; first | (go_simp; done) | (go_simp; rfl)⟩) hSS ?_
    clear hwg hwg2
    have KW := Lib.hid (write_sn (w := W1.drew) (S := S) (D := D) (G := G) (ds := ds) (cell_of_block (o := 0) hmS rfl) HSG.out (HD2.out.below (Below.refl _ _).drew) (fun j hj => by have h1 := HGB.out j hj; have h2 := HSZ.out; show j < W1.heap.size; have h3 := Nat.lt_of_lt_of_eq (Nat.lt_of_lt_of_le h1 (Nat.le_add_right _ 4)) h2.symm; exact h3) f0 (gen + 1) (by have := HG.out; omega) ad n c bs (HT2.out.below (Below.refl _ _).drew))
    refine anyH_call (i := 14) (by decide +kernel) rfl (by first | rfl | (go_simp; done)) (by go_simp) KW.out ?_
    rintro e w3 ⟨rfl, hd3, hf3⟩
    have hsz := HSZ.out
    have hgb := HGB.out
    have hf3 : Fr G W1 w3 := drew_fr hf3
    have hd3 : Dk w3 D (fun j => G j ∨ W1.heap.size ≤ j) _ := hd3
    have hbs3 : Boxed w3 w.heap.size 66 (.pointer (some ⟨S, 0, none⟩)) := (hf3.block _ (by omega) (fun h => by have := hgb _ h; omega)).trans hbs
    have hbx3 : Boxed w3 (w.heap.size + 1) 22 (.slice ad n c) := (hf3.block _ (by omega) (fun h => by have := hgb _ h; omega)).trans hbx
    have hbb3 : Boxed w3 (w.heap.size + 2) 25 (.int .i64 0) := (hf3.block _ (by omega) (fun h => by have := hgb _ h; omega)).trans hbb
    have hbt3 : Boxed w3 (w.heap.size + 3) 3 (.int .i64 0) := (hf3.block _ (by omega) (fun h => by have := hgb _ h; omega)).trans hbt
    have hmS3 := (hf3.block S (by have := HSL.out; omega) HSG.out).trans hmS
    refine ⟨_, rfl, ⟨hbs3.cell, hbx3.cell, hbt3.cell, hmS3⟩, ?_⟩
    obtain ⟨y, hy⟩ : ∃ y, y = writeF ds f0 (gen + 1, bs) := ⟨_, rfl⟩
    rw [← hy] at hd3 ⊢
    obtain ⟨d1, k1⟩ := y
    simp only at hd3 ⊢
    have cb3 := hbb3.cell
    have fb3 := hbb3.frozen
    have hw4 := (wrote_refl (show w3.heap[w.heap.size + 2]? = some (.cells #[.int .i64 0] 25 (0, 0)) from hbb3)).set 0 (.int .i64 k1)
    have hbs4 : Boxed (w3.setCell ⟨w.heap.size + 2, 0, none⟩ (.int .i64 k1)) w.heap.size 66 (.pointer (some ⟨S, 0, none⟩)) := (hw4.rest _ (by omega)).trans hbs3
    have hbx4 : Boxed (w3.setCell ⟨w.heap.size + 2, 0, none⟩ (.int .i64 k1)) (w.heap.size + 1) 22 (.slice ad n c) := (hw4.rest _ (by omega)).trans hbx3
    have hbt4 : Boxed (w3.setCell ⟨w.heap.size + 2, 0, none⟩ (.int .i64 k1)) (w.heap.size + 3) 3 (.int .i64 0) := (hw4.rest _ (by omega)).trans hbt3
    have hmS4 := (hw4.rest S (by have := HSL.out; omega)).trans hmS3
    refine anyH_store (i := 15) (w' := w3.setCell ⟨w.heap.size + 2, 0, none⟩ (.int .i64 k1)) (by decide +kernel) rfl (by first | rfl | (go_simp; done)) (by first | (go_simp; done) | (go_simp; rfl)) ⟨hbs4.cell, hbx4.cell, hbt4.cell, hmS4⟩ ?_
    refine wpAnyH_done (by decide +kernel) ?_ _
    have HW4 := Lib.hid hw4
    have HF3 := Lib.hid hf3
    have HD3 := Lib.hid hd3
    have HY := Lib.hid hy
    have HM4 := Lib.hid hmS4
    have HBS4 := Lib.hid hbs4
    have HBX4 := Lib.hid hbx4
    have HBT4 := Lib.hid hbt4
    have cb4 := cell_of_block (o := 0) hw4.there rfl
    have HCB4 := Lib.hid cb4
    clear hSS hd3 hf3 hbs3 hbx3 hbb3 hbt3 hmS3 hy cb3 fb3 hw4 hbs4 hbx4 hbt4 hmS4 hbs hbx hbb hbt hmS KW cb4 hsz hgb
    generalize w3.setCell ⟨w.heap.size + 2, 0, none⟩ (.int .i64 k1) = w4 at *
    go_simp
    go_wp2
    refine leaves_cons (f := 71) (args := #[.pointer (some ⟨w.heap.size + 2, 0, none⟩), .pointer (some ⟨w.heap.size, 0, none⟩), .pointer (some ⟨w.heap.size + 3, 0, none⟩), .pointer (some ⟨w.heap.size + 1, 0, none⟩)]) (by simp) (by simp [go_sem]) ?_
    have hsl := HSL.out
    have hsz := HSZ.out
    have hs3 := HF3.out.size
    have hs4 := HW4.out.size
    by_cases hk : k1 = 0
    case neg =>
      refine (save1_bad hk HCB4.out HBS4.out.cell (by omega) HM4.out .returning).mono ?_
      rintro e u' w5 ⟨rfl, rfl, hw5⟩
      have hcb5 := (World.cell?_of_block (a := ⟨w.heap.size + 2, 0, none⟩) (hw5.rest _ (by show w.heap.size + 2 ≠ S; omega))).trans HCB4.out
      have hsv : saveF ⟨f0, f1, last, text, gen, false⟩ ds bs = (⟨f0, f1, last, text, gen, true⟩, d1, k1) := by
        unfold saveF
        simp only
        rw [if_neg HL0.out, ← HY.out, if_pos hk]
      have hb4 : ∀ j, j < w.heap.size → ¬ G j → w4.heap[j]? = w.heap[j]? := fun j hj hg => (HW4.out.rest j (by omega)).trans ((HF3.out.block j (by omega) hg).trans (HB2W.out.block j hj))
      have hd4 : Dk w4 D (fun j => G j ∨ W1.heap.size ≤ j) d1 := Fr.dk (G := fun j => j = w.heap.size + 2) HD3.out ⟨HW4.out.os, HW4.out.tape, HW4.out.output, Nat.le_of_eq HW4.out.size.symm, fun j _ hj => HW4.out.rest j hj⟩ (fun j hj _ e => by rcases hj with h | h; have := HGB.out j h; omega; omega)
      have hfr5 : Fr (fun j => j = S) w4 w5 := ⟨hw5.os, hw5.tape, hw5.output, Nat.le_of_eq hw5.size.symm, fun j _ hj => hw5.rest j hj⟩
      refine ⟨.int .i64 k1, ?_, ?_⟩
      · clear hb4 hd4 hfr5 hsv hw5 hk
        simp [results, Tryd.results57, go_sem]; try go_simp
      · unfold SaveEnd
        rw [hsv]
        refine ⟨rfl, SD.of (F := F) (G := fun j => G j ∨ W1.heap.size ≤ j) ⟨HM.out, ⟨HG.out.1, by show gen ≤ _; have := HG.out; omega⟩, HLI.out.1, HLI.out.2, tv, hw5.there, HTX.out.keep (by have := hw5.size; omega) fun j hj hlt => (hw5.rest j hj.2).trans (hb4 j hlt (HFG.out j hj.1))⟩ (Fr.dk hd4 hfr5 (fun j hj _ e => by rcases hj with h | h; exact HSG.out (e ▸ h); omega)) (fun j _ hj hg => by rcases hg with h | h; exact HFG.out j hj h; have := (HHH.out j (.inl hj)).2; omega) (fun j _ hj => .inl (HHH.out j (.inl hj)).1) (fun j _ hj => hj.elim (fun h => .inl (HHH.out j (.inr h)).1) (fun h => .inr (by omega))), HFA.out _ _ _ _ _ HF3.out HW4.out hfr5⟩
    case pos =>
      subst hk
      refine (save1_ok HLEN.out HCB4.out HBS4.out.cell HBT4.out.cell HBX4.out.cell (by omega) (by omega) (by omega) HM4.out HG.out (fun w' hw' => HX.out w' (HFA.out _ _ _ _ _ HF3.out HW4.out ⟨hw'.os, hw'.tape, hw'.output, Nat.le_of_eq hw'.size.symm, fun j _ hj => hw'.rest j hj⟩)) .returning).mono ?_
      rintro e u' w5 ⟨rfl, rfl, v5, ho5, hm5, hf5⟩
      have hcb5 := (World.cell?_of_block (a := ⟨w.heap.size + 2, 0, none⟩) (hf5.block _ (by show w.heap.size + 2 < w4.heap.size; omega) (by show ¬ (w.heap.size + 2 = S); omega))).trans HCB4.out
      have hsv : saveF ⟨f0, f1, last, text, gen, false⟩ ds bs = (⟨f0, f1, 0, bs, gen + 1, false⟩, d1, 0) := by
        unfold saveF
        simp only
        rw [if_neg HL0.out, ← HY.out, if_neg (by simp), if_neg HL0.out]
      have hb4 : ∀ j, j < w.heap.size → ¬ G j → w4.heap[j]? = w.heap[j]? := fun j hj hg => (HW4.out.rest j (by omega)).trans ((HF3.out.block j (by omega) hg).trans (HB2W.out.block j hj))
      have hd4 : Dk w4 D (fun j => G j ∨ W1.heap.size ≤ j) d1 := Fr.dk (G := fun j => j = w.heap.size + 2) HD3.out ⟨HW4.out.os, HW4.out.tape, HW4.out.output, Nat.le_of_eq HW4.out.size.symm, fun j _ hj => HW4.out.rest j hj⟩ (fun j hj _ e => by rcases hj with h | h; have := HGB.out j h; omega; omega)
      refine ⟨.int .i64 0, ?_, ?_⟩
      · clear hb4 hd4 hf5 hsv hm5 ho5
        simp [results, Tryd.results57, go_sem]; try go_simp
      · unfold SaveEnd
        rw [hsv]
        have hs5 := hf5.size
        refine ⟨rfl, SD.of (F := fun j => F j ∨ w4.heap.size ≤ j) (G := fun j => (G j ∨ W1.heap.size ≤ j) ∧ j < w4.heap.size) ⟨.inl HM.out, ⟨by show 0 ≤ gen + 1; have := HG.out; omega, by show gen + 1 ≤ _; have := HG.out; omega⟩, by simp only; decide, HLEN.out, v5, hm5, (TxtF.of_own ho5).more fun j _ hj => ⟨.inr hj, by omega⟩⟩ (Fr.dk hd4.bound hf5 (fun j hj _ e => by rcases hj.1 with h | h; exact HSG.out (e ▸ h); omega)) (fun j _ hj hg => by
          rcases hj with hj | hj
          · rcases hg.1 with h | h
            · exact HFG.out j hj h
            · have := (HHH.out j (.inl hj)).2; omega
          · have := hg.2; omega) (fun j _ hj => hj.elim (fun h => .inl (HHH.out j (.inl h)).1) (fun h => .inr (by omega))) (fun j _ hj => hj.1.elim (fun h => .inl (HHH.out j (.inr h)).1) (fun h => .inr (by omega))), HFA.out _ _ _ _ _ HF3.out HW4.out hf5⟩
end Go.Proofs.YtomhfnaekjmjnaaDoor
