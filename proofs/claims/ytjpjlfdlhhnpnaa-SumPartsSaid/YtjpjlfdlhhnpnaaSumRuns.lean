/- The walk of SumRuns: any bytes, any running sum. -/
import Derived.Test.YtjpjlfdlhhnpnaaSumTells
import Derived.Test.YtjpjlfdlhhnpnaaGrow
namespace Go.Proofs.Ytjpjlfdlhhnpnaa
set_option linter.unusedVariables false
open Go.ChangeShapes Go.WideShapes Go.ChangeAt Go.RowKit
attribute [local go_sem ↓] Go.wp_at_zero Go.wp_at_succ comesTo_value_eq comesTo_skip_eq comesTo_enter_eq

theorem row_then {W w' : World} {v : Value} {zs : List Int} {t : TypeId} (h : TxtAt W v zs) (hb : Below (W.alloc (.cells #[v] t)).heap.size (W.alloc (.cells #[v] t)) w') : TxtRow w' W.heap.size 0 [v] [zs] := (row1 h).below hb
theorem below_more {W0 W w2 : World} (h : Below W0.heap.size W0 W) (hb : Below W.heap.size W w2) : Below W0.heap.size W0 w2 := h.trans (hb.mono h.size)
theorem takeI_one (P Q x : Int) : takeI P Q [x] = sumSt (P, Q) x := by
  have := takeI_snoc P Q [] x
  simpa [takeI] using this
theorem take1_eq (A B : Int) (l : List Int) (k : Nat) (h : k < l.length) : takeI A B (l.take (k + 1)) = takeI (takeI A B (l.take k)).1 (takeI A B (l.take k)).2 [l.getD k 0] := by
  rw [take_snoc_getD l k h, takeI_snoc, takeI_one]
/-- a byte of a text, as a text -/
theorem TxtAt.part {w : World} {bb off cap : Nat} {zs : List Int} (h : BytesRow w bb off zs) (k : Nat) (hk : k < zs.length) : TxtAt w (.slice (some ⟨bb, off + k, none⟩) 1 cap) [zs.getD k 0] := by
  refine .inl ⟨bb, off + k, cap, rfl, by simp, ⟨fun i hi => ?_, fun i hi => ?_, fun i hi => ?_, by simp⟩⟩
  · obtain rfl : i = 0 := by simp at hi; exact hi
    simpa using h.cell k hk
  · obtain rfl : i = 0 := by simp at hi; exact hi
    simpa using h.lo k hk
  · obtain rfl : i = 0 := by simp at hi; exact hi
    simpa using h.hi k hk

theorem keep4 {W0 W : World} {b c : Nat} {v0 v1 v2 v3 : Value} (c0 : W0.cell? ⟨b, 0, none⟩ = some v0) (c1 : W0.cell? ⟨b, 1, none⟩ = some v1) (c2 : W0.cell? ⟨c, 0, none⟩ = some v2) (c3 : W0.cell? ⟨c, 1, none⟩ = some v3) (h : Below W0.heap.size W0 W) :
    W.cell? ⟨b, 0, none⟩ = some v0 ∧ W.cell? ⟨b, 1, none⟩ = some v1 ∧ W.cell? ⟨c, 0, none⟩ = some v2 ∧ W.cell? ⟨c, 1, none⟩ = some v3 ∧ Below W0.heap.size W0 W :=
  ⟨(h.cell (World.block_lt_of_cell? W0 _ c0)).trans c0, (h.cell (World.block_lt_of_cell? W0 _ c1)).trans c1, (h.cell (World.block_lt_of_cell? W0 _ c2)).trans c2, (h.cell (World.block_lt_of_cell? W0 _ c3)).trans c3, h⟩
/-- the boxes of r and x, as they stand -/
structure TwoBox (w wr : World) (A B X Y : Int) : Prop where
  a0 : wr.cell? ⟨w.heap.size, 0, none⟩ = some (.int .u32 A)
  a1 : wr.cell? ⟨w.heap.size, 1, none⟩ = some (.int .u32 B)
  x0 : wr.cell? ⟨w.heap.size + 1, 0, none⟩ = some (.int .u32 X)
  x1 : wr.cell? ⟨w.heap.size + 1, 1, none⟩ = some (.int .u32 Y)
  f0 : wr.frozen? ⟨w.heap.size + 1, 0, none⟩ = false
  f1 : wr.frozen? ⟨w.heap.size + 1, 1, none⟩ = false
  bel : Below w.heap.size w wr
theorem TwoBox.there {w wr w1 : World} {A B X Y : Int} (h : TwoBox w wr A B X Y) (hb : Below wr.heap.size wr w1) : TwoBox w w1 A B X Y := by
  have h0 := World.block_lt_of_cell? wr _ h.a0
  have h1 := World.block_lt_of_cell? wr _ h.x0
  exact { a0 := (hb.cell h0).trans h.a0, a1 := (hb.cell (p := ⟨w.heap.size, 1, none⟩) h0).trans h.a1, x0 := (hb.cell h1).trans h.x0, x1 := (hb.cell (p := ⟨w.heap.size + 1, 1, none⟩) h1).trans h.x1,
          f0 := (hb.frozen h1).trans h.f0, f1 := (hb.frozen (p := ⟨w.heap.size + 1, 1, none⟩) h1).trans h.f1, bel := h.bel.trans (hb.mono h.bel.size) }
theorem TwoBox.put {w wr : World} {A B X Y X' Y' : Int} (h : TwoBox w wr A B X Y) : TwoBox w ((wr.setCell ⟨w.heap.size + 1, 0, none⟩ (.int .u32 X')).setCell ⟨w.heap.size + 1, 1, none⟩ (.int .u32 Y')) A B X' Y' where
  a0 := by rw [World.cell?_setCell_far _ _ _ _ (by simp), World.cell?_setCell_far _ _ _ _ (by simp)]; exact h.a0
  a1 := by rw [World.cell?_setCell_far _ _ _ _ (by simp), World.cell?_setCell_far _ _ _ _ (by simp)]; exact h.a1
  x0 := by rw [World.cell?_setCell_other _ _ _ _ (by simp)]; exact World.cell?_setCell_same _ _ _ h.x0
  x1 := World.cell?_setCell_same _ _ _ (u := .int .u32 Y) (by rw [World.cell?_setCell_other _ _ _ _ (by simp)]; exact h.x1)
  f0 := by simpa using h.f0
  f1 := by simpa using h.f1
  bel := (h.bel.setCell (by simp) _).setCell (by simp) _

theorem txt_row {w : World} {a : Option Addr} {n cap : Nat} {zs : List Int} (h : TxtAt w (.slice a n cap) zs) (hn : zs.length = n) (h0 : 0 < n) : ∃ bb off, a = some ⟨bb, off, none⟩ ∧ BytesRow w bb off zs := by
  rcases h with ⟨bb, off, cap', he, _, h2⟩ | ⟨he, _⟩
  · simp only [Value.slice.injEq] at he
    exact ⟨bb, off, he.1, h2⟩
  · subst he; simp at hn; omega
set_option maxHeartbeats 4000000 in
set_option maxRecDepth 100000 in
theorem runs_any (A B : Int) (A0 : 0 ≤ A) (B0 : 0 ≤ B) (A1 : A ≤ 4294967295) (B1 : B ≤ 4294967295) (a : Option Addr) (n0 n cap : Nat) (zs : List Int) (hn : zs.length = n)
    (hcase : (n0 ≤ 1500 ∧ n = n0) ∨ (1500 < n0 ∧ n = 1500 ∧ n0 ≤ cap ∧ ∃ bb off, a = some ⟨bb, off, none⟩)) (hc : n ≤ cap) (hl : n ≤ 1500) (w : World) (ht : TxtAt w (.slice a n cap) zs) :
    Calls Try.prog 12 #[.slice a n0 cap, .agg #[.int .u32 A, .int .u32 B]] w fun e w' => e = .returned (.bool true) ∧ Below w.heap.size w w' := by
  have HT := Lib.hid ht
  have HN := Lib.hid hn
  have HCASE := Lib.hid hcase
  clear ht hcase
  go_enter Try.func12, Try.ntmps12
  go_upto_if 9 with fail
  go_cut [0] (fun s0 wx => s0 = .slice a n cap ∧ wx = w.alloc (.cells #[.int .u32 A, .int .u32 B] 56))
  case first =>
    rcases HCASE.out with ⟨h1, h2⟩ | ⟨h1, h2, h3, bb, off, h4⟩
    · have hno : decide (1500 < (n0 : Int)) = false := by simp; omega
      subst h2
      clear HCASE HN HT hn
      go_wp2_with fail
      go_meet
      exact ⟨rfl, rfl⟩
    · have hno : decide (1500 < (n0 : Int)) = true := by simp; omega
      have hcap : (1500 : Int) ≤ (cap : Int) := by omega
      subst h2; subst h4
      clear HCASE HN HT hn
      go_wp2_with fail
      go_meet
      exact ⟨rfl, rfl⟩
  case rest =>
  obtain ⟨rfl, rfl⟩ := hcut
  go_wp2
  clear hn
  go_loopw [6] (fun i wr => ∃ k : Nat, k ≤ n ∧ i = .int .i64 k ∧ TwoBox w wr A B (takeI A B (zs.take k)).1 (takeI A B (zs.take k)).2) (fun i _ => n - (intOf i).toNat)
  case atStart => exact ⟨0, Nat.zero_le _, rfl, { a0 := by go_simp, a1 := by go_simp, x0 := by rw [show takeI A B (zs.take 0) = (A, B) by simp [takeI]]; go_simp, x1 := by rw [show takeI A B (zs.take 0) = (A, B) by simp [takeI]]; go_simp, f0 := by go_simp, f1 := by go_simp, bel := (by repeat (first | exact Below.refl _ _ | assumption | refine below_drewN ?_ _ | refine Below.drew ?_ | refine below_alloc ?_ _ | refine Below.alloc ?_ (by first | omega | (simp; done) | (simp; omega)) _ | refine Below.setCell ?_ (by first | omega | (simp; done) | (simp; omega)) _ | (refine Below.trans ?_ (Below.mono (by assumption) (by first | omega | (simp; done) | (simp; omega)))) | refine below_next ?_ (by assumption))) }⟩
  case round =>
    obtain ⟨k, hk, rfl, hb⟩ := hrel
    obtain ⟨⟨p0, p1⟩, q0, q1⟩ := takeI_bd A B A0 B0 A1 B1 (zs.take k)
    by_cases hlt : k < n
    · obtain ⟨bb, off, rfl, hrow⟩ := txt_row HT.out HN.out (by omega)
      have htxt := TxtAt.part (cap := cap - k) (hrow.below hb.bel) k (by rw [HN.out]; exact hlt)
      have hend := Lib.hid (take1_eq A B zs k (by rw [HN.out]; exact hlt))
      have e0 := hb.x0
      have e1 := hb.x1
      have e2 := hb.f0
      have e3 := hb.f1
      have hck : ¬ cap = k := by omega
      have s1 : (0 : Int) ≤ (k : Int) := by omega
      have s2 : (k : Int) + 1 ≤ (cap : Int) := by omega
      have s3 : (k : Int) ≤ (k : Int) + 1 := by omega
      have s4 : IntKind.i64.wrap ((k : Int) + 1) = (k : Int) + 1 := by simp [IntKind.wrap, IntKind.bits, IntKind.signed]; omega
      have l1 := World.block_lt_of_cell? wr _ e0
      have HB := Lib.hid hb
      have HTX := Lib.hid htxt
      clear hb htxt hrow
      generalize (takeI A B (zs.take k)).1 = P at *
      generalize (takeI A B (zs.take k)).2 = Q at *
      generalize zs.getD k 0 = x at *
      go_upto_region 7 with fail
      refine wp_region_grow_tail 7 (Below wr.heap.size wr) (by kernel_rfl) (by kernel_rfl) (Below.refl _ _).drew ?_
      simp only [List.take_succ_cons, List.take_zero, List.drop_succ_cons, List.drop_zero]
      (refine textS_run ?_ ?_ (fun W hS => ?_) ?_; rotate_left; (focus go_simp); (focus (obtain ⟨hc, hf⟩ := bcell hS; go_simp; first | rfl | exact ⟨rfl, hS⟩ | exact hS)); (try go_simp))
      (refine textS_run ?_ ?_ (fun W hS => ?_) ?_; rotate_left; (focus go_simp); (focus (obtain ⟨hc, hf⟩ := bcell hS; go_simp; first | rfl | exact ⟨rfl, hS⟩ | exact hS)); (try go_simp))
      (refine textS_run ?_ ?_ (fun W hS => ?_) ?_; rotate_left; (focus go_simp); (focus (obtain ⟨hc, hf⟩ := bcell hS; go_simp; first | rfl | exact ⟨rfl, hS⟩ | exact hS)); (try go_simp))
      (refine textS_run ?_ ?_ (fun W hS => ?_) ?_; rotate_left; (focus go_simp); (focus (obtain ⟨hc, hf⟩ := bcell hS; go_simp; first | rfl | exact ⟨rfl, hS⟩ | exact hS)); (try go_simp))
      (refine textS_run ?_ ?_ (fun W hS => ?_) ?_; rotate_left; (focus go_simp); (focus (obtain ⟨hc, hf⟩ := bcell hS; go_simp; first | rfl | exact ⟨rfl, hS⟩ | exact hS)); (try go_simp))
      (refine textS_run ?_ ?_ (fun W hS => ?_) ?_; rotate_left; (focus go_simp); (focus (obtain ⟨hc, hf⟩ := bcell hS; go_simp; first | rfl | exact ⟨rfl, hS⟩ | exact hS)); (try go_simp))
      (refine textS_run ?_ ?_ (fun W hS => ?_) ?_; rotate_left; (focus go_simp); (focus (obtain ⟨hc, hf⟩ := bcell hS; go_simp; refine (take_any P Q p0 q0 p1 q1 _ [x] _ (HTX.out.below hS)).mono ?_; rintro e w1 ⟨rfl, hb⟩; refine ⟨?_, hS.trans (hb.mono hS.size)⟩; rfl)); (try go_simp))
      refine textS_nil ?_
      intro W1 hS
      obtain ⟨hc1, hf1⟩ := bcell hS
      have HE := Lib.hid ((HB.out.there hS).put (X' := (takeI P Q [x]).1) (Y' := (takeI P Q [x]).2))
      have d0 := (hc1 _ 0 l1).trans e0
      have d1 := (hc1 _ 1 l1).trans e1
      have d2 := (hf1 _ 0 l1).trans e2
      have d3 := (hf1 _ 1 l1).trans e3
      clear hc1 hf1 e0 e1 e2 e3 l1 s4
      go_wp2
      go_roundw
      case rel => exact ⟨k + 1, by omega, by go_num, by rw [hend.out]; exact HE.out⟩
      case measure => simp [intOf]; omega
    · have hkz := Lib.hid (show zs.take k = zs by rw [List.take_of_length_le (by rw [HN.out]; omega)])
      rw [hkz.out] at hb p0 p1 q0 q1
      have e0 := hb.a0
      have e1 := hb.a1
      have e2 := hb.x0
      have e3 := hb.x1
      have hbel := hb.bel
      clear hb
      clear hkz
      have hTA := HT.out.below hbel
      have HTA := Lib.hid hTA
      clear hTA
      obtain ⟨⟨r0, r1⟩, t0, t1⟩ := takeI_bd 1 0 (by decide) (by decide) (by decide) (by decide) zs
      have HTK := Lib.hid (fun (W : World) (h : Below wr.heap.size wr W) => take_any A B A0 B0 A1 B1 _ zs W (HTA.out.below h))
      have HTK1 := Lib.hid (fun (W : World) (h : Below wr.heap.size wr W) => take_any 1 0 (by decide) (by decide) (by decide) (by decide) _ zs W (HTA.out.below h))
      have HVL := Lib.hid (fun (W : World) => value_any (takeI 1 0 zs).1 (takeI 1 0 zs).2 r0 t0 r1 t1 W)
      have HSM : Hid (∀ (W : World) (g : Nat), TxtRow W g 0 [.slice a n cap] [zs] → Calls Try.prog 40 #[.slice (some ⟨g, 0, none⟩) 1 1] W fun e w' => e = .returned (.int .u32 (((takeI 1 0 zs).2 * 65536 + (takeI 1 0 zs).1) % 4294967296)) ∧ Below W.heap.size W w') :=
        Lib.hid (fun (W : World) (g : Nat) (h : TxtRow W g 0 [.slice a n cap] [zs]) => sum_some g 0 1 _ [zs] (by simp) W h)
      generalize (takeI A B zs).1 = X at *
      generalize (takeI A B zs).2 = Y at *
      generalize (takeI 1 0 zs).1 = R at *
      generalize (takeI 1 0 zs).2 = T at *
      generalize (T * 65536 + R) % 4294967296 = V at *
      go_upto_region 8 with fail
      go_region_held3 (fun w' => w'.cell? ⟨w.heap.size, 0, none⟩ = some (.int .u32 A) ∧ w'.cell? ⟨w.heap.size, 1, none⟩ = some (.int .u32 B) ∧ w'.cell? ⟨w.heap.size + 1, 0, none⟩ = some (.int .u32 X) ∧ w'.cell? ⟨w.heap.size + 1, 1, none⟩ = some (.int .u32 Y) ∧ Below wr.heap.size wr w') (exact keep4 e0 e1 e2 e3 (by repeat (first | exact Below.refl _ _ | assumption | refine below_drewN ?_ _ | refine Below.drew ?_ | refine below_alloc ?_ _ | refine Below.alloc ?_ (by first | omega | (simp; done) | (simp; omega)) _ | refine Below.setCell ?_ (by first | omega | (simp; done) | (simp; omega)) _ | (refine Below.trans ?_ (Below.mono (by assumption) (by first | omega | (simp; done) | (simp; omega)))) | refine below_next ?_ (by assumption))))
        (first
          | (go_at_call_of 39 (Value.slice none 0 0); refine (take_none A B none 0 _).mono ?_; rintro e w2 ⟨rfl, hb⟩; have hb' := below_more (W0 := wr) (by repeat (first | exact Below.refl _ _ | assumption | refine below_drewN ?_ _ | refine Below.drew ?_ | refine below_alloc ?_ _ | refine Below.alloc ?_ (by first | omega | (simp; done) | (simp; omega)) _ | refine Below.setCell ?_ (by first | omega | (simp; done) | (simp; omega)) _ | (refine Below.trans ?_ (Below.mono (by assumption) (by first | omega | (simp; done) | (simp; omega)))) | refine below_next ?_ (by assumption))) hb; have hb2 := hb; clear hb)
          | (go_at_call_of 39 (Value.agg #[Value.int IntKind.u32 A, Value.int IntKind.u32 B]); refine (HTK.out _ ?_).mono ?_; (exact (by repeat (first | exact Below.refl _ _ | assumption | refine below_drewN ?_ _ | refine Below.drew ?_ | refine below_alloc ?_ _ | refine Below.alloc ?_ (by first | omega | (simp; done) | (simp; omega)) _ | refine Below.setCell ?_ (by first | omega | (simp; done) | (simp; omega)) _ | (refine Below.trans ?_ (Below.mono (by assumption) (by first | omega | (simp; done) | (simp; omega)))) | refine below_next ?_ (by assumption)))); rintro e w2 ⟨rfl, hb⟩; have hb' := below_more (W0 := wr) (by repeat (first | exact Below.refl _ _ | assumption | refine below_drewN ?_ _ | refine Below.drew ?_ | refine below_alloc ?_ _ | refine Below.alloc ?_ (by first | omega | (simp; done) | (simp; omega)) _ | refine Below.setCell ?_ (by first | omega | (simp; done) | (simp; omega)) _ | (refine Below.trans ?_ (Below.mono (by assumption) (by first | omega | (simp; done) | (simp; omega)))) | refine below_next ?_ (by assumption))) hb; have hb2 := hb; clear hb)
          | (go_at_call_of 39 (Value.agg #[Value.int IntKind.u32 1, Value.int IntKind.u32 0]); refine (HTK1.out _ ?_).mono ?_; (exact (by repeat (first | exact Below.refl _ _ | assumption | refine below_drewN ?_ _ | refine Below.drew ?_ | refine below_alloc ?_ _ | refine Below.alloc ?_ (by first | omega | (simp; done) | (simp; omega)) _ | refine Below.setCell ?_ (by first | omega | (simp; done) | (simp; omega)) _ | (refine Below.trans ?_ (Below.mono (by assumption) (by first | omega | (simp; done) | (simp; omega)))) | refine below_next ?_ (by assumption)))); rintro e w2 ⟨rfl, hb⟩; have hb' := below_more (W0 := wr) (by repeat (first | exact Below.refl _ _ | assumption | refine below_drewN ?_ _ | refine Below.drew ?_ | refine below_alloc ?_ _ | refine Below.alloc ?_ (by first | omega | (simp; done) | (simp; omega)) _ | refine Below.setCell ?_ (by first | omega | (simp; done) | (simp; omega)) _ | (refine Below.trans ?_ (Below.mono (by assumption) (by first | omega | (simp; done) | (simp; omega)))) | refine below_next ?_ (by assumption))) hb; have hb2 := hb; clear hb)
          | (go_at_call 44; refine (begin_any _).mono ?_; rintro e w2 ⟨rfl, hb⟩; have hb' := below_more (W0 := wr) (by repeat (first | exact Below.refl _ _ | assumption | refine below_drewN ?_ _ | refine Below.drew ?_ | refine below_alloc ?_ _ | refine Below.alloc ?_ (by first | omega | (simp; done) | (simp; omega)) _ | refine Below.setCell ?_ (by first | omega | (simp; done) | (simp; omega)) _ | (refine Below.trans ?_ (Below.mono (by assumption) (by first | omega | (simp; done) | (simp; omega)))) | refine below_next ?_ (by assumption))) hb; have hb2 := hb; clear hb)
          | (go_at_call 42; refine (HVL.out _).mono ?_; rintro e w2 ⟨rfl, hb⟩; have hb' := below_more (W0 := wr) (by repeat (first | exact Below.refl _ _ | assumption | refine below_drewN ?_ _ | refine Below.drew ?_ | refine below_alloc ?_ _ | refine Below.alloc ?_ (by first | omega | (simp; done) | (simp; omega)) _ | refine Below.setCell ?_ (by first | omega | (simp; done) | (simp; omega)) _ | (refine Below.trans ?_ (Below.mono (by assumption) (by first | omega | (simp; done) | (simp; omega)))) | refine below_next ?_ (by assumption))) hb; have hb2 := hb; clear hb)
          | (go_at_call 40; refine (HSM.out _ _ ?_).mono ?_; (refine row_then (t := 53) ?_ ?_; (exact HTA.out.below (by repeat (first | exact Below.refl _ _ | assumption | refine below_drewN ?_ _ | refine Below.drew ?_ | refine below_alloc ?_ _ | refine Below.alloc ?_ (by first | omega | (simp; done) | (simp; omega)) _ | refine Below.setCell ?_ (by first | omega | (simp; done) | (simp; omega)) _ | (refine Below.trans ?_ (Below.mono (by assumption) (by first | omega | (simp; done) | (simp; omega)))) | refine below_next ?_ (by assumption)))); (exact (by repeat (first | exact Below.refl _ _ | assumption | refine below_drewN ?_ _ | refine Below.drew ?_ | refine below_alloc ?_ _ | refine Below.alloc ?_ (by first | omega | (simp; done) | (simp; omega)) _ | refine Below.setCell ?_ (by first | omega | (simp; done) | (simp; omega)) _ | (refine Below.trans ?_ (Below.mono (by assumption) (by first | omega | (simp; done) | (simp; omega)))) | refine below_next ?_ (by assumption))))); rintro e w2 ⟨rfl, hb⟩; have hb' := below_more (W0 := wr) (by repeat (first | exact Below.refl _ _ | assumption | refine below_drewN ?_ _ | refine Below.drew ?_ | refine below_alloc ?_ _ | refine Below.alloc ?_ (by first | omega | (simp; done) | (simp; omega)) _ | refine Below.setCell ?_ (by first | omega | (simp; done) | (simp; omega)) _ | (refine Below.trans ?_ (Below.mono (by assumption) (by first | omega | (simp; done) | (simp; omega)))) | refine below_next ?_ (by assumption))) hb; have hb2 := hb; clear hb)
          | (go_at_call 43; refine (one_any _).mono ?_; rintro e w2 ⟨rfl, hb⟩; have hb' := below_more (W0 := wr) (by repeat (first | exact Below.refl _ _ | assumption | refine below_drewN ?_ _ | refine Below.drew ?_ | refine below_alloc ?_ _ | refine Below.alloc ?_ (by first | omega | (simp; done) | (simp; omega)) _ | refine Below.setCell ?_ (by first | omega | (simp; done) | (simp; omega)) _ | (refine Below.trans ?_ (Below.mono (by assumption) (by first | omega | (simp; done) | (simp; omega)))) | refine below_next ?_ (by assumption))) hb; have hb2 := hb; clear hb))
      all_goals go_wp2
      all_goals go_ret
      all_goals exact ⟨rfl, hbel.trans (Below.mono (w := wr) (B := wr.heap.size) (by assumption) hbel.size)⟩
theorem runs_walk (A B : Int) (hA : 0 ≤ A ∧ A ≤ 4294967295) (hB : 0 ≤ B ∧ B ≤ 4294967295) (v : Option Addr) (len cap : Nat) (zs : List Int) (w : World)
    (h : TxtAt w (.slice v len cap) zs ∧ zs.length = len ∧ len ≤ cap ∧ (0 < len → ∃ b off, v = some ⟨b, off, none⟩)) :
    Calls Try.prog 12 #[.slice v len cap, .agg #[.int .u32 A, .int .u32 B]] w fun e w' => e = .returned (.bool true) ∧ Below w.heap.size w w' := by
  obtain ⟨ht, hz, hc, hv⟩ := h
  by_cases hl : len ≤ 1500
  · exact runs_any A B hA.1 hB.1 hA.2 hB.2 v len len cap zs hz (.inl ⟨hl, rfl⟩) hc hl w ht
  · obtain ⟨b, off, rfl, hr⟩ := txt_row ht hz (by omega)
    have h3 : (zs.take 1500).length = 1500 := by simp; omega
    refine runs_any A B hA.1 hB.1 hA.2 hB.2 _ len 1500 cap (zs.take 1500) h3 (.inr ⟨by omega, rfl, hc, b, off, rfl⟩) (by omega) (Nat.le_refl _) w ?_
    have hg : ∀ k, k < 1500 → (zs.take 1500).getD k 0 = zs.getD k 0 := fun k hk => by simp [List.getD, List.getElem?_take, hk]
    refine .inl ⟨b, off, cap, by rw [h3], by omega, ⟨fun k hk => ?_, fun k hk => ?_, fun k hk => ?_, by omega⟩⟩
    · rw [h3] at hk; rw [hg k hk]; exact hr.cell k (by omega)
    · rw [h3] at hk; rw [hg k hk]; exact hr.lo k (by omega)
    · rw [h3] at hk; rw [hg k hk]; exact hr.hi k (by omega)
end Go.Proofs.Ytjpjlfdlhhnpnaa
