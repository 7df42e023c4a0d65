/- The walk of SumTells: any bytes, any running sum. -/
import Derived.Test.YtjpjlfdlhhnpnaaSumC
import Derived.Laws.BytesArg
namespace Go.Proofs.Ytjpjlfdlhhnpnaa
set_option linter.unusedVariables false
open Go.ChangeShapes Go.WideShapes Go.ChangeAt Go.RowKit
attribute [local go_sem ↓] Go.wp_at_zero Go.wp_at_succ

theorem row1 {W : World} {v : Value} {zs : List Int} {t : TypeId} (h : TxtAt W v zs) : TxtRow (W.alloc (.cells #[v] t)) W.heap.size 0 [v] [zs] := {
  len := rfl
  few := by simp
  cell := fun k hk => by
    obtain rfl : k = 0 := by simp at hk; exact hk
    simp [World.cell?_alloc_new]
  txt := fun k hk => by
    obtain rfl : k = 0 := by simp at hk; exact hk
    exact h.below (by repeat (first | exact Below.refl _ _ | assumption | refine below_drewN ?_ _ | refine Below.drew ?_ | refine below_alloc ?_ _ | refine Below.alloc ?_ (by first | omega | (simp; done) | (simp; omega)) _ | refine Below.setCell ?_ (by first | omega | (simp; done) | (simp; omega)) _ | (refine Below.trans ?_ (Below.mono (by assumption) (by first | omega | (simp; done) | (simp; omega)))) | refine below_next ?_ (by assumption))) }
theorem keep2 {W0 W : World} {b : Nat} {v0 v1 : Value} (c0 : W0.cell? ⟨b, 0, none⟩ = some v0) (c1 : W0.cell? ⟨b, 1, none⟩ = some v1) (h : Below W0.heap.size W0 W) :
    W.cell? ⟨b, 0, none⟩ = some v0 ∧ W.cell? ⟨b, 1, none⟩ = some v1 ∧ Below W0.heap.size W0 W :=
  ⟨(h.cell (World.block_lt_of_cell? W0 _ c0)).trans c0, (h.cell (World.block_lt_of_cell? W0 _ c1)).trans c1, h⟩
theorem val_ref {s : ByteArray} {zs : List Int} (h : bytesOf s = zs) (h0 : zs = [] → zs = []) : (sumAll (1, 0) (bytesOf s)).2 * 65536 + (sumAll (1, 0) (bytesOf s)).1 = valI (takes (1, 0) [zs]) := by
  subst h
  obtain ⟨⟨p0, p1⟩, q0, q1⟩ := sumAll_bd (1, 0) (bytesOf s) (by decide)
  have e : takes (1, 0) [bytesOf s] = sumAll (1, 0) (bytesOf s) := by
    simp only [takes, List.foldl, takeI]
    split
    · rename_i h; rw [h]; rfl
    · rfl
  rw [e]
  unfold valI
  omega

set_option maxHeartbeats 4000000 in
theorem tells_short (A B : Int) (A0 : 0 ≤ A) (B0 : 0 ≤ B) (A1 : A ≤ 4294967295) (B1 : B ≤ 4294967295) (b : Option Addr) (n cap : Nat) (zs : List Int) (hn : zs.length = n) (hl : n ≤ 3000) (w : World) (ht : TxtAt w (.slice b n cap) zs) :
    Calls Try.prog 9 #[.slice b n cap, .agg #[.int .u32 A, .int .u32 B]] w fun e w' => e = .returned (.bool true) ∧ Below w.heap.size w w' := by
  obtain ⟨s, hs, hsz, hcv⟩ := txt_convert ht
  have HCV := Lib.hid hcv
  have HS := Lib.hid hs
  have HT := Lib.hid ht
  clear hs hcv ht
  have HN := Lib.hid hn
  have hs9 : s.size ≤ 9223372036854775807 := by omega
  clear hn hsz
  have hno : decide (3000 < (n : Int)) = false := by simp; omega
  obtain ⟨⟨x0, x1⟩, y0, y1⟩ := takeI_bd A B A0 B0 A1 B1 zs
  go_enter Try.func9, Try.ntmps9
  have hc1 := HCV.out (w.alloc (.cells #[.int .u32 A, .int .u32 B] 56)) (by repeat (first | exact Below.refl _ _ | assumption | refine below_drewN ?_ _ | refine Below.drew ?_ | refine below_alloc ?_ _ | refine Below.alloc ?_ (by first | omega | (simp; done) | (simp; omega)) _ | refine Below.setCell ?_ (by first | omega | (simp; done) | (simp; omega)) _ | (refine Below.trans ?_ (Below.mono (by assumption) (by first | omega | (simp; done) | (simp; omega)))) | refine below_next ?_ (by assumption)))
  go_wp2_with fail
  refine (rtake_any A B A0 B0 A1 B1 s hs9 _).mono ?_
  rintro e w' ⟨rfl, rfl⟩
  rw [HS.out]
  go_wp2_with fail
  refine (take_any A B A0 B0 A1 B1 _ zs _ (HT.out.below (by repeat (first | exact Below.refl _ _ | assumption | refine below_drewN ?_ _ | refine Below.drew ?_ | refine below_alloc ?_ _ | refine Below.alloc ?_ (by first | omega | (simp; done) | (simp; omega)) _ | refine Below.setCell ?_ (by first | omega | (simp; done) | (simp; omega)) _ | (refine Below.trans ?_ (Below.mono (by assumption) (by first | omega | (simp; done) | (simp; omega)))) | refine below_next ?_ (by assumption))))).mono ?_
  rintro e w1 ⟨rfl, hb1⟩
  have hbel1 : Below w.heap.size w w1 := ((Below.refl _ _).alloc (Nat.le_refl _) _).trans (hb1.mono (by simp))
  clear hb1 hc1
  have hV := Lib.hid (val_ref HS.out id)
  generalize (takeI A B zs).1 = X at *
  generalize (takeI A B zs).2 = Y at *
  go_upto_region 5 with fail
  have c0 : (w1.alloc (.cells #[.int .u32 X, .int .u32 Y] 56)).cell? ⟨w1.heap.size, 0, none⟩ = some (.int .u32 X) := by go_simp
  have c1 : (w1.alloc (.cells #[.int .u32 X, .int .u32 Y] 56)).cell? ⟨w1.heap.size, 1, none⟩ = some (.int .u32 Y) := by go_simp
  have hbel2 : Below w.heap.size w (w1.alloc (.cells #[.int .u32 X, .int .u32 Y] 56)) := hbel1.alloc hbel1.size _
  clear hbel1
  generalize w1.alloc (.cells #[.int .u32 X, .int .u32 Y] 56) = W0 at *
  generalize w1.heap.size = g at *
  have HC := Lib.hid (fun W h => HCV.out W (hbel2.trans (Below.mono h hbel2.size)))
  have HT2 := Lib.hid (HT.out.below hbel2)
  have hcc : ∀ W, Below W0.heap.size W0 W → Sem.run Try.prog (convert 53 9 (.slice b n cap)) W = .ok (.string s) W := HC.out
  have hone : 0 < [zs].length := by simp
  have hvc : ∀ W : World, Calls Try.prog 42 #[.agg #[.int .u32 X, .int .u32 Y]] W fun e w' => e = .returned (.int .u32 (IntKind.u32.wrap (IntKind.u32.wrap (65536 * Y) + X))) ∧ Below W.heap.size W w' := fun W => by
    rw [show IntKind.u32.wrap (IntKind.u32.wrap (65536 * Y) + X) = (Y * 65536 + X) % 4294967296 by simp only [IntKind.wrap_u32']; omega]
    exact value_any X Y x0 y0 x1 y1 W
  generalize e1 : IntKind.u32.wrap (65536 * Y) = M at hvc
  generalize e2 : IntKind.u32.wrap (M + X) = V at hvc
  have HVC := Lib.hid hvc
  clear hvc
  go_region_held3 (fun w' => w'.cell? ⟨g, 0, none⟩ = some (.int .u32 X) ∧ w'.cell? ⟨g, 1, none⟩ = some (.int .u32 Y) ∧ Below W0.heap.size W0 w') (exact keep2 c0 c1 (by repeat (first | exact Below.refl _ _ | assumption | refine below_drewN ?_ _ | refine Below.drew ?_ | refine below_alloc ?_ _ | refine Below.alloc ?_ (by first | omega | (simp; done) | (simp; omega)) _ | refine Below.setCell ?_ (by first | omega | (simp; done) | (simp; omega)) _ | (refine Below.trans ?_ (Below.mono (by assumption) (by first | omega | (simp; done) | (simp; omega)))) | refine below_next ?_ (by assumption))))
    (first
      | (go_at_call 40; refine (sum_some W0.heap.size 0 1 [.slice b n cap] [zs] hone _ ?_).mono ?_; (exact (row1 HT2.out).below ((Below.refl _ _).drew)); rintro e w2 ⟨rfl, hb⟩; have hb' := below_next (W0 := W0) (by repeat (first | exact Below.refl _ _ | assumption | refine below_drewN ?_ _ | refine Below.drew ?_ | refine below_alloc ?_ _ | refine Below.alloc ?_ (by first | omega | (simp; done) | (simp; omega)) _ | refine Below.setCell ?_ (by first | omega | (simp; done) | (simp; omega)) _ | (refine Below.trans ?_ (Below.mono (by assumption) (by first | omega | (simp; done) | (simp; omega)))) | refine below_next ?_ (by assumption))) hb; clear hb)
      | (go_at_call 41; refine (rsum_any s hs9 _).mono ?_; rintro e w2 ⟨rfl, rfl⟩; rw [hV.out])
      | (go_at_call 42; refine (HVC.out _).mono ?_; rintro e w2 ⟨rfl, hb⟩; have hb' := below_next (W0 := W0) (by repeat (first | exact Below.refl _ _ | assumption | refine below_drewN ?_ _ | refine Below.drew ?_ | refine below_alloc ?_ _ | refine Below.alloc ?_ (by first | omega | (simp; done) | (simp; omega)) _ | refine Below.setCell ?_ (by first | omega | (simp; done) | (simp; omega)) _ | (refine Below.trans ?_ (Below.mono (by assumption) (by first | omega | (simp; done) | (simp; omega)))) | refine below_next ?_ (by assumption))) hb; clear hb)
      | (go_at_call 43; refine (one_any _).mono ?_; rintro e w2 ⟨rfl, hb⟩; have hb' := below_next (W0 := W0) (by repeat (first | exact Below.refl _ _ | assumption | refine below_drewN ?_ _ | refine Below.drew ?_ | refine below_alloc ?_ _ | refine Below.alloc ?_ (by first | omega | (simp; done) | (simp; omega)) _ | refine Below.setCell ?_ (by first | omega | (simp; done) | (simp; omega)) _ | (refine Below.trans ?_ (Below.mono (by assumption) (by first | omega | (simp; done) | (simp; omega)))) | refine below_next ?_ (by assumption))) hb; clear hb))
  go_wp2
  go_ret
  exact ⟨rfl, hbel2.trans (Below.mono (w := W0) (B := W0.heap.size) (by assumption) hbel2.size)⟩
set_option maxHeartbeats 4000000 in
theorem tells_long (A B : Int) (A0 : 0 ≤ A) (B0 : 0 ≤ B) (A1 : A ≤ 4294967295) (B1 : B ≤ 4294967295) (bb off n0 cap : Nat) (zs : List Int) (hn : zs.length = 3000) (hl : 3000 < n0) (hc : n0 ≤ cap) (w : World) (ht : TxtAt w (.slice (some ⟨bb, off, none⟩) 3000 cap) zs) :
    Calls Try.prog 9 #[.slice (some ⟨bb, off, none⟩) n0 cap, .agg #[.int .u32 A, .int .u32 B]] w fun e w' => e = .returned (.bool true) ∧ Below w.heap.size w w' := by
  obtain ⟨s, hs, hsz, hcv⟩ := txt_convert ht
  have HCV := Lib.hid hcv
  have HS := Lib.hid hs
  have HT := Lib.hid ht
  clear hs hcv ht
  have HN := Lib.hid hn
  have hs9 : s.size ≤ 9223372036854775807 := by omega
  clear hn hsz
  have hno : decide (3000 < (n0 : Int)) = true := by simp; omega
  have hcap : (3000 : Int) ≤ (cap : Int) := by omega
  obtain ⟨⟨x0, x1⟩, y0, y1⟩ := takeI_bd A B A0 B0 A1 B1 zs
  go_enter Try.func9, Try.ntmps9
  have hc1 := HCV.out (w.alloc (.cells #[.int .u32 A, .int .u32 B] 56)) (by repeat (first | exact Below.refl _ _ | assumption | refine below_drewN ?_ _ | refine Below.drew ?_ | refine below_alloc ?_ _ | refine Below.alloc ?_ (by first | omega | (simp; done) | (simp; omega)) _ | refine Below.setCell ?_ (by first | omega | (simp; done) | (simp; omega)) _ | (refine Below.trans ?_ (Below.mono (by assumption) (by first | omega | (simp; done) | (simp; omega)))) | refine below_next ?_ (by assumption)))
  go_wp2_with fail
  refine (rtake_any A B A0 B0 A1 B1 s hs9 _).mono ?_
  rintro e w' ⟨rfl, rfl⟩
  rw [HS.out]
  go_wp2_with fail
  refine (take_any A B A0 B0 A1 B1 _ zs _ (HT.out.below (by repeat (first | exact Below.refl _ _ | assumption | refine below_drewN ?_ _ | refine Below.drew ?_ | refine below_alloc ?_ _ | refine Below.alloc ?_ (by first | omega | (simp; done) | (simp; omega)) _ | refine Below.setCell ?_ (by first | omega | (simp; done) | (simp; omega)) _ | (refine Below.trans ?_ (Below.mono (by assumption) (by first | omega | (simp; done) | (simp; omega)))) | refine below_next ?_ (by assumption))))).mono ?_
  rintro e w1 ⟨rfl, hb1⟩
  have hbel1 : Below w.heap.size w w1 := ((Below.refl _ _).alloc (Nat.le_refl _) _).trans (hb1.mono (by simp))
  clear hb1 hc1
  have hV := Lib.hid (val_ref HS.out id)
  generalize (takeI A B zs).1 = X at *
  generalize (takeI A B zs).2 = Y at *
  go_upto_region 5 with fail
  have c0 : (w1.alloc (.cells #[.int .u32 X, .int .u32 Y] 56)).cell? ⟨w1.heap.size, 0, none⟩ = some (.int .u32 X) := by go_simp
  have c1 : (w1.alloc (.cells #[.int .u32 X, .int .u32 Y] 56)).cell? ⟨w1.heap.size, 1, none⟩ = some (.int .u32 Y) := by go_simp
  have hbel2 : Below w.heap.size w (w1.alloc (.cells #[.int .u32 X, .int .u32 Y] 56)) := hbel1.alloc hbel1.size _
  clear hbel1
  generalize w1.alloc (.cells #[.int .u32 X, .int .u32 Y] 56) = W0 at *
  generalize w1.heap.size = g at *
  have HC := Lib.hid (fun W h => HCV.out W (hbel2.trans (Below.mono h hbel2.size)))
  have HT2 := Lib.hid (HT.out.below hbel2)
  have hcc : ∀ W, Below W0.heap.size W0 W → Sem.run Try.prog (convert 53 9 (.slice (some ⟨bb, off, none⟩) 3000 cap)) W = .ok (.string s) W := HC.out
  have hone : 0 < [zs].length := by simp
  have hvc : ∀ W : World, Calls Try.prog 42 #[.agg #[.int .u32 X, .int .u32 Y]] W fun e w' => e = .returned (.int .u32 (IntKind.u32.wrap (IntKind.u32.wrap (65536 * Y) + X))) ∧ Below W.heap.size W w' := fun W => by
    rw [show IntKind.u32.wrap (IntKind.u32.wrap (65536 * Y) + X) = (Y * 65536 + X) % 4294967296 by simp only [IntKind.wrap_u32']; omega]
    exact value_any X Y x0 y0 x1 y1 W
  generalize e1 : IntKind.u32.wrap (65536 * Y) = M at hvc
  generalize e2 : IntKind.u32.wrap (M + X) = V at hvc
  have HVC := Lib.hid hvc
  clear hvc
  go_region_held3 (fun w' => w'.cell? ⟨g, 0, none⟩ = some (.int .u32 X) ∧ w'.cell? ⟨g, 1, none⟩ = some (.int .u32 Y) ∧ Below W0.heap.size W0 w') (exact keep2 c0 c1 (by repeat (first | exact Below.refl _ _ | assumption | refine below_drewN ?_ _ | refine Below.drew ?_ | refine below_alloc ?_ _ | refine Below.alloc ?_ (by first | omega | (simp; done) | (simp; omega)) _ | refine Below.setCell ?_ (by first | omega | (simp; done) | (simp; omega)) _ | (refine Below.trans ?_ (Below.mono (by assumption) (by first | omega | (simp; done) | (simp; omega)))) | refine below_next ?_ (by assumption))))
    (first
      | (go_at_call 40; refine (sum_some W0.heap.size 0 1 [.slice (some ⟨bb, off, none⟩) 3000 cap] [zs] hone _ ?_).mono ?_; (exact (row1 HT2.out).below ((Below.refl _ _).drew)); rintro e w2 ⟨rfl, hb⟩; have hb' := below_next (W0 := W0) (by repeat (first | exact Below.refl _ _ | assumption | refine below_drewN ?_ _ | refine Below.drew ?_ | refine below_alloc ?_ _ | refine Below.alloc ?_ (by first | omega | (simp; done) | (simp; omega)) _ | refine Below.setCell ?_ (by first | omega | (simp; done) | (simp; omega)) _ | (refine Below.trans ?_ (Below.mono (by assumption) (by first | omega | (simp; done) | (simp; omega)))) | refine below_next ?_ (by assumption))) hb; clear hb)
      | (go_at_call 41; refine (rsum_any s hs9 _).mono ?_; rintro e w2 ⟨rfl, rfl⟩; rw [hV.out])
      | (go_at_call 42; refine (HVC.out _).mono ?_; rintro e w2 ⟨rfl, hb⟩; have hb' := below_next (W0 := W0) (by repeat (first | exact Below.refl _ _ | assumption | refine below_drewN ?_ _ | refine Below.drew ?_ | refine below_alloc ?_ _ | refine Below.alloc ?_ (by first | omega | (simp; done) | (simp; omega)) _ | refine Below.setCell ?_ (by first | omega | (simp; done) | (simp; omega)) _ | (refine Below.trans ?_ (Below.mono (by assumption) (by first | omega | (simp; done) | (simp; omega)))) | refine below_next ?_ (by assumption))) hb; clear hb)
      | (go_at_call 43; refine (one_any _).mono ?_; rintro e w2 ⟨rfl, hb⟩; have hb' := below_next (W0 := W0) (by repeat (first | exact Below.refl _ _ | assumption | refine below_drewN ?_ _ | refine Below.drew ?_ | refine below_alloc ?_ _ | refine Below.alloc ?_ (by first | omega | (simp; done) | (simp; omega)) _ | refine Below.setCell ?_ (by first | omega | (simp; done) | (simp; omega)) _ | (refine Below.trans ?_ (Below.mono (by assumption) (by first | omega | (simp; done) | (simp; omega)))) | refine below_next ?_ (by assumption))) hb; clear hb))
  go_wp2
  go_ret
  exact ⟨rfl, hbel2.trans (Below.mono (w := W0) (B := W0.heap.size) (by assumption) hbel2.size)⟩
theorem tells_walk (A B : Int) (hA : 0 ≤ A ∧ A ≤ 4294967295) (hB : 0 ≤ B ∧ B ≤ 4294967295) (v : Option Addr) (len cap : Nat) (zs : List Int) (w : World)
    (h : TxtAt w (.slice v len cap) zs ∧ zs.length = len ∧ len ≤ cap ∧ (0 < len → ∃ b off, v = some ⟨b, off, none⟩)) :
    Calls Try.prog 9 #[.slice v len cap, .agg #[.int .u32 A, .int .u32 B]] w fun e w' => e = .returned (.bool true) ∧ Below w.heap.size w w' := by
  obtain ⟨ht, hz, hc, hv⟩ := h
  by_cases hl : len ≤ 3000
  · exact tells_short A B hA.1 hB.1 hA.2 hB.2 v len cap zs hz hl w ht
  · obtain ⟨b, off, rfl⟩ := hv (by omega)
    refine tells_long A B hA.1 hB.1 hA.2 hB.2 b off len cap (zs.take 3000) (by simp; omega) (by omega) hc w ?_
    rcases ht with ⟨b', off', cap', he, h1, h2⟩ | ⟨he, _⟩
    · simp only [Value.slice.injEq, Option.some.injEq, Addr.mk.injEq] at he
      obtain ⟨⟨rfl, rfl, _⟩, _, rfl⟩ := he
      have h3 : (zs.take 3000).length = 3000 := by simp; omega
      have hg : ∀ k, k < 3000 → (zs.take 3000).getD k 0 = zs.getD k 0 := fun k hk => by simp [List.getD, List.getElem?_take, hk]
      refine .inl ⟨_, _, _, by rw [h3], by omega, ⟨fun k hk => ?_, fun k hk => ?_, fun k hk => ?_, by omega⟩⟩
      · rw [h3] at hk; rw [hg k hk]; exact h2.cell k (by omega)
      · rw [h3] at hk; rw [hg k hk]; exact h2.lo k (by omega)
      · rw [h3] at hk; rw [hg k hk]; exact h2.hi k (by omega)
    · subst he; simp at hz; omega
end Go.Proofs.Ytjpjlfdlhhnpnaa
