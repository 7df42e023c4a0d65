/- SnapsOpens walked. Condition: errors.errorType reads as the program's text lays it. -/
import Derived.Test.YtomhfnaekjmjnaaDoorMao
import Derived.Test.YtomhfnaekjmjnaaDoorMal
import Derived.Test.YtomhfnaekjmjnaaDoorMac
import Derived.BigQuiet
import Derived.Deep.CutBlock
namespace Go.Proofs.YtomhfnaekjmjnaaDoor
set_option linter.unusedVariables false
open Go.ChangeShapes Go.WideShapes Go.ChangeAt Go.RowKit
attribute [local go_sem ↓] Go.wp_at_zero Go.wp_at_succ comesTo_value_eq comesTo_skip_eq comesTo_enter_eq Rl.comesToR_value_eq Rl.comesToR_skip_eq Rl.comesToR_enter_eq

theorem step_of {st : SS} {i : Int} {xs : List Int} (h : 0 ≤ st.gen) : stepS st i xs = match ofF xs with
    | some r => if st.gen < r.1 then { st with last := i, text := r.2, gen := r.1 } else st
    | none => st := by
  unfold stepS ofF
  cases onlyF xs with
  | none => rfl
  | some r =>
    by_cases h1 : 1 ≤ r.1
    · simp only [if_pos h1]
    · simp only [if_neg h1]
      rw [if_neg (by omega)]
theorem ofF_pos {xs : List Int} {r : JRec} (h : ofF xs = some r) : 1 ≤ r.1 := by
  unfold ofF at h
  cases ho : onlyF xs with
  | none => rw [ho] at h; cases h
  | some q =>
    rw [ho] at h
    simp only at h
    by_cases h1 : 1 ≤ q.1
    · rw [if_pos h1] at h; cases h; exact h1
    · rw [if_neg h1] at h; cases h
theorem open_last (ds : DS) : (openS ds 0 1).text = (lastG (ds.b 0) (ds.b 1)).1.2 ∧ (openS ds 0 1).gen = (lastG (ds.b 0) (ds.b 1)).1.1 ∧
    (if (openS ds 0 1).last = -1 then (-1 : Int) else if (openS ds 0 1).last = 0 then (openS ds 0 1).f0 else (openS ds 0 1).f1) = (lastG (ds.b 0) (ds.b 1)).2 := by
  unfold openS
  rw [show (0 : Int).toNat = 0 from rfl, show (1 : Int).toNat = 1 from rfl, step_of (st := ⟨0, 1, -1, [], 0, false⟩) (by show (0 : Int) ≤ 0; decide)]
  unfold lastG ofG
  generalize ds.b 0 = xs
  generalize ds.b 1 = ys
  cases hx : ofF xs with
  | none =>
    simp only
    rw [step_of (st := ⟨0, 1, -1, [], 0, false⟩) (by show (0 : Int) ≤ 0; decide)]
    cases hy : ofF ys with
    | none => simp
    | some q =>
      have := ofF_pos hy
      simp only
      rw [if_pos (show (0 : Int) < q.1 by omega)]
      simp
  | some r =>
    have h1 := ofF_pos hx
    simp only
    rw [if_pos (show (0 : Int) < r.1 by omega), step_of (st := ⟨0, 1, 0, r.2, r.1, false⟩) (by show (0 : Int) ≤ r.1; omega)]
    cases hy : ofF ys with
    | none => simp
    | some q =>
      simp only
      by_cases h2 : r.1 < q.1
      · rw [if_pos h2, if_neg (by simp; omega)]
        simp
      · rw [if_neg h2, if_pos (by simp; omega)]
        simp
theorem deed_dn (ds : DS) (q k : Nat) (ys : List Int) : (ds.deed q k ys).down = ds.down := by unfold DS.deed; split <;> rfl
theorem callF_inv {ds : DS} (f : Int) (xs : List Int) (hd : ds.down = false) (hl : ds.left = -1) : (callF 0 ds f xs).1.down = false ∧ (callF 0 ds f xs).1.left = -1 := by
  unfold callF
  split
  · exact ⟨hd, hl⟩
  split
  · exact ⟨hd, hl⟩
  rw [if_neg (by omega)]
  refine ⟨(deed_dn ds 0 f.toNat xs).trans hd, ?_⟩
  show (if 0 < ds.left then ds.left - 1 else ds.left) = -1
  rw [hl]
  rfl
/-- a disk that is up -/
def DInv (B D : Nat) (w : World) : Prop := ∃ ds, Dk w D (fun j => B ≤ j) ds ∧ ds.down = false ∧ ds.left = -1
theorem append_inv {B D : Nat} {w : World} (h : DInv B D w) (hB : B ≤ w.heap.size) (f : Int) (ad : Option Addr) (n c : Nat) (xs : List Int) (hn : n = xs.length) (hX : ∀ w', Below B w w' → TxtAt w' (.slice ad n c) xs) (hxl : xs.length ≤ 140737487306752) :
    Calls Tryd.prog 33 #[.pointer (some ⟨D, 0, none⟩), .int .i64 f, .slice ad n c] w fun e w' => ∃ v, e = .returned v ∧ DInv B D w' ∧ Fr (fun j => B ≤ j) w w' := by
  obtain ⟨ds, hd, h1, h2⟩ := h
  refine (append_dk hd f ad n c xs hn (fun w' hf => hX w' (hf.below hB (fun j hj => hj))) hxl).mono ?_
  rintro e w' ⟨rfl, hd', hf⟩
  have := callF_inv f xs h1 h2
  exact ⟨_, rfl, ⟨_, hd'.more (fun j hj => by rcases hj with hj | hj; exact hj; omega), this.1, this.2⟩, hf⟩
/-- what may happen to the disk -/
def GrD (B D : Nat) (a b : World) : Prop := Fr (fun j => B ≤ j) a b ∧ (DInv B D a → DInv B D b)
theorem GrD.refl (B D : Nat) (a : World) : GrD B D a a := ⟨Fr.refl _ _, id⟩
theorem GrD.trans {B D : Nat} {a b c : World} (h : GrD B D a b) (h' : GrD B D b c) : GrD B D a c :=
  ⟨⟨h'.1.os.trans h.1.os, h'.1.tape.trans h.1.tape, h'.1.output.trans h.1.output, Nat.le_trans h.1.size h'.1.size, fun j hj hn => (h'.1.block j (Nat.lt_of_lt_of_le hj h.1.size) hn).trans (h.1.block j hj hn)⟩, fun x => h'.2 (h.2 x)⟩
theorem GrD.drew (B D : Nat) (a : World) : GrD B D a a.drew := ⟨(Fr.refl _ _).drew, fun ⟨ds, h, h1, h2⟩ => ⟨ds, Fr.dk (G := fun _ => False) h (Fr.refl _ _).drew (fun _ _ _ => id), h1, h2⟩⟩
set_option maxRecDepth 100000 in
set_option maxHeartbeats 8000000 in
theorem sopens_any (ax : Option Addr) (nx cx : Nat) (xs : List Int) (ay : Option Addr) (ny cy : Nat) (ys : List Int) (ad : Option Addr) (ll lcap : Nat) (A : Nat → ActV) (W : World)
    (hX : TxtAt W (.slice ax nx cx) xs) (hY : TxtAt W (.slice ay ny cy) ys) (hnx : nx = xs.length) (hny : ny = ys.length) (hA : ActsAt W ad ll A) (hE : ErrAt W) :
    Calls Tryd.prog 9 #[.slice ax nx cx, .slice ay ny cy, .slice ad ll lcap] W fun e W' => e = .returned (.bool true) ∧ Below W.heap.size W W' := by
  have hmx : Tryd.prog.follows .mixedOrders = true := by kernel_rfl
  have HX := Lib.hid hX
  have HY := Lib.hid hY
  have HA := Lib.hid hA
  have HN := Lib.hid (And.intro hnx hny)
  have HE := Lib.hid (fun X (hX : Below W.heap.size W X) => hE.below hX)
  clear hA hE hX hY hnx hny
  by_cases h1 : 1000 < nx
  · have hd : decide ((nx : Int) > 1000) = true := decide_eq_true (by omega)
    have hd2 : decide (1000 < nx) = true := decide_eq_true h1
    clear h1
    go_enter Tryd.func9, Tryd.ntmps9
    go_wp2_with fail
    go_ret
    exact ⟨rfl, Below.refl _ _⟩
  have hd1 : decide ((nx : Int) > 1000) = false := decide_eq_false (by omega)
  have hd2 : decide (1000 < nx) = false := decide_eq_false h1
  by_cases h2 : 1000 < ny
  · have hd : decide ((ny : Int) > 1000) = true := decide_eq_true (by omega)
    have hd3 : decide (1000 < ny) = true := decide_eq_true h2
    clear h1 h2
    go_enter Tryd.func9, Tryd.ntmps9
    go_wp2_with fail
    go_ret
    exact ⟨rfl, Below.refl _ _⟩
  have hd3 : decide ((ny : Int) > 1000) = false := decide_eq_false (by omega)
  have hd4 : decide (1000 < ny) = false := decide_eq_false h2
  have HLN := Lib.hid (And.intro h1 h2)
  clear h1 h2
  go_enter Tryd.func9, Tryd.ntmps9
  go_wp2_with fail
  refine (new_any W).mono ?_
  rintro e w1 ⟨D, rfl, hd, hb⟩
  have KA := Lib.hid (append_inv (B := W.heap.size) (w := w1) (D := D) ⟨_, hd, rfl, rfl⟩ hb.size 0 ax nx cx xs HN.out.1 (fun w' hb' => HX.out.below (hb.trans hb')) (by have := HN.out; have := HLN.out; omega))
  have HB1 := Lib.hid hb
  clear hd hb
  go_wp2_with fail
  refine KA.out.mono ?_
  rintro e w2 ⟨v2, rfl, hi2, hf2⟩
  have hb2 : Below W.heap.size W w2 := HB1.out.trans (hf2.below HB1.out.size (fun j hj => hj))
  have KB := Lib.hid (append_inv hi2 hb2.size 1 ay ny cy ys HN.out.2 (fun w' hb' => HY.out.below (hb2.trans hb')) (by have := HN.out; have := HLN.out; omega))
  have HB2 := Lib.hid hb2
  clear hi2 hf2 hb2 KA
  go_wp2_with fail
  refine KB.out.mono ?_
  rintro e w3 ⟨v3, rfl, hi3, hf3⟩
  have HG3 := Lib.hid (And.intro hi3 (HB2.out.trans (hf3.below HB2.out.size (fun j hj => hj))))
  clear hi3 hf3 KB
  go_upto_block 0 with fail
  go_cut [] (fun wx => DInv W.heap.size D wx ∧ Below W.heap.size W wx)
  case first =>
    go_wp2_with fail
    go_loopw [8] (fun i wr => ∃ k : Nat, k ≤ 10 ∧ k ≤ ll ∧ i = .int .i64 k ∧ DInv W.heap.size D wr ∧ Below W.heap.size W wr) (fun i _ => 10 - (intOf i).toNat)
    case atStart => exact ⟨0, by decide, Nat.zero_le _, rfl, HG3.out⟩
    case round =>
      obtain ⟨k, hk10, hkl, rfl, hst⟩ := hrel
      have HST := Lib.hid hst
      clear hst HG3
      by_cases hlt : k < ll ∧ k < 10
      case neg =>
        rcases (by omega : ¬ k < ll ∨ k < ll ∧ k = 10) with hx | ⟨hx, rfl⟩
        · have hdk : decide (k < ll) = false := decide_eq_false (by omega)
          clear hlt
          go_wp2_with fail
          go_meet
          exact HST.out
        · have hdk : decide (10 < ll) = true := decide_eq_true (by omega)
          clear hlt
          go_wp2_with fail
          go_meet
          exact HST.out
      case pos =>
        obtain ⟨b0, off, rfl, hrow⟩ := HA.out.2 (by omega)
        have hc := hrow k hlt.1
        obtain ⟨a, ha⟩ : ∃ a, a = A k := ⟨_, rfl⟩
        rw [← ha] at hc
        obtain ⟨kind, f, n, bs, keep⟩ := a
        obtain ⟨g0, g1, _, ⟨sad, sc, g3, gt, _, _⟩, _, _, _, _, _⟩ := hc
        have hcl : ∀ X, Below W.heap.size W X → X.cell? ⟨b0, off + k * 8, none⟩ = some (.int .i64 kind) ∧ X.cell? ⟨b0, off + k * 8 + 1, none⟩ = some (.int .i64 f) ∧ X.cell? ⟨b0, off + k * 8 + 3, none⟩ = some (.slice sad bs.length sc) := fun X hX =>
          ⟨(hX.cell (p := ⟨b0, off + k * 8, none⟩) (World.block_lt_of_cell? W _ g0)).trans g0, (hX.cell (p := ⟨b0, off + k * 8 + 1, none⟩) (World.block_lt_of_cell? W _ g1)).trans g1, (hX.cell (p := ⟨b0, off + k * 8 + 3, none⟩) (World.block_lt_of_cell? W _ g3)).trans g3⟩
        obtain ⟨m, hm⟩ : ∃ m, m = bs.length := ⟨_, rfl⟩
        rw [← hm] at hcl
        have HCL := Lib.hid hcl
        have HM := Lib.hid hm
        have HGT := Lib.hid (fun X (hX : Below W.heap.size W X) => by have h := TxtAt.below gt hX; simp only at h; rw [← hm] at h; exact h)
        obtain ⟨q0, q1, q3⟩ := hcl wr HST.out.2
        have hdk : decide (k < ll) = true := decide_eq_true hlt.1
        have hdk2 : decide ((k : Int) < 10) = true := decide_eq_true (by omega)
        have hix : (k : Int) < (ll : Int) := by omega
        have hwk : IntKind.i64.wrap ((k : Int) + 1) = ((k + 1 : Nat) : Int) := by rw [IntKind.wrap_i64]; omega
        have HLT := Lib.hid (And.intro hlt (And.intro hk10 hkl))
        clear g0 g1 g3 gt hcl hm hlt hk10 hkl hrow ha
        by_cases hkd : kind = 0
        case neg =>
          have hq : (kind == 0) = false := by simpa using hkd
          clear hkd
          go_wp2_with fail
          go_roundw
          case rel => exact ⟨k + 1, by have := HLT.out; omega, by have := HLT.out; omega, by go_num, HST.out⟩
          case measure => have := HLT.out; simp [intOf]; omega
        case pos =>
        have hq : (kind == 0) = true := by simpa using hkd
        by_cases hml : m < 100
        case neg =>
          have hml2 : decide ((m : Int) < 100) = false := decide_eq_false (by omega)
          have hml3 : decide (m < 100) = false := decide_eq_false hml
          clear hkd hml
          go_wp2_with fail
          go_roundw
          case rel => exact ⟨k + 1, by have := HLT.out; omega, by have := HLT.out; omega, by go_num, HST.out⟩
          case measure => have := HLT.out; simp [intOf]; omega
        case pos =>
        have hml2 : decide ((m : Int) < 100) = true := decide_eq_true (by omega)
        have hml3 : decide (m < 100) = true := decide_eq_true hml
        have HML := Lib.hid hml
        clear hkd hml
        go_upto_region 10 with fail
        have HBG := Lib.hid (fun X (hS : GrD W.heap.size D wr X) => HST.out.2.trans (hS.1.below HST.out.2.size (fun j hj => hj)))
        refine Rl.wp_region_rel (GrD W.heap.size D) wr (fun a b c h h' => h.trans h') (fun a => GrD.refl _ _ a) hmx (by kernel_rfl) (GrD.drew _ _ wr) ?_
        (refine Rl.textR_run ?_ (fun ρ => ?_) (fun ρ W1 hS hd => ?_) ?_; rotate_left; (focus go_simp); (focus (go_simp; first | exact ⟨rfl, GrD.refl _ _ _⟩ | (refine ⟨?_, GrD.refl _ _ _⟩; rfl) | exact GrD.refl _ _ _)); (try go_simp))
        (refine Rl.textR_run ?_ (fun ρ => ?_) (fun ρ W1 hS hd => ?_) ?_; rotate_left; (focus go_simp); (focus (go_simp; first | exact ⟨rfl, GrD.refl _ _ _⟩ | (refine ⟨?_, GrD.refl _ _ _⟩; rfl) | exact GrD.refl _ _ _)); (try go_simp))
        (refine Rl.textR_run ?_ (fun ρ => ?_) (fun ρ W1 hS hd => ?_) ?_; rotate_left; (focus go_simp); (focus (go_simp; first | exact ⟨rfl, GrD.refl _ _ _⟩ | (refine ⟨?_, GrD.refl _ _ _⟩; rfl) | exact GrD.refl _ _ _)); (try go_simp))
        (refine Rl.textR_run ?_ (fun ρ => ?_) (fun ρ W1 hS hd => ?_) ?_; rotate_left; (focus go_simp); (focus (go_simp; first | exact ⟨rfl, GrD.refl _ _ _⟩ | (refine ⟨?_, GrD.refl _ _ _⟩; rfl) | exact GrD.refl _ _ _)); (try go_simp))
        (refine Rl.textR_run ?_ (fun ρ => ?_) (fun ρ W1 hS hd => ?_) ?_; rotate_left; (focus go_simp); (focus (go_simp; first | exact ⟨rfl, GrD.refl _ _ _⟩ | (refine ⟨?_, GrD.refl _ _ _⟩; rfl) | exact GrD.refl _ _ _)); (try go_simp))
        (refine Rl.textR_run ?_ (fun ρ => ?_) (fun ρ W1 hS hd => ?_) ?_; rotate_left; (focus go_simp); (focus (have hfact := (HCL.out W1 (HBG.out W1 hS)).2.1; go_simp; first | exact ⟨rfl, GrD.refl _ _ _⟩ | (refine ⟨?_, GrD.refl _ _ _⟩; rfl) | exact GrD.refl _ _ _)); (try go_simp))
        (refine Rl.textR_run ?_ (fun ρ => ?_) (fun ρ W1 hS hd => ?_) ?_; rotate_left; (focus go_simp); (focus (go_simp; first | exact ⟨rfl, GrD.refl _ _ _⟩ | (refine ⟨?_, GrD.refl _ _ _⟩; rfl) | exact GrD.refl _ _ _)); (try go_simp))
        (refine Rl.textR_run ?_ (fun ρ => ?_) (fun ρ W1 hS hd => ?_) ?_; rotate_left; (focus go_simp); (focus (go_simp; first | exact ⟨rfl, GrD.refl _ _ _⟩ | (refine ⟨?_, GrD.refl _ _ _⟩; rfl) | exact GrD.refl _ _ _)); (try go_simp))
        (refine Rl.textR_run ?_ (fun ρ => ?_) (fun ρ W1 hS hd => ?_) ?_; rotate_left; (focus go_simp); (focus (go_simp; first | exact ⟨rfl, GrD.refl _ _ _⟩ | (refine ⟨?_, GrD.refl _ _ _⟩; rfl) | exact GrD.refl _ _ _)); (try go_simp))
        (refine Rl.textR_run ?_ (fun ρ => ?_) (fun ρ W1 hS hd => ?_) ?_; rotate_left; (focus go_simp); (focus (go_simp; first | exact ⟨rfl, GrD.refl _ _ _⟩ | (refine ⟨?_, GrD.refl _ _ _⟩; rfl) | exact GrD.refl _ _ _)); (try go_simp))
        (refine Rl.textR_run ?_ (fun ρ => ?_) (fun ρ W1 hS hd => ?_) ?_; rotate_left; (focus go_simp); (focus (have hfact := (HCL.out W1 (HBG.out W1 hS)).2.2; go_simp; first | exact ⟨rfl, GrD.refl _ _ _⟩ | (refine ⟨?_, GrD.refl _ _ _⟩; rfl) | exact GrD.refl _ _ _)); (try go_simp))
        refine Rl.textR_rel 70 (fun v w => True) rfl (fun _ _ _ _ _ => trivial) (fun ρ => ?_) (fun ρ W1 hS hd => ?_) ?_
        · go_simp
        · go_simp
          refine (append_inv (hS.2 HST.out.1) (HBG.out W1 hS).size f sad m sc bs HM.out (fun w' hb' => HGT.out w' ((HBG.out W1 hS).trans hb')) (by have := HM.out; have := HML.out; omega)).mono ?_
          rintro e w1 ⟨v, rfl, hi, hf⟩
          exact ⟨⟨v, rfl⟩, hf, fun _ => hi⟩
        (try go_simp)
        refine Rl.textR_nil ?_
        intro ρ wA hgA hkA
        dsimp only
        generalize ρ 70 = r70 at *
        have HGA := Lib.hid (And.intro (hgA.2 HST.out.1) (HBG.out wA hgA))
        clear hgA hkA
        go_simp
        go_wp2_with fail
        go_roundw
        case rel => exact ⟨k + 1, by have := HLT.out; omega, by have := HLT.out; omega, by go_num, HGA.out⟩
        case measure => have := HLT.out; simp [intOf]; omega
  case rest =>
    obtain ⟨⟨ds, hd, hdn, hlf⟩, hbc⟩ := hcut
    have hfit := hd.fits
    have KR0 := Lib.hid (read_dk hd 0)
    have KR1 := Lib.hid (fun X (hX : Below wc.heap.size wc X) => read_dk (hd.below hX) 1)
    have KO := Lib.hid (fun X (hX : Below wc.heap.size wc X) => sopen_any (hd.below hX) (HE.out X (hbc.trans (hX.mono hbc.size))) 0 1)
    unfold ReadEnd at KR0 KR1
    rw [show wrongF ds.down 0 = 0 from by rw [hdn]; decide, if_pos rfl, show (0 : Int).toNat = 0 from rfl] at KR0
    rw [show wrongF ds.down 1 = 0 from by rw [hdn]; decide, if_pos rfl, show (1 : Int).toNat = 1 from rfl] at KR1
    have HDN := Lib.hid hdn
    have HOL := Lib.hid (open_last ds)
    have HFT := Lib.hid (And.intro (hfit 0 (by decide)) (hfit 1 (by decide)))
    have HBC := Lib.hid hbc
    clear hd hdn hlf hfit hbc HG3
    go_wp2_with fail
    refine KR0.out.mono ?_
    rintro e w4 ⟨u0, rfl, ho4, hb4, _⟩
    have HB4 := Lib.hid hb4
    have HO4 := Lib.hid ho4
    clear hb4 ho4 KR0
    go_wp2_with fail
    refine (KR1.out _ HB4.out).mono ?_
    rintro e w5 ⟨u1, rfl, ho5, hb5, _⟩
    have HB5 := Lib.hid (HB4.out.trans (hb5.mono HB4.out.size))
    have HO4' := Lib.hid (HO4.out.at.below hb5)
    have HO5 := Lib.hid ho5.at
    clear hb5 KR1
    obtain ⟨a0, n0, c0, rfl⟩ : ∃ a n c, u0 = .slice a n c := by
      rcases HO4.out.form with ⟨rfl, _⟩ | ⟨g, c, rfl, _⟩
      · exact ⟨_, _, _, rfl⟩
      · exact ⟨_, _, _, rfl⟩
    obtain ⟨a1, n1, c1, rfl⟩ : ∃ a n c, u1 = .slice a n c := by
      rcases ho5.form with ⟨rfl, _⟩ | ⟨g, c, rfl, _⟩
      · exact ⟨_, _, _, rfl⟩
      · exact ⟨_, _, _, rfl⟩
    clear ho5
    go_wp2_with fail
    refine (KO.out _ HB5.out).mono ?_
    rintro e w6 ⟨hb6, h | h | h | ⟨_, _, _, S6, rfl, hs6⟩⟩
    · exact absurd h.1 (by decide)
    · exact absurd (by rw [HDN.out]; decide) h.2.1
    · exact absurd (by rw [HDN.out]; decide) h.2.2.1
    have h8 : ∀ {zs : List Int} {v : Value}, TxtAt w6 v zs → ∀ x ∈ zs, 0 ≤ x ∧ x ≤ 255 := fun ht x hx => by
      obtain ⟨i, hi, rfl⟩ := List.getElem_of_mem hx
      have := ht.bytes8 i hi
      simpa [List.getD, List.getElem?_eq_getElem hi] using this
    have ht0 := HO4'.out.below hb6
    have ht1 := HO5.out.below hb6
    have hcv0 := txt_conv ht0 w6 (Below.refl _ _)
    have hcv1 := txt_conv ht1 w6 (Below.refl _ _)
    have KL := Lib.hid (rlast_any (h8 ht0) (by have := HFT.out.1; omega) (h8 ht1) (by have := HFT.out.2; omega) w6)
    obtain ⟨SX, hSX⟩ : ∃ SX, SX = strOfNums (ds.b 0) := ⟨_, rfl⟩
    obtain ⟨SY, hSY⟩ : ∃ SY, SY = strOfNums (ds.b 1) := ⟨_, rfl⟩
    rw [← hSX] at hcv0 KL
    rw [← hSY] at hcv1 KL
    unfold SLastEnd at KL
    rw [← HOL.out.1, ← HOL.out.2.1, ← HOL.out.2.2] at KL
    obtain ⟨sl, hsl⟩ : ∃ sl, sl = (if (openS ds 0 1).last = -1 then (-1 : Int) else if (openS ds 0 1).last = 0 then (openS ds 0 1).f0 else (openS ds 0 1).f1) := ⟨_, rfl⟩
    rw [← hsl] at KL
    have HSL := Lib.hid hsl
    have HS6 := Lib.hid hs6
    generalize openS ds 0 1 = ost at *
    obtain ⟨gen, hgen⟩ : ∃ g, g = ost.gen := ⟨_, rfl⟩
    obtain ⟨ST, hST⟩ : ∃ g, g = strOfNums ost.text := ⟨_, rfl⟩
    rw [← hgen, ← hST] at KL
    have HGT := Lib.hid (And.intro hgen hST)
    have HB6 := Lib.hid ((HBC.out.trans (HB5.out.mono HBC.out.size)).trans (hb6.mono (Nat.le_trans HBC.out.size HB5.out.size)))
    clear hb6 h8 ht0 ht1 hSX hSY hsl hs6 hgen hST KO HO4' HO5 HO4
    go_wp2_with fail
    refine KL.out.mono ?_
    rintro e w7 ⟨rfl, hb7⟩
    have hba := below_alloc (Below.refl _ w7) (.cells #[.int .i64 gen, .string ST] 31)
    have KT := Lib.hid (last_sn ((HS6.out.below hb7).below hba))
    have HS7 := Lib.hid ((HS6.out.below hb7).below hba)
    have hb7a := HB6.out.trans (hb7.mono HB6.out.size)
    have HB7 := Lib.hid (hb7a.trans (hba.mono hb7a.size))
    have NB := Lib.hid (World.alloc_heap_new w7 (.cells #[.int .i64 gen, .string ST] 31))
    have HSZ := Lib.hid (show w7.heap.size < (w7.alloc (.cells #[.int .i64 gen, .string ST] 31)).heap.size by simp)
    clear hb7 hba hb7a KL hcv0 hcv1
    go_wp2_with fail
    refine KT.out.mono ?_
    rintro e w8 ⟨u, rfl, ho8, hb8⟩
    have hcvU := txt_conv ho8.at w8 (Below.refl _ _)
    rw [← HGT.out.2] at hcvU
    rw [← HGT.out.1]
    obtain ⟨ua, un, uc, rfl⟩ : ∃ a n c, u = .slice a n c := by
      rcases ho8.form with ⟨rfl, _⟩ | ⟨g, c, rfl, _⟩
      · exact ⟨_, _, _, rfl⟩
      · exact ⟨_, _, _, rfl⟩
    have n8 := (hb8.block _ HSZ.out).trans NB.out
    have x0 := cell_of_block (o := 0) n8 rfl
    have x1 := cell_of_block (o := 1) n8 rfl
    have KSL := Lib.hid (slot_sn (HS7.out.below hb8))
    rw [← HSL.out] at KSL
    have HB8 := Lib.hid (HB7.out.trans (hb8.mono HB7.out.size))
    clear ho8 hb8 n8 KT
    go_wp2_with fail
    refine KSL.out.mono ?_
    rintro e w9 ⟨rfl, hb9⟩
    have HB9 := Lib.hid (HB8.out.trans (hb9.mono HB8.out.size))
    clear hb9 KSL
    go_wp2_with fail
    refine (one_sn _ (HE.out _ HB9.out)).mono ?_
    rintro e w10 ⟨rfl, hb10⟩
    have HB10 := Lib.hid (HB9.out.trans (hb10.mono HB9.out.size))
    clear hb10
    go_wp2_with fail
    go_ret
    exact ⟨rfl, HB10.out⟩
end Go.Proofs.YtomhfnaekjmjnaaDoor
