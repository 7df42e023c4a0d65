/- Laws that belong together: Records that come in as a law's arguments: one, some, and some with what becomes of the disk. No condition.; Logs over a disk that is up, plainly. No condition but the lengths' bounds.; A log over a disk that may go down, plainly; what arming, falling do beside it. No condition but the lengths' bounds.; A text that is kept in two files, plainly: what saving, falling and opening come to. No condition but the lengths' bounds.; Texts that are saved, with what becomes of the disk, as a law's argument. No condition.; SnapsTurns walked. Condition: errors.errorType reads as the program's text lays it. -/
import Derived.Test.YtomhfnaekjmjnaaDoorMal
import Derived.Lib.SmallJoins
import Derived.Test.YtomhfnaekjmjnaaDoorMask
import Derived.Test.YtomhfnaekjmjnaaDoorMSng
import Derived.Test.YtomhfnaekjmjnaaDoorMac
import Derived.BigQuiet
namespace Go.Proofs.YtomhfnaekjmjnaaDoor
set_option linter.unusedVariables false
open Go.ChangeShapes Go.WideShapes Go.ChangeAt Go.RowKit

/-- a text in a cell -/
def TxtC (w : World) (a : Addr) (bs : List Int) : Prop := ∃ ad c, w.cell? a = some (.slice ad bs.length c) ∧ TxtAt w (.slice ad bs.length c) bs ∧ bs.length ≤ c ∧ (0 < bs.length → ∃ g o, ad = some ⟨g, o, none⟩)
structure RecC (w : World) (b o : Nat) (r : JRec) : Prop where
  c0 : w.cell? ⟨b, o, none⟩ = some (.int .i64 r.1)
  c1 : TxtC w ⟨b, o + 1, none⟩ r.2
  g_in : -9223372036854775808 ≤ r.1 ∧ r.1 ≤ 9223372036854775807
def RecsAt (w : World) (ad : Option Addr) (len : Nat) (A : Nat → JRec) : Prop := len ≤ 9223372036854775807 ∧ (0 < len → ∃ b off, ad = some ⟨b, off, none⟩ ∧ ∀ k, k < len → RecC w b (off + k * 2) (A k))
/-- a record, how the disk is armed, how many bytes stay -/
structure AddV where
  r : JRec
  arm : Int
  kp : Int
  deriving Inhabited
structure AddC (w : World) (b o : Nat) (a : AddV) : Prop where
  c0 : RecC w b o a.r
  c2 : w.cell? ⟨b, o + 2, none⟩ = some (.int .i64 a.arm)
  c3 : w.cell? ⟨b, o + 3, none⟩ = some (.int .i64 a.kp)
  arm_in : -9223372036854775808 ≤ a.arm ∧ a.arm ≤ 9223372036854775807
def AddsAt (w : World) (ad : Option Addr) (len : Nat) (A : Nat → AddV) : Prop := len ≤ 9223372036854775807 ∧ (0 < len → ∃ b off, ad = some ⟨b, off, none⟩ ∧ ∀ k, k < len → AddC w b (off + k * 4) (A k))
theorem cells_rec : Tryd.prog.cellsOf 24 = 2 := by kernel_rfl
theorem cells_one : Tryd.prog.cellsOf 3 = 1 ∧ Tryd.prog.cellsOf 2 = 1 ∧ Tryd.prog.cellsOf 22 = 1 := ⟨by kernel_rfl, by kernel_rfl, by kernel_rfl⟩
theorem i64_in {n : Int} (h : (Lit.int .i64 n).wf = true) : -9223372036854775808 ≤ n ∧ n ≤ 9223372036854775807 := by simpa [Lit.wf, IntKind.min, IntKind.max, IntKind.signed, IntKind.bits] using h
/-- a text told by its cell -/
theorem txtc_open {H : Type} {enc : TypeId × Value → H} {W : World} {v : Value} {k : Nat} {y : DataW H × List MemPlace} (g3 : DataW.trod enc Tryd.prog W 0 (fun _ => true) true k 22 [v] = some y) :
    ∃ bs ad c, v = .slice ad bs.length c ∧ TxtAt W (.slice ad bs.length c) bs ∧ bs.length ≤ c ∧ (0 < bs.length → ∃ g o, ad = some ⟨g, o, none⟩) := by
  obtain ⟨ad, ln, cp, rfl⟩ : ∃ ad ln cp, v = .slice ad ln cp := by
    rcases Go.Deep.open_slice Tryd.underlying22 g3 with ⟨hcs, _⟩ | ⟨x, l, c, m, n, D, Pl, hcs, _⟩
    · simp at hcs; exact ⟨_, _, _, hcs⟩
    · simp at hcs; exact ⟨_, _, _, hcs⟩
  obtain ⟨zs, ⟨ht, hzl, hlc, hpos⟩, _⟩ := txt_open (enc := enc) (W := W) (a := ad) (len := ln) (cap := cp) ⟨k, by simpa [Value.cells] using g3⟩
  subst hzl
  exact ⟨zs, ad, cp, rfl, ht, hlc, hpos⟩
set_option maxRecDepth 100000 in
/-- a record by value -/
theorem rec_open {H : Type} {enc : TypeId × Value → H} {W : World} {r : Reach} {b0 : Nat} {v : Value} {d : DataW H} {p : List MemPlace} (hv : Value.okWide Tryd.prog W r b0 24 v) (h : DataW.Trod enc Tryd.prog W 0 (fun _ => true) true 24 v d p) :
    ∃ (g : Int) (bs : List Int) (ad : Option Addr) (c : Nat), v = .agg #[.int .i64 g, .slice ad bs.length c] ∧ (-9223372036854775808 ≤ g ∧ g ≤ 9223372036854775807) ∧ TxtAt W (.slice ad bs.length c) bs ∧ bs.length ≤ c := by
  obtain ⟨v0, v1, y0, y1, n, rfl, _, _, h0, h1⟩ := Go.Joins.open_agg2 Tryd.underlying24 (by kernel_rfl) cells_rec hv h
  obtain ⟨z0, e0, _, w0⟩ := DataW.trod_int Tryd.underlying2 h0
  simp at e0
  subst e0
  obtain ⟨bs, ad, c, rfl, ht, hlc, _⟩ := txtc_open h1
  exact ⟨z0, bs, ad, c, rfl, i64_in w0, ht, hlc⟩
theorem recc_of {H : Type} {enc : TypeId × Value → H} {W : World} {b o k : Nat} {v0 v1 : Value} {y0 y1 : DataW H × List MemPlace} (c0 : W.cell? ⟨b, o, none⟩ = some v0) (c1 : W.cell? ⟨b, o + 1, none⟩ = some v1)
    (g0 : DataW.trod enc Tryd.prog W 0 (fun _ => true) true k 2 [v0] = some y0) (g1 : DataW.trod enc Tryd.prog W 0 (fun _ => true) true k 22 [v1] = some y1) : ∃ r, RecC W b o r := by
  obtain ⟨z0, e0, _, w0⟩ := DataW.trod_int Tryd.underlying2 g0
  simp at e0
  subst e0
  obtain ⟨bs, ad, c, rfl, h⟩ := txtc_open g1
  exact ⟨(z0, bs), ⟨c0, ⟨ad, c, c1, h⟩, i64_in w0⟩⟩
set_option maxRecDepth 100000 in
theorem recs_open {H : Type} {enc : TypeId × Value → H} {W : World} {a : Option Addr} {len cap : Nat} {d : DataW H} {p : List MemPlace}
    (h : DataW.Trod enc Tryd.prog W 0 (fun _ => true) true 33 (.slice a len cap) d p) : ∃ A : Nat → JRec, RecsAt W a len A := by
  obtain ⟨fuel, hf⟩ := h
  rcases Go.Deep.open_slice Tryd.underlying33 hf with ⟨hcs, _⟩ | ⟨x, l, c, m, n, D, Pl, hcs, _, hl, hm, hmm, hd, hcell⟩
  · simp [Value.cells] at hcs
    obtain ⟨rfl, rfl, rfl⟩ := hcs
    exact ⟨fun _ => (0, []), by omega, fun h => absurd h (by omega)⟩
  · simp [Value.cells] at hcs
    obtain ⟨rfl, rfl, rfl⟩ := hcs
    have hlm : len ≤ m := by rw [hmm]; split <;> omega
    rw [cells_rec] at hcell
    by_cases h0 : len = 0
    · exact ⟨fun _ => (0, []), by omega, fun h => absurd h (by omega)⟩
    obtain ⟨b, off, spot⟩ := x
    have hspot : spot = none := by
      obtain ⟨cs', h1, _⟩ := hcell 0 (by omega)
      obtain ⟨_, hlen, hc⟩ := World.cells?_some h1
      have := hc 0 (by omega)
      have hs : cs'[0]? = some cs'[0] := List.getElem?_eq_getElem (by omega)
      rw [hs] at this
      simpa [Addr.add] using World.cell?_spot this
    subst hspot
    have hplain : ∀ k, (⟨b, off, none⟩ : Addr).add k = ⟨b, off + k, none⟩ := fun k => by unfold Addr.add; split <;> simp_all
    have hplain2 : ∀ k j, ((⟨b, off, none⟩ : Addr).add k).add j = ⟨b, off + k + j, none⟩ := fun k j => by rw [Go.Deep.add_add, hplain, Nat.add_assoc]
    have each : ∀ i, i < len → ∃ q : JRec, RecC W b (off + i * 2) q := by
      intro i hi
      obtain ⟨cs', h1, h2⟩ := hcell i (by omega)
      obtain ⟨_, hlen, hc⟩ := World.cells?_some h1
      obtain ⟨xs, k, hk, _, _, hxl, hff⟩ := DataW.trod_struct Tryd.underlying24 h2
      match xs, hxl, cs', hlen with
      | [y0, y1], _, [v0, v1], _ =>
        have g0 := hff 0 _ rfl
        have g1 := hff 1 _ rfl
        simp [cells_one] at g0 g1
        have c : ∀ j, j < 2 → W.cell? ⟨b, off + i * 2 + j, none⟩ = [v0, v1][j]? := fun j hj => by rw [← hplain2]; exact hc j hj
        exact recc_of (c 0 (by decide)) (c 1 (by decide)) g0 g1
    obtain ⟨A, hA⟩ := Go.Deep.choose_lt (α := JRec) (p := fun i q => RecC W b (off + i * 2) q) each
    exact ⟨A, by unfold maxLen at hm; omega, fun _ => ⟨b, off, rfl, hA⟩⟩
theorem cells_add : Tryd.prog.cellsOf 48 = 4 := by kernel_rfl
set_option maxRecDepth 100000 in
theorem adds_open {H : Type} {enc : TypeId × Value → H} {W : World} {a : Option Addr} {len cap : Nat} {d : DataW H} {p : List MemPlace}
    (h : DataW.Trod enc Tryd.prog W 0 (fun _ => true) true 41 (.slice a len cap) d p) : ∃ A : Nat → AddV, AddsAt W a len A := by
  obtain ⟨fuel, hf⟩ := h
  rcases Go.Deep.open_slice Tryd.underlying41 hf with ⟨hcs, _⟩ | ⟨x, l, c, m, n, D, Pl, hcs, _, hl, hm, hmm, hd, hcell⟩
  · simp [Value.cells] at hcs
    obtain ⟨rfl, rfl, rfl⟩ := hcs
    exact ⟨fun _ => ⟨(0, []), 0, 0⟩, by omega, fun h => absurd h (by omega)⟩
  · simp [Value.cells] at hcs
    obtain ⟨rfl, rfl, rfl⟩ := hcs
    have hlm : len ≤ m := by rw [hmm]; split <;> omega
    rw [cells_add] at hcell
    by_cases h0 : len = 0
    · exact ⟨fun _ => ⟨(0, []), 0, 0⟩, by omega, fun h => absurd h (by omega)⟩
    obtain ⟨b, off, spot⟩ := x
    have hspot : spot = none := by
      obtain ⟨cs', h1, _⟩ := hcell 0 (by omega)
      obtain ⟨_, hlen, hc⟩ := World.cells?_some h1
      have := hc 0 (by omega)
      have hs : cs'[0]? = some cs'[0] := List.getElem?_eq_getElem (by omega)
      rw [hs] at this
      simpa [Addr.add] using World.cell?_spot this
    subst hspot
    have hplain : ∀ k, (⟨b, off, none⟩ : Addr).add k = ⟨b, off + k, none⟩ := fun k => by unfold Addr.add; split <;> simp_all
    have hplain2 : ∀ k j, ((⟨b, off, none⟩ : Addr).add k).add j = ⟨b, off + k + j, none⟩ := fun k j => by rw [Go.Deep.add_add, hplain, Nat.add_assoc]
    have each : ∀ i, i < len → ∃ q : AddV, AddC W b (off + i * 4) q := by
      intro i hi
      obtain ⟨cs', h1, h2⟩ := hcell i (by omega)
      obtain ⟨_, hlen, hc⟩ := World.cells?_some h1
      obtain ⟨xs, k, hk, _, _, hxl, hff⟩ := DataW.trod_struct Tryd.underlying48 h2
      match xs, hxl, cs', hlen with
      | [y0, y1, y2], _, [v0, v1, v2, v3], _ =>
        have g0 := hff 0 _ rfl
        have g1 := hff 1 _ rfl
        have g2 := hff 2 _ rfl
        simp [cells_one, cells_rec] at g0 g1 g2
        obtain ⟨zs, k2, hk2, _, _, hzl, hff2⟩ := DataW.trod_struct Tryd.underlying24 g0
        match zs, hzl with
        | [x0, x1], _ =>
          have q0 := hff2 0 _ rfl
          have q1 := hff2 1 _ rfl
          simp [cells_one] at q0 q1
          have c : ∀ j, j < 4 → W.cell? ⟨b, off + i * 4 + j, none⟩ = [v0, v1, v2, v3][j]? := fun j hj => by rw [← hplain2]; exact hc j hj
          obtain ⟨z2, e2, _, w2⟩ := DataW.trod_int Tryd.underlying3 g1
          obtain ⟨z3, e3, _, w3⟩ := DataW.trod_int Tryd.underlying3 g2
          simp at e2 e3
          subst e2 e3
          obtain ⟨r, hr⟩ := recc_of (c 0 (by decide)) (c 1 (by decide)) q0 q1
          exact ⟨⟨r, z2, z3⟩, ⟨hr, c 2 (by decide), c 3 (by decide), i64_in w2⟩⟩
    obtain ⟨A, hA⟩ := Go.Deep.choose_lt (α := AddV) (p := fun i q => AddC W b (off + i * 4) q) each
    exact ⟨A, by unfold maxLen at hm; omega, fun _ => ⟨b, off, rfl, hA⟩⟩
end Go.Proofs.YtomhfnaekjmjnaaDoor
namespace Go.Proofs.YtomhfnaekjmjnaaDoor
set_option linter.unusedVariables false
open Go.ChangeShapes Go.WideShapes Go.ChangeAt Go.RowKit

/-- a disk that is up, not armed; what a file has, how much of it is safe -/
structure DOk (ds : DS) (f : Int) (xs : List Int) : Prop where
  down : ds.down = false
  left : ds.left = -1
  b : ds.b f.toNat = xs
theorem wrongF_up {f : Int} (hf : 0 ≤ f ∧ f ≤ 3) : wrongF false f = 0 := by unfold wrongF; rw [if_neg (by simp), if_pos hf]
theorem call_ok {q : Nat} {ds : DS} {f : Int} {xs ys : List Int} (hf : 0 ≤ f ∧ f ≤ 3) (h : DOk ds f xs) (hl : xs.length + ys.length ≤ 1048576) : callF q ds f ys = ({ ds.deed q f.toNat ys with left := -1 }, 0) := by
  unfold callF
  rw [h.down, wrongF_up hf, h.b, h.left, if_neg (by simp), if_neg (by omega), if_neg (by decide), if_neg (by decide)]
theorem deed_b (ds : DS) (q k : Nat) (ys : List Int) : (ds.deed q k ys).b k = if q = 0 then ds.b k ++ ys else if q = 1 then ds.b k else [] := by
  unfold DS.deed
  split
  · simp [upd_at]
  · simp
  · rename_i h0 h1
    rw [if_neg h0, if_neg h1]; simp [upd_at]
theorem deed_s (ds : DS) (q k : Nat) (ys : List Int) : (ds.deed q k ys).s k = if q = 0 then ds.s k else if q = 1 then (ds.b k).length else 0 := by
  unfold DS.deed
  split
  · simp
  · simp [upd_at]
  · rename_i h0 h1
    rw [if_neg h0, if_neg h1]; simp [upd_at]
theorem deed_down (ds : DS) (q k : Nat) (ys : List Int) : (ds.deed q k ys).down = ds.down := by unfold DS.deed; split <;> rfl
theorem call_dok {q : Nat} {ds : DS} {f : Int} {xs ys : List Int} (hf : 0 ≤ f ∧ f ≤ 3) (h : DOk ds f xs) (hl : xs.length + ys.length ≤ 1048576) : DOk (callF q ds f ys).1 f (if q = 0 then xs ++ ys else if q = 1 then xs else []) := by
  rw [call_ok hf h hl]
  exact ⟨(deed_down ds q _ ys).trans h.down, rfl, by show (ds.deed q f.toNat ys).b f.toNat = _; rw [deed_b, h.b]⟩
theorem add_ok {f : Int} {rs : List JRec} {ln : Nat} {ds : DS} {xs : List Int} {r : JRec} (hf : 0 ≤ f ∧ f ≤ 3) (h : DOk ds f xs) (hr : r.2.length ≤ 65536) (hl : xs.length + (frameF r).length ≤ 1048576) :
    ∃ ds', addF ⟨f, rs, ln, false, false⟩ ds r = (⟨f, rs ++ [r], ln + (frameF r).length, false, false⟩, ds', 0) ∧ DOk ds' f (xs ++ frameF r) ∧ ds'.s f.toNat = (xs ++ frameF r).length := by
  have h1 := call_dok (q := 0) hf h hl
  have c1 := call_ok (q := 0) hf h hl
  rw [if_pos rfl] at h1
  have h2 := call_dok (q := 1) (ys := []) hf h1 (by simp; omega)
  have c2 := call_ok (q := 1) (ys := []) hf h1 (by simp; omega)
  rw [if_neg (by decide), if_pos rfl] at h2
  refine ⟨(callF 1 (callF 0 ds f (frameF r)).1 f []).1, ?_, h2, ?_⟩
  · unfold addF
    rw [if_neg (by simp), if_neg (by omega)]
    show (if (callF 0 ds f (frameF r)).2 ≠ 0 then _ else _) = _
    rw [if_neg (by rw [c1]; simp)]
    show (if (callF 1 (callF 0 ds f (frameF r)).1 f []).2 ≠ 0 then _ else _) = _
    rw [if_neg (by rw [c2]; simp)]
  · rw [c2]
    show ((callF 0 ds f (frameF r)).1.deed 1 f.toNat []).s f.toNat = _
    rw [deed_s, if_neg (by decide), if_pos rfl, h1.b]
theorem clear_ok {st : LS} {ds : DS} {xs : List Int} (hf : 0 ≤ st.f ∧ st.f ≤ 3) (h : DOk ds st.f xs) (hl : xs.length ≤ 1048576) :
    ∃ ds', clearF st ds = (⟨st.f, [], 0, false, false⟩, ds', 0) ∧ DOk ds' st.f [] ∧ ds'.s st.f.toNat = 0 := by
  have h1 := call_dok (q := 2) (ys := []) hf h (by simp; omega)
  have c1 := call_ok (q := 2) (ys := []) hf h (by simp; omega)
  rw [if_neg (by decide), if_neg (by decide)] at h1
  refine ⟨(callF 2 ds st.f []).1, ?_, h1, ?_⟩
  · unfold clearF
    rw [if_neg (by rw [c1]; simp)]
  · rw [c1]
    show (ds.deed 2 st.f.toNat []).s st.f.toNat = _
    rw [deed_s, if_neg (by decide), if_neg (by decide)]
theorem open_ok {ds : DS} {f : Int} {rs : List JRec} (h : DOk ds f (framesF rs)) (hg : ∀ r ∈ rs, GoodR r) : openF ds f = ⟨f, rs, (framesF rs).length, false, false⟩ := by
  unfold openF
  rw [h.b, parse_whole hg]
  simp
/-- the first records of a row -/
def recsN (A : Nat → JRec) (k : Nat) : List JRec := (List.range k).map A
theorem recsN_succ (A : Nat → JRec) (k : Nat) : recsN A (k + 1) = recsN A k ++ [A k] := by unfold recsN; rw [List.range_succ, List.map_append]; rfl
theorem recsN_len (A : Nat → JRec) (k : Nat) : (recsN A k).length = k := by simp [recsN]
theorem frames_snoc (l : List JRec) (r : JRec) : framesF (l ++ [r]) = framesF l ++ frameF r := by rw [frames_append, frames_one]
theorem frame_le {r : JRec} (hg : -9223372036854775808 ≤ r.1 ∧ r.1 ≤ 9223372036854775807) : (frameF r).length ≤ r.2.length + 18 := by
  rw [frame_len]
  have := putI_len hg
  unfold bodyF
  simp
  omega
end Go.Proofs.YtomhfnaekjmjnaaDoor
namespace Go.Proofs.YtomhfnaekjmjnaaDoor
set_option linter.unusedVariables false
open Go.ChangeShapes Go.WideShapes Go.ChangeAt Go.RowKit

/-- a disk that is up, all of file 2 safe, perhaps armed -/
structure DUp (ds : DS) (xs : List Int) : Prop where
  down : ds.down = false
  left : -1 ≤ ds.left
  b : ds.b 2 = xs
  s : ds.s 2 = xs.length
theorem call_up {q : Nat} {ds : DS} {xs ys : List Int} (hd : ds.down = false) (hb : ds.b 2 = xs) (hl : xs.length + ys.length ≤ 1048576) :
    callF q ds 2 ys = if ds.left = 0 then ({ (if q = 0 then ds.deed 0 2 ys else ds) with left := -1, down := true }, 17) else ({ ds.deed q 2 ys with left := if 0 < ds.left then ds.left - 1 else ds.left }, 0) := by
  unfold callF
  rw [hd, wrongF_up (by decide), show (2 : Int).toNat = 2 from rfl, hb, if_neg (by simp), if_neg (by omega)]
theorem add_up {rs : List JRec} {ln : Nat} {ds : DS} {xs : List Int} {r : JRec} (h : DUp ds xs) (hr : r.2.length ≤ 65536) (hl : xs.length + (frameF r).length ≤ 1048576) (hlf : ds.left ≠ 0 ∧ ds.left ≠ 1) :
    ∃ ds', addF ⟨2, rs, ln, false, false⟩ ds r = (⟨2, rs ++ [r], ln + (frameF r).length, false, false⟩, ds', 0) ∧ DUp ds' (xs ++ frameF r) := by
  have hl0 := h.left
  have c1 := call_up (q := 0) h.down h.b hl
  rw [if_neg hlf.1] at c1
  obtain ⟨d1, hd1⟩ : ∃ d, d = (callF 0 ds 2 (frameF r)).1 := ⟨_, rfl⟩
  have e1 : callF 0 ds 2 (frameF r) = (d1, 0) := by rw [hd1, c1]
  have hd1' : d1 = { ds.deed 0 2 (frameF r) with left := if 0 < ds.left then ds.left - 1 else ds.left } := by rw [hd1, c1]
  have b1 : d1.b 2 = xs ++ frameF r := by rw [hd1']; show (ds.deed 0 2 (frameF r)).b 2 = _; rw [deed_b, if_pos rfl, h.b]
  have w1 : d1.down = false := by rw [hd1']; exact (deed_down ds 0 2 (frameF r)).trans h.down
  have l1 : d1.left ≠ 0 ∧ -1 ≤ d1.left := by
    have e : d1.left = if 0 < ds.left then ds.left - 1 else ds.left := by rw [hd1']
    rw [e]
    split <;> omega
  have c2 := call_up (q := 1) (ys := []) w1 b1 (by simp; omega)
  rw [if_neg l1.1] at c2
  obtain ⟨d2, hd2⟩ : ∃ d, d = (callF 1 d1 2 []).1 := ⟨_, rfl⟩
  have e2 : callF 1 d1 2 [] = (d2, 0) := by rw [hd2, c2]
  have hd2' : d2 = { d1.deed 1 2 [] with left := if 0 < d1.left then d1.left - 1 else d1.left } := by rw [hd2, c2]
  refine ⟨d2, ?_, ⟨?_, ?_, ?_, ?_⟩⟩
  · unfold addF
    rw [if_neg (by simp), if_neg (by omega)]
    show (if (callF 0 ds 2 (frameF r)).2 ≠ 0 then _ else _) = _
    rw [e1, if_neg (by simp)]
    show (if (callF 1 d1 2 []).2 ≠ 0 then _ else _) = _
    rw [e2, if_neg (by simp)]
  · rw [hd2']; exact (deed_down d1 1 2 []).trans w1
  · have e : d2.left = if 0 < d1.left then d1.left - 1 else d1.left := by rw [hd2']
    have := l1.2
    rw [e]
    split <;> omega
  · rw [hd2']; show (d1.deed 1 2 []).b 2 = _; rw [deed_b, if_neg (by decide), if_pos rfl, b1]
  · rw [hd2']; show (d1.deed 1 2 []).s 2 = _; rw [deed_s, if_neg (by decide), if_pos rfl, b1]
theorem add_down {rs : List JRec} {ln : Nat} {ds : DS} {xs : List Int} {r : JRec} (h : DUp ds xs) (hr : r.2.length ≤ 65536) (hl : xs.length + (frameF r).length ≤ 1048576) (hlf : ds.left = 0 ∨ ds.left = 1) :
    ∃ ds', addF ⟨2, rs, ln, false, false⟩ ds r = (⟨2, rs, ln, false, true⟩, ds', 17) ∧ ds'.b 2 = xs ++ frameF r ∧ ds'.s 2 = xs.length := by
  have c1 := call_up (q := 0) h.down h.b hl
  rcases hlf with h0 | h1
  · rw [if_pos h0, if_pos rfl] at c1
    refine ⟨(callF 0 ds 2 (frameF r)).1, ?_, ?_, ?_⟩
    · unfold addF
      rw [if_neg (by simp), if_neg (by omega)]
      show (if (callF 0 ds 2 (frameF r)).2 ≠ 0 then _ else _) = _
      rw [if_pos (by rw [c1]; simp)]
      rw [c1]
    · rw [c1]; show (ds.deed 0 2 (frameF r)).b 2 = _; rw [deed_b, if_pos rfl, h.b]
    · rw [c1]; show (ds.deed 0 2 (frameF r)).s 2 = _; rw [deed_s, if_pos rfl, h.s]
  · rw [if_neg (by omega)] at c1
    obtain ⟨d1, hd1⟩ : ∃ d, d = (callF 0 ds 2 (frameF r)).1 := ⟨_, rfl⟩
    have e1 : callF 0 ds 2 (frameF r) = (d1, 0) := by rw [hd1, c1]
    have hd1' : d1 = { ds.deed 0 2 (frameF r) with left := if 0 < ds.left then ds.left - 1 else ds.left } := by rw [hd1, c1]
    have b1 : d1.b 2 = xs ++ frameF r := by rw [hd1']; show (ds.deed 0 2 (frameF r)).b 2 = _; rw [deed_b, if_pos rfl, h.b]
    have s1 : d1.s 2 = xs.length := by rw [hd1']; show (ds.deed 0 2 (frameF r)).s 2 = _; rw [deed_s, if_pos rfl, h.s]
    have w1 : d1.down = false := by rw [hd1']; exact (deed_down ds 0 2 (frameF r)).trans h.down
    have l1 : d1.left = 0 := by
      have e : d1.left = if 0 < ds.left then ds.left - 1 else ds.left := by rw [hd1']
      rw [e, h1]
      rfl
    have c2 := call_up (q := 1) (ys := []) w1 b1 (by simp; omega)
    rw [if_pos l1, if_neg (by decide)] at c2
    refine ⟨(callF 1 d1 2 []).1, ?_, ?_, ?_⟩
    · unfold addF
      rw [if_neg (by simp), if_neg (by omega)]
      show (if (callF 0 ds 2 (frameF r)).2 ≠ 0 then _ else _) = _
      rw [e1, if_neg (by simp)]
      show (if (callF 1 d1 2 []).2 ≠ 0 then _ else _) = _
      rw [if_pos (by rw [c2]; simp)]
      rw [c2]
    · rw [c2]; exact b1
    · rw [c2]; exact s1
def keep2F (n : Int) : Nat → Int := fun j => if j = 2 then n else 0
theorem fall_up {ds : DS} {xs ys : List Int} (hb : ds.b 2 = xs ++ ys) (hs : ds.s 2 = xs.length) (n : Int) :
    ∃ m : Nat, m ≤ ys.length ∧ DUp (fallF ds (keep2F n)) (xs ++ ys.take m) ∧ (fallF ds (keep2F n)).left = -1 := by
  have e : fallS ds (keep2F n) 2 = xs.length + min (max n 0).toNat ys.length := by
    unfold fallS keep2F
    rw [hb, hs, if_pos rfl, List.length_append]
    omega
  refine ⟨min (max n 0).toNat ys.length, Nat.min_le_right _ _, ⟨rfl, by show -1 ≤ (-1 : Int); decide, ?_, ?_⟩, rfl⟩
  · show (ds.cut (keep2F n) 4).b 2 = _
    show (if 2 < 4 then (ds.b 2).take (fallS ds (keep2F n) 2) else ds.b 2) = _
    rw [if_pos (by decide), e, hb, List.take_append, List.take_of_length_le (by omega)]
    congr 1
    congr 1
    omega
  · show (if 2 < 4 then fallS ds (keep2F n) 2 else ds.s 2) = _
    rw [if_pos (by decide), e, List.length_append, List.length_take]
    omega
theorem DUp.open_ {ds : DS} {xs : List Int} (h : DUp ds xs) : openF ds 2 = ⟨2, (parseF xs).1, (parseF xs).2, decide ((parseF xs).2 < xs.length), false⟩ := by
  unfold openF
  rw [show (2 : Int).toNat = 2 from rfl, h.b]
/-- what is left of the bytes of records and one more, cut -/
theorem parse_after {all : List JRec} (hg : ∀ r ∈ all, GoodR r) {r : JRec} (hr : GoodR r) (m : Nat) :
    (m < (frameF r).length ∧ parseF (framesF all ++ (frameF r).take m) = (all, (framesF all).length)) ∨
    ((frameF r).length ≤ m ∧ framesF all ++ (frameF r).take m = framesF (all ++ [r]) ∧ parseF (framesF all ++ (frameF r).take m) = (all ++ [r], (framesF (all ++ [r])).length)) := by
  by_cases h : m < (frameF r).length
  · exact .inl ⟨h, parse_cut hg hr h⟩
  · have e : framesF all ++ (frameF r).take m = framesF (all ++ [r]) := by rw [List.take_of_length_le (by omega), frames_snoc]
    exact .inr ⟨by omega, e, by rw [e]; exact parse_whole (fun q hq => by rcases List.mem_append.1 hq with h | h; exact hg q h; rw [List.mem_singleton.1 h]; exact hr)⟩
end Go.Proofs.YtomhfnaekjmjnaaDoor
namespace Go.Proofs.YtomhfnaekjmjnaaDoor
set_option linter.unusedVariables false
open Go.ChangeShapes Go.WideShapes Go.ChangeAt Go.RowKit

theorem only_frame {r : JRec} (h : GoodR r) : onlyF (frameF r) = some r := by
  have hp := parse_whole (l := [r]) (fun q hq => by rw [List.mem_singleton.1 hq]; exact h)
  rw [frames_one] at hp
  unfold onlyF
  rw [hp]
  simp
theorem only_cut {r : JRec} (h : GoodR r) {k : Nat} (hk : k < (frameF r).length) : onlyF ((frameF r).take k) = none := by
  have hp := parse_cut (l := []) (fun q hq => by cases hq) h hk
  unfold onlyF
  rw [show framesF [] ++ (frameF r).take k = (frameF r).take k from rfl] at hp
  rw [hp]
  simp
theorem only_nil : onlyF [] = none := by unfold onlyF; rw [parse_nil]; simp
def genF (xs : List Int) : Int := match onlyF xs with
  | some r => r.1
  | none => 0
theorem deed_ne (ds : DS) (q k : Nat) (ys : List Int) {j : Nat} (hj : j ≠ k) : (ds.deed q k ys).b j = ds.b j ∧ (ds.deed q k ys).s j = ds.s j := by
  unfold DS.deed
  split
  · exact ⟨upd_ne _ _ hj, rfl⟩
  · exact ⟨rfl, upd_ne _ _ hj⟩
  · exact ⟨upd_ne _ _ hj, upd_ne _ _ hj⟩
theorem call_upK {q : Nat} {ds : DS} {f : Int} {ys : List Int} (hf : 0 ≤ f ∧ f ≤ 3) (hd : ds.down = false) (hl : (ds.b f.toNat).length + ys.length ≤ 1048576) :
    callF q ds f ys = if ds.left = 0 then ({ (if q = 0 then ds.deed 0 f.toNat ys else ds) with left := -1, down := true }, 17) else ({ ds.deed q f.toNat ys with left := if 0 < ds.left then ds.left - 1 else ds.left }, 0) := by
  unfold callF
  rw [hd, wrongF_up hf, if_neg (by simp), if_neg (by omega)]
theorem write_ok {ds : DS} {f : Int} {r : JRec} (hf : 0 ≤ f ∧ f ≤ 3) (hd : ds.down = false) (hlf : -1 ≤ ds.left ∧ ds.left ≠ 0 ∧ ds.left ≠ 1 ∧ ds.left ≠ 2) (hb : (ds.b f.toNat).length ≤ 1048576) (hr : r.2.length ≤ 65536) (hl : (frameF r).length ≤ 1048576) :
    ∃ ds', writeF ds f r = (ds', 0) ∧ ds'.down = false ∧ -1 ≤ ds'.left ∧ (ds.left = -1 → ds'.left = -1) ∧ ds'.b f.toNat = frameF r ∧ ds'.s f.toNat = (frameF r).length ∧ ∀ j, j ≠ f.toNat → ds'.b j = ds.b j ∧ ds'.s j = ds.s j := by
  have c1 := call_upK (q := 2) (ys := []) hf hd (by simp; omega)
  rw [if_neg hlf.2.1] at c1
  obtain ⟨d1, hd1⟩ : ∃ d, d = (callF 2 ds f []).1 := ⟨_, rfl⟩
  have e1 : callF 2 ds f [] = (d1, 0) := by rw [hd1, c1]
  have hd1' : d1 = { ds.deed 2 f.toNat [] with left := if 0 < ds.left then ds.left - 1 else ds.left } := by rw [hd1, c1]
  have b1 : d1.b f.toNat = [] := by rw [hd1']; show (ds.deed 2 f.toNat []).b f.toNat = _; rw [deed_b, if_neg (by decide), if_neg (by decide)]
  have n1 : ∀ j, j ≠ f.toNat → d1.b j = ds.b j ∧ d1.s j = ds.s j := fun j hj => by rw [hd1']; exact deed_ne ds 2 f.toNat [] hj
  have w1 : d1.down = false := by rw [hd1']; exact (deed_down ds 2 f.toNat []).trans hd
  have l1 : d1.left ≠ 0 ∧ d1.left ≠ 1 ∧ -1 ≤ d1.left ∧ (ds.left = -1 → d1.left = -1) := by
    have e : d1.left = if 0 < ds.left then ds.left - 1 else ds.left := by rw [hd1']
    rw [e]
    split <;> omega
  have c2 := call_upK (q := 0) (ys := frameF r) hf w1 (by rw [b1]; simp; omega)
  rw [if_neg l1.1] at c2
  obtain ⟨d2, hd2⟩ : ∃ d, d = (callF 0 d1 f (frameF r)).1 := ⟨_, rfl⟩
  have e2 : callF 0 d1 f (frameF r) = (d2, 0) := by rw [hd2, c2]
  have hd2' : d2 = { d1.deed 0 f.toNat (frameF r) with left := if 0 < d1.left then d1.left - 1 else d1.left } := by rw [hd2, c2]
  have b2 : d2.b f.toNat = frameF r := by rw [hd2']; show (d1.deed 0 f.toNat (frameF r)).b f.toNat = _; rw [deed_b, if_pos rfl, b1]; rfl
  have n2 : ∀ j, j ≠ f.toNat → d2.b j = ds.b j ∧ d2.s j = ds.s j := fun j hj => by
    have := deed_ne d1 0 f.toNat (frameF r) hj
    rw [hd2']
    exact ⟨this.1.trans (n1 j hj).1, this.2.trans (n1 j hj).2⟩
  have w2 : d2.down = false := by rw [hd2']; exact (deed_down d1 0 f.toNat (frameF r)).trans w1
  have l2 : d2.left ≠ 0 ∧ -1 ≤ d2.left ∧ (ds.left = -1 → d2.left = -1) := by
    have e : d2.left = if 0 < d1.left then d1.left - 1 else d1.left := by rw [hd2']
    rw [e]
    have := l1.2.2.2
    split <;> omega
  have c3 := call_upK (q := 1) (ys := []) hf w2 (by rw [b2]; simp; omega)
  rw [if_neg l2.1] at c3
  obtain ⟨d3, hd3⟩ : ∃ d, d = (callF 1 d2 f []).1 := ⟨_, rfl⟩
  have e3 : callF 1 d2 f [] = (d3, 0) := by rw [hd3, c3]
  have hd3' : d3 = { d2.deed 1 f.toNat [] with left := if 0 < d2.left then d2.left - 1 else d2.left } := by rw [hd3, c3]
  refine ⟨d3, ?_, ?_, ?_, ?_, ?_, ?_, fun j hj => ?_⟩
  · unfold writeF
    rw [if_neg (by omega), e1]
    simp only
    rw [if_neg (by simp), e2]
    simp only
    rw [if_neg (by simp), e3]
  · rw [hd3']; exact (deed_down d2 1 f.toNat []).trans w2
  · have e : d3.left = if 0 < d2.left then d2.left - 1 else d2.left := by rw [hd3']
    rw [e]
    have := l2.2.1
    split <;> omega
  · intro h
    have e : d3.left = if 0 < d2.left then d2.left - 1 else d2.left := by rw [hd3']
    rw [e, l2.2.2 h]
    rfl
  · rw [hd3']; show (d2.deed 1 f.toNat []).b f.toNat = _; rw [deed_b, if_neg (by decide), if_pos rfl, b2]
  · rw [hd3']; show (d2.deed 1 f.toNat []).s f.toNat = _; rw [deed_s, if_neg (by decide), if_pos rfl, b2]
  · have := deed_ne d2 1 f.toNat [] hj
    rw [hd3']
    exact ⟨this.1.trans (n2 j hj).1, this.2.trans (n2 j hj).2⟩
theorem write_down {ds : DS} {f : Int} {r : JRec} (hf : 0 ≤ f ∧ f ≤ 3) (hd : ds.down = false) (hlf : ds.left = 0 ∨ ds.left = 1 ∨ ds.left = 2) (hb : (ds.b f.toNat).length ≤ 1048576) (hr : r.2.length ≤ 65536) (hl : (frameF r).length ≤ 1048576) :
    ∃ ds', writeF ds f r = (ds', 17) ∧ ((ds'.b f.toNat = ds.b f.toNat ∧ ds'.s f.toNat = ds.s f.toNat) ∨ (ds'.b f.toNat = frameF r ∧ ds'.s f.toNat = 0)) ∧ ∀ j, j ≠ f.toNat → ds'.b j = ds.b j ∧ ds'.s j = ds.s j := by
  have c1 := call_upK (q := 2) (ys := []) hf hd (by simp; omega)
  by_cases h0 : ds.left = 0
  · rw [if_pos h0, if_neg (by decide)] at c1
    refine ⟨{ ds with left := -1, down := true }, ?_, .inl ⟨rfl, rfl⟩, fun j hj => ⟨rfl, rfl⟩⟩
    unfold writeF
    rw [if_neg (by omega), c1]
    simp only
    rw [if_pos (by simp)]
  rw [if_neg h0] at c1
  obtain ⟨d1, hd1⟩ : ∃ d, d = (callF 2 ds f []).1 := ⟨_, rfl⟩
  have e1 : callF 2 ds f [] = (d1, 0) := by rw [hd1, c1]
  have hd1' : d1 = { ds.deed 2 f.toNat [] with left := if 0 < ds.left then ds.left - 1 else ds.left } := by rw [hd1, c1]
  have b1 : d1.b f.toNat = [] := by rw [hd1']; show (ds.deed 2 f.toNat []).b f.toNat = _; rw [deed_b, if_neg (by decide), if_neg (by decide)]
  have s1 : d1.s f.toNat = 0 := by rw [hd1']; show (ds.deed 2 f.toNat []).s f.toNat = _; rw [deed_s, if_neg (by decide), if_neg (by decide)]
  have n1 : ∀ j, j ≠ f.toNat → d1.b j = ds.b j ∧ d1.s j = ds.s j := fun j hj => by rw [hd1']; exact deed_ne ds 2 f.toNat [] hj
  have w1 : d1.down = false := by rw [hd1']; exact (deed_down ds 2 f.toNat []).trans hd
  have l1 : d1.left = ds.left - 1 := by
    have e : d1.left = if 0 < ds.left then ds.left - 1 else ds.left := by rw [hd1']
    rw [e, if_pos (by omega)]
  have c2 := call_upK (q := 0) (ys := frameF r) hf w1 (by rw [b1]; simp; omega)
  by_cases h1 : d1.left = 0
  · rw [if_pos h1, if_pos rfl] at c2
    refine ⟨{ d1.deed 0 f.toNat (frameF r) with left := -1, down := true }, ?_, .inr ⟨?_, ?_⟩, fun j hj => ?_⟩
    · unfold writeF
      rw [if_neg (by omega), e1]
      simp only
      rw [if_neg (by simp), c2]
      simp only
      rw [if_pos (by simp)]
    · show (d1.deed 0 f.toNat (frameF r)).b f.toNat = _; rw [deed_b, if_pos rfl, b1]; rfl
    · show (d1.deed 0 f.toNat (frameF r)).s f.toNat = _; rw [deed_s, if_pos rfl, s1]
    · have := deed_ne d1 0 f.toNat (frameF r) hj
      exact ⟨this.1.trans (n1 j hj).1, this.2.trans (n1 j hj).2⟩
  rw [if_neg h1] at c2
  obtain ⟨d2, hd2⟩ : ∃ d, d = (callF 0 d1 f (frameF r)).1 := ⟨_, rfl⟩
  have e2 : callF 0 d1 f (frameF r) = (d2, 0) := by rw [hd2, c2]
  have hd2' : d2 = { d1.deed 0 f.toNat (frameF r) with left := if 0 < d1.left then d1.left - 1 else d1.left } := by rw [hd2, c2]
  have b2 : d2.b f.toNat = frameF r := by rw [hd2']; show (d1.deed 0 f.toNat (frameF r)).b f.toNat = _; rw [deed_b, if_pos rfl, b1]; rfl
  have s2 : d2.s f.toNat = 0 := by rw [hd2']; show (d1.deed 0 f.toNat (frameF r)).s f.toNat = _; rw [deed_s, if_pos rfl, s1]
  have n2 : ∀ j, j ≠ f.toNat → d2.b j = ds.b j ∧ d2.s j = ds.s j := fun j hj => by
    have := deed_ne d1 0 f.toNat (frameF r) hj
    rw [hd2']
    exact ⟨this.1.trans (n1 j hj).1, this.2.trans (n1 j hj).2⟩
  have w2 : d2.down = false := by rw [hd2']; exact (deed_down d1 0 f.toNat (frameF r)).trans w1
  have l2 : d2.left = 0 := by
    have e : d2.left = if 0 < d1.left then d1.left - 1 else d1.left := by rw [hd2']
    rw [e, if_pos (by omega)]
    omega
  have c3 := call_upK (q := 1) (ys := []) hf w2 (by rw [b2]; simp; omega)
  rw [if_pos l2, if_neg (by decide)] at c3
  refine ⟨{ d2 with left := -1, down := true }, ?_, .inr ⟨b2, s2⟩, n2⟩
  unfold writeF
  rw [if_neg (by omega), e1]
  simp only
  rw [if_neg (by simp), e2]
  simp only
  rw [if_neg (by simp), c3]
/-- the files have what is told of them -/
structure SInv (st : SS) (ds : DS) : Prop where
  down : ds.down = false
  left : -1 ≤ ds.left
  files : 0 ≤ st.f0 ∧ st.f0 ≤ 3 ∧ 0 ≤ st.f1 ∧ st.f1 ≤ 3 ∧ st.f0 ≠ st.f1
  ok : st.failed = false
  len : (ds.b st.f0.toNat).length ≤ 1048576 ∧ (ds.b st.f1.toNat).length ≤ 1048576
  safe : ds.s st.f0.toNat = (ds.b st.f0.toNat).length ∧ ds.s st.f1.toNat = (ds.b st.f1.toNat).length
  has : (st.last = -1 ∧ st.gen = 0 ∧ st.text = [] ∧ genF (ds.b st.f0.toNat) ≤ 0 ∧ genF (ds.b st.f1.toNat) ≤ 0) ∨
        (st.last = 0 ∧ 1 ≤ st.gen ∧ onlyF (ds.b st.f0.toNat) = some (st.gen, st.text) ∧ genF (ds.b st.f1.toNat) < st.gen) ∨
        (st.last = 1 ∧ 1 ≤ st.gen ∧ onlyF (ds.b st.f1.toNat) = some (st.gen, st.text) ∧ genF (ds.b st.f0.toNat) < st.gen)
theorem stepS_gen {st : SS} {i : Int} {xs : List Int} (h : genF xs ≤ st.gen) : stepS st i xs = st := by
  unfold stepS
  unfold genF at h
  cases ho : onlyF xs with
  | none => rfl
  | some r => rw [ho] at h; simp only at h ⊢; rw [if_neg (by omega)]
theorem stepS_some {st : SS} {i : Int} {xs : List Int} {r : JRec} (h : onlyF xs = some r) (hg : st.gen < r.1) : stepS st i xs = { st with last := i, text := r.2, gen := r.1 } := by
  unfold stepS
  rw [h]
  simp only
  rw [if_pos hg]
theorem SInv.open_ {st : SS} {ds : DS} (h : SInv st ds) : openS ds st.f0 st.f1 = st := by
  obtain ⟨f0, f1, last, text, gen, failed⟩ := st
  have hok := h.ok
  simp only at hok
  subst hok
  unfold openS
  rcases h.has with ⟨h1, h2, h3, h4, h5⟩ | ⟨h1, h2, h3, h4⟩ | ⟨h1, h2, h3, h4⟩
  · simp only at h1 h2 h3 h4 h5
    subst h1 h2 h3
    rw [stepS_gen (st := ⟨f0, f1, -1, [], 0, false⟩) h4, stepS_gen h5]
  · simp only at h1 h2 h3 h4
    subst h1
    rw [stepS_some (st := ⟨f0, f1, -1, [], 0, false⟩) h3 (by simp only; omega)]
    exact stepS_gen (by simp only; omega)
  · simp only at h1 h2 h3 h4
    subst h1
    rw [stepS_some h3]
    · have := stepS_files ⟨f0, f1, -1, [], 0, false⟩ 0 (ds.b f0.toNat)
      simp only at this
      obtain ⟨e1, e2, e3⟩ := this
      generalize stepS ⟨f0, f1, -1, [], 0, false⟩ 0 (ds.b f0.toNat) = s at *
      obtain ⟨a0, a1, a2, a3, a4, a5⟩ := s
      simp only at e1 e2 e3
      subst e1 e2 e3
      rfl
    · simp only
      by_cases hz : genF (ds.b f0.toNat) ≤ 0
      · rw [stepS_gen (st := ⟨f0, f1, -1, [], 0, false⟩) hz]; simp only; omega
      · cases ho : onlyF (ds.b f0.toNat) with
        | none => unfold genF at hz; rw [ho] at hz; simp at hz
        | some r =>
          unfold genF at hz h4
          rw [ho] at hz h4
          simp only at hz h4
          rw [stepS_some (st := ⟨f0, f1, -1, [], 0, false⟩) ho (by simp only; omega)]
          exact h4
theorem genF_nil : genF [] = 0 := by unfold genF; rw [only_nil]
theorem SInv.new {f0 f1 : Int} (hf : 0 ≤ f0 ∧ f0 ≤ 3 ∧ 0 ≤ f1 ∧ f1 ≤ 3 ∧ f0 ≠ f1) : SInv (st0 f0 f1) newF := by
  have hb : ∀ k, newF.b k = [] := fun _ => rfl
  have hs : ∀ k, newF.s k = 0 := fun _ => rfl
  have hl : newF.left = -1 := rfl
  have hd : newF.down = false := rfl
  generalize newF = n at hb hs hl hd
  refine ⟨hd, by omega, hf, rfl, ⟨?_, ?_⟩, ⟨?_, ?_⟩, .inl ⟨rfl, rfl, rfl, ?_, ?_⟩⟩
  · rw [hb]; exact Nat.zero_le _
  · rw [hb]; exact Nat.zero_le _
  · rw [hb, hs]; rfl
  · rw [hb, hs]; rfl
  · rw [hb, genF_nil]; exact Int.le_refl 0
  · rw [hb, genF_nil]; exact Int.le_refl 0
theorem toNat_ne {a b : Int} (ha : 0 ≤ a) (hb : 0 ≤ b) (h : a ≠ b) : a.toNat ≠ b.toNat := by omega
/-- a text more -/
def nextS (st : SS) (bs : List Int) : SS := { st with last := if st.last = 0 then 1 else 0, text := bs, gen := st.gen + 1, failed := false }
theorem genF_some {xs : List Int} {r : JRec} (h : onlyF xs = some r) : genF xs = r.1 := by unfold genF; rw [h]
theorem genF_none {xs : List Int} (h : onlyF xs = none) : genF xs = 0 := by unfold genF; rw [h]
theorem genF_frame {r : JRec} (h : GoodR r) : genF (frameF r) = r.1 := genF_some (only_frame h)
/-- what the files have behind a file that is written whole -/
theorem SInv.next2 {st : SS} {ds ds' : DS} (h : SInv st ds) {bs : List Int} (hg : GoodR (st.gen + 1, bs)) (hd : ds'.down = false) (hl : -1 ≤ ds'.left)
    (hb : ds'.b (if st.last = 0 then st.f1 else st.f0).toNat = frameF (st.gen + 1, bs)) (hs : ds'.s (if st.last = 0 then st.f1 else st.f0).toNat = (frameF (st.gen + 1, bs)).length)
    (hn : ∀ j, (j = st.f0.toNat ∨ j = st.f1.toNat) → j ≠ (if st.last = 0 then st.f1 else st.f0).toNat → ds'.b j = ds.b j ∧ ds'.s j = ds.s j) : SInv (nextS st bs) ds' := by
  have hfl : (frameF (st.gen + 1, bs)).length ≤ 1048576 := by have := body_len hg; rw [frame_len]; omega
  obtain ⟨hf0, hf0', hf1, hf1', hne⟩ := h.files
  have hnn := toNat_ne hf0 hf1 hne
  by_cases hl0 : st.last = 0
  · rw [if_pos hl0] at hb hs hn
    have ho := hn st.f0.toNat (.inl rfl) hnn
    rcases h.has with ⟨h1, _⟩ | ⟨h1, h2, h3, h4⟩ | ⟨h1, _⟩
    · omega
    · refine ⟨hd, hl, h.files, rfl, ⟨by show (ds'.b st.f0.toNat).length ≤ _; rw [ho.1]; exact h.len.1, by show (ds'.b st.f1.toNat).length ≤ _; rw [hb]; exact hfl⟩, ⟨by show ds'.s st.f0.toNat = (ds'.b st.f0.toNat).length; rw [ho.2, ho.1]; exact h.safe.1, by show ds'.s st.f1.toNat = (ds'.b st.f1.toNat).length; rw [hs, hb]⟩, .inr (.inr ⟨by unfold nextS; simp [hl0], by show 1 ≤ st.gen + 1; omega, by show onlyF (ds'.b st.f1.toNat) = some (st.gen + 1, bs); rw [hb]; exact only_frame hg, ?_⟩)⟩
      show genF (ds'.b st.f0.toNat) < st.gen + 1
      rw [ho.1]
      rw [genF_some h3]
      show st.gen < st.gen + 1
      omega
    · omega
  · rw [if_neg hl0] at hb hs hn
    have ho := hn st.f1.toNat (.inr rfl) hnn.symm
    refine ⟨hd, hl, h.files, rfl, ⟨by show (ds'.b st.f0.toNat).length ≤ _; rw [hb]; exact hfl, by show (ds'.b st.f1.toNat).length ≤ _; rw [ho.1]; exact h.len.2⟩, ⟨by show ds'.s st.f0.toNat = (ds'.b st.f0.toNat).length; rw [hs, hb], by show ds'.s st.f1.toNat = (ds'.b st.f1.toNat).length; rw [ho.2, ho.1]; exact h.safe.2⟩, .inr (.inl ⟨by unfold nextS; simp [hl0], ?_, by show onlyF (ds'.b st.f0.toNat) = some (st.gen + 1, bs); rw [hb]; exact only_frame hg, ?_⟩)⟩
    · show 1 ≤ st.gen + 1
      rcases h.has with ⟨_, h2, _⟩ | ⟨h1, _⟩ | ⟨_, h2, _⟩ <;> omega
    · show genF (ds'.b st.f1.toNat) < st.gen + 1
      rw [ho.1]
      rcases h.has with ⟨_, h2, _, _, h5⟩ | ⟨h1, _⟩ | ⟨_, h2, h3, _⟩
      · omega
      · omega
      · rw [genF_some h3]
        show st.gen < st.gen + 1
        omega
/-- the other file turned to what tells no text -/
theorem SInv.lost2 {st : SS} {ds ds' : DS} (h : SInv st ds) (hd : ds'.down = false) (hl : -1 ≤ ds'.left)
    (hb : genF (ds'.b (if st.last = 0 then st.f1 else st.f0).toNat) ≤ 0) (hbl : (ds'.b (if st.last = 0 then st.f1 else st.f0).toNat).length ≤ 1048576) (hs : ds'.s (if st.last = 0 then st.f1 else st.f0).toNat = (ds'.b (if st.last = 0 then st.f1 else st.f0).toNat).length)
    (hn : ∀ j, (j = st.f0.toNat ∨ j = st.f1.toNat) → j ≠ (if st.last = 0 then st.f1 else st.f0).toNat → ds'.b j = ds.b j ∧ ds'.s j = ds.s j) : SInv st ds' := by
  obtain ⟨hf0, hf0', hf1, hf1', hne⟩ := h.files
  have hnn := toNat_ne hf0 hf1 hne
  by_cases hl0 : st.last = 0
  · rw [if_pos hl0] at hb hs hn hbl
    have ho := hn st.f0.toNat (.inl rfl) hnn
    rcases h.has with ⟨h1, _⟩ | ⟨h1, h2, h3, h4⟩ | ⟨h1, _⟩
    · omega
    · exact ⟨hd, hl, h.files, h.ok, ⟨by rw [ho.1]; exact h.len.1, hbl⟩, ⟨by rw [ho.2, ho.1]; exact h.safe.1, hs⟩, .inr (.inl ⟨h1, h2, by rw [ho.1]; exact h3, by omega⟩)⟩
    · omega
  · rw [if_neg hl0] at hb hs hn hbl
    have ho := hn st.f1.toNat (.inr rfl) hnn.symm
    refine ⟨hd, hl, h.files, h.ok, ⟨hbl, by rw [ho.1]; exact h.len.2⟩, ⟨hs, by rw [ho.2, ho.1]; exact h.safe.2⟩, ?_⟩
    rcases h.has with ⟨h1, h2, h3, h4, h5⟩ | ⟨h1, _⟩ | ⟨h1, h2, h3, h4⟩
    · exact .inl ⟨h1, h2, h3, hb, by rw [ho.1]; exact h5⟩
    · omega
    · exact .inr (.inr ⟨h1, h2, by rw [ho.1]; exact h3, by omega⟩)
theorem save_ok {st : SS} {ds : DS} (h : SInv st ds) {bs : List Int} (hg : GoodR (st.gen + 1, bs)) (hgm : st.gen < 4611686018427387904) (hlf : ds.left ≠ 0 ∧ ds.left ≠ 1 ∧ ds.left ≠ 2) :
    ∃ ds', saveS st ds bs = (nextS st bs, ds', 0) ∧ SInv (nextS st bs) ds' ∧ (ds.left = -1 → ds'.left = -1) := by
  have hfl : (frameF (st.gen + 1, bs)).length ≤ 1048576 := by have := body_len hg; rw [frame_len]; omega
  obtain ⟨hf0, hf0', hf1, hf1', hne⟩ := h.files
  have hfr : 0 ≤ (if st.last = 0 then st.f1 else st.f0) ∧ (if st.last = 0 then st.f1 else st.f0) ≤ 3 := by split <;> omega
  obtain ⟨ds', e, w, l, ll, b, s, n⟩ := write_ok (r := (st.gen + 1, bs)) hfr h.down ⟨h.left, hlf⟩ (by split; exact h.len.2; exact h.len.1) hg.len hfl
  refine ⟨ds', ?_, h.next2 hg w l b s (fun j _ hj => n j hj), ll⟩
  unfold saveS
  rw [if_neg (by rw [h.ok]; simp), if_neg (by have := hg.len; simp only at this; omega), if_neg (by omega)]
  unfold saveF
  rw [e, if_neg (by simp)]
  rfl
theorem save_down {st : SS} {ds : DS} (h : SInv st ds) {bs : List Int} (hg : GoodR (st.gen + 1, bs)) (hgm : st.gen < 4611686018427387904) (hlf : ds.left = 0 ∨ ds.left = 1 ∨ ds.left = 2) :
    ∃ ds', saveS st ds bs = ({ st with failed := true }, ds', 17) ∧ ((ds'.b (if st.last = 0 then st.f1 else st.f0).toNat = ds.b (if st.last = 0 then st.f1 else st.f0).toNat ∧ ds'.s (if st.last = 0 then st.f1 else st.f0).toNat = ds.s (if st.last = 0 then st.f1 else st.f0).toNat) ∨ (ds'.b (if st.last = 0 then st.f1 else st.f0).toNat = frameF (st.gen + 1, bs) ∧ ds'.s (if st.last = 0 then st.f1 else st.f0).toNat = 0)) ∧ ∀ j, j ≠ (if st.last = 0 then st.f1 else st.f0).toNat → ds'.b j = ds.b j ∧ ds'.s j = ds.s j := by
  have hfl : (frameF (st.gen + 1, bs)).length ≤ 1048576 := by have := body_len hg; rw [frame_len]; omega
  obtain ⟨hf0, hf0', hf1, hf1', hne⟩ := h.files
  have hfr : 0 ≤ (if st.last = 0 then st.f1 else st.f0) ∧ (if st.last = 0 then st.f1 else st.f0) ≤ 3 := by split <;> omega
  obtain ⟨ds', e, b, n⟩ := write_down (r := (st.gen + 1, bs)) hfr h.down hlf (by split; exact h.len.2; exact h.len.1) hg.len hfl
  refine ⟨ds', ?_, b, n⟩
  unfold saveS
  rw [if_neg (by rw [h.ok]; simp), if_neg (by have := hg.len; simp only at this; omega), if_neg (by omega)]
  unfold saveF
  rw [e, if_pos (by simp)]
/-- the same files -/
theorem SInv.same {st : SS} {ds ds' : DS} (h : SInv st ds) (hd : ds'.down = false) (hl : -1 ≤ ds'.left) (h0 : ds'.b st.f0.toNat = ds.b st.f0.toNat ∧ ds'.s st.f0.toNat = ds.s st.f0.toNat) (h1 : ds'.b st.f1.toNat = ds.b st.f1.toNat ∧ ds'.s st.f1.toNat = ds.s st.f1.toNat) : SInv st ds' := by
  obtain ⟨_, _, hf, hok, hlen, hsf, hhas⟩ := h
  rw [← h0.1, ← h1.1] at hlen hhas
  rw [← h0.1, ← h1.1, ← h0.2, ← h1.2] at hsf
  exact ⟨hd, hl, hf, hok, hlen, hsf, hhas⟩
theorem fallF_b (ds : DS) (K : Nat → Int) {j : Nat} (hj : j < 4) : (fallF ds K).b j = (ds.b j).take (fallS ds K j) := if_pos hj
theorem fallF_s (ds : DS) (K : Nat → Int) {j : Nat} (hj : j < 4) : (fallF ds K).s j = fallS ds K j := if_pos hj
theorem fall_safe {ds : DS} (K : Nat → Int) {j : Nat} (hj : j < 4) (hs : ds.s j = (ds.b j).length) : (fallF ds K).b j = ds.b j ∧ (fallF ds K).s j = ds.s j := by
  have e : fallS ds K j = ds.s j := by unfold fallS; omega
  rw [fallF_b ds K hj, fallF_s ds K hj, e, hs]
  exact ⟨List.take_length, rfl⟩
/-- what is there behind a fall -/
theorem fall_after {st : SS} {ds ds' : DS} (h : SInv st ds) {bs : List Int} (hg : GoodR (st.gen + 1, bs)) (K : Nat → Int)
    (hb : (ds'.b (if st.last = 0 then st.f1 else st.f0).toNat = ds.b (if st.last = 0 then st.f1 else st.f0).toNat ∧ ds'.s (if st.last = 0 then st.f1 else st.f0).toNat = ds.s (if st.last = 0 then st.f1 else st.f0).toNat) ∨ (ds'.b (if st.last = 0 then st.f1 else st.f0).toNat = frameF (st.gen + 1, bs) ∧ ds'.s (if st.last = 0 then st.f1 else st.f0).toNat = 0))
    (hn : ∀ j, j ≠ (if st.last = 0 then st.f1 else st.f0).toNat → ds'.b j = ds.b j ∧ ds'.s j = ds.s j) : SInv st (fallF ds' K) ∨ SInv (nextS st bs) (fallF ds' K) := by
  obtain ⟨hf0, hf0', hf1, hf1', hne⟩ := h.files
  have hsafe : ∀ j, j = st.f0.toNat ∨ j = st.f1.toNat → ds.s j = (ds.b j).length := fun j hj => by
    rcases hj with rfl | rfl
    · exact h.safe.1
    · exact h.safe.2
  have keep : ∀ j, j = st.f0.toNat ∨ j = st.f1.toNat → (ds'.b j = ds.b j ∧ ds'.s j = ds.s j) → (fallF ds' K).b j = ds.b j ∧ (fallF ds' K).s j = ds.s j := fun j hj he => by
    have h4 : j < 4 := by rcases hj with rfl | rfl <;> omega
    have := fall_safe (ds := ds') K h4 (by rw [he.1, he.2]; exact hsafe j hj)
    exact ⟨this.1.trans he.1, this.2.trans he.2⟩
  rcases hb with hb | ⟨hb, hs⟩
  · have all : ∀ j, ds'.b j = ds.b j ∧ ds'.s j = ds.s j := fun j => by
      by_cases e : j = (if st.last = 0 then st.f1 else st.f0).toNat
      · rw [e]; exact hb
      · exact hn j e
    exact .inl (h.same rfl (by show -1 ≤ (-1 : Int); decide) (keep _ (.inl rfl) (all _)) (keep _ (.inr rfl) (all _)))
  · obtain ⟨o, ho⟩ : ∃ o, o = (if st.last = 0 then st.f1 else st.f0).toNat := ⟨_, rfl⟩
    have ho4 : o < 4 ∧ (o = st.f0.toNat ∨ o = st.f1.toNat) := by rw [ho]; split <;> constructor <;> omega
    have e := fallF_b ds' K ho4.1
    have es := fallF_s ds' K ho4.1
    obtain ⟨m, hm⟩ : ∃ m, m = fallS ds' K o := ⟨_, rfl⟩
    rw [← ho] at hb hs hn
    have hml : m ≤ (frameF (st.gen + 1, bs)).length := by rw [hm]; unfold fallS; rw [hb, hs]; omega
    rw [← hm, hb] at e
    rw [← hm] at es
    have hbl := body_len hg
    have hn2 : ∀ j, (j = st.f0.toNat ∨ j = st.f1.toNat) → j ≠ o → (fallF ds' K).b j = ds.b j ∧ (fallF ds' K).s j = ds.s j := fun j hj hne => keep j hj (hn j hne)
    by_cases hlt : m < (frameF (st.gen + 1, bs)).length
    · refine .inl (h.lost2 rfl (by show -1 ≤ (-1 : Int); decide) ?_ ?_ ?_ ?_)
      · rw [← ho, e, genF_none (only_cut hg hlt)]; exact Int.le_refl 0
      · rw [← ho, e, List.length_take]; have := frame_len (st.gen + 1, bs); omega
      · rw [← ho, e, es, List.length_take]; omega
      · rw [← ho]; exact hn2
    · refine .inr (h.next2 hg rfl (by show -1 ≤ (-1 : Int); decide) ?_ ?_ ?_)
      · rw [← ho, e, List.take_of_length_le (by omega)]
      · rw [← ho, es]; omega
      · rw [← ho]; exact hn2
end Go.Proofs.YtomhfnaekjmjnaaDoor
namespace Go.Proofs.YtomhfnaekjmjnaaDoor
set_option linter.unusedVariables false
open Go.ChangeShapes Go.WideShapes Go.ChangeAt Go.RowKit

/-- a text, how the disk is armed, how many bytes stay -/
structure SavV where
  b : List Int
  arm : Int
  kp : Int
  deriving Inhabited
structure SavC (w : World) (b o : Nat) (a : SavV) : Prop where
  c0 : TxtC w ⟨b, o, none⟩ a.b
  c1 : w.cell? ⟨b, o + 1, none⟩ = some (.int .i64 a.arm)
  c2 : w.cell? ⟨b, o + 2, none⟩ = some (.int .i64 a.kp)
  arm_in : -9223372036854775808 ≤ a.arm ∧ a.arm ≤ 9223372036854775807
def SavsAt (w : World) (ad : Option Addr) (len : Nat) (A : Nat → SavV) : Prop := len ≤ 9223372036854775807 ∧ (0 < len → ∃ b off, ad = some ⟨b, off, none⟩ ∧ ∀ k, k < len → SavC w b (off + k * 3) (A k))
theorem cells_sav : Tryd.prog.cellsOf 70 = 3 := by kernel_rfl
set_option maxRecDepth 100000 in
theorem savs_open {H : Type} {enc : TypeId × Value → H} {W : World} {a : Option Addr} {len cap : Nat} {d : DataW H} {p : List MemPlace}
    (h : DataW.Trod enc Tryd.prog W 0 (fun _ => true) true 65 (.slice a len cap) d p) : ∃ A : Nat → SavV, SavsAt W a len A := by
  obtain ⟨fuel, hf⟩ := h
  rcases Go.Deep.open_slice Tryd.underlying65 hf with ⟨hcs, _⟩ | ⟨x, l, c, m, n, D, Pl, hcs, _, hl, hm, hmm, hd, hcell⟩
  · simp [Value.cells] at hcs
    obtain ⟨rfl, rfl, rfl⟩ := hcs
    exact ⟨fun _ => ⟨[], 0, 0⟩, by omega, fun h => absurd h (by omega)⟩
  · simp [Value.cells] at hcs
    obtain ⟨rfl, rfl, rfl⟩ := hcs
    have hlm : len ≤ m := by rw [hmm]; split <;> omega
    rw [cells_sav] at hcell
    by_cases h0 : len = 0
    · exact ⟨fun _ => ⟨[], 0, 0⟩, by omega, fun h => absurd h (by omega)⟩
    obtain ⟨b, off, spot⟩ := x
    have hspot : spot = none := by
      obtain ⟨cs', h1, _⟩ := hcell 0 (by omega)
      obtain ⟨_, hlen, hc⟩ := World.cells?_some h1
      have := hc 0 (by omega)
      have hs : cs'[0]? = some cs'[0] := List.getElem?_eq_getElem (by omega)
      rw [hs] at this
      simpa [Addr.add] using World.cell?_spot this
    subst hspot
    have hplain : ∀ k, (⟨b, off, none⟩ : Addr).add k = ⟨b, off + k, none⟩ := fun k => by unfold Addr.add; split <;> simp_all
    have hplain2 : ∀ k j, ((⟨b, off, none⟩ : Addr).add k).add j = ⟨b, off + k + j, none⟩ := fun k j => by rw [Go.Deep.add_add, hplain, Nat.add_assoc]
    have each : ∀ i, i < len → ∃ q : SavV, SavC W b (off + i * 3) q := by
      intro i hi
      obtain ⟨cs', h1, h2⟩ := hcell i (by omega)
      obtain ⟨_, hlen, hc⟩ := World.cells?_some h1
      obtain ⟨xs, k, hk, _, _, hxl, hff⟩ := DataW.trod_struct Tryd.underlying70 h2
      match xs, hxl, cs', hlen with
      | [y0, y1, y2], _, [v0, v1, v2], _ =>
        have g0 := hff 0 _ rfl
        have g1 := hff 1 _ rfl
        have g2 := hff 2 _ rfl
        simp [cells_one] at g0 g1 g2
        have c : ∀ j, j < 3 → W.cell? ⟨b, off + i * 3 + j, none⟩ = [v0, v1, v2][j]? := fun j hj => by rw [← hplain2]; exact hc j hj
        obtain ⟨z1, e1, _, w1⟩ := DataW.trod_int Tryd.underlying3 g1
        obtain ⟨z2, e2, _, w2⟩ := DataW.trod_int Tryd.underlying3 g2
        simp at e1 e2
        subst e1 e2
        obtain ⟨bs, ad, c', rfl, ht⟩ := txtc_open g0
        exact ⟨⟨bs, z1, z2⟩, ⟨⟨ad, c', c 0 (by decide), ht⟩, c 1 (by decide), c 2 (by decide), i64_in w1⟩⟩
    obtain ⟨A, hA⟩ := Go.Deep.choose_lt (α := SavV) (p := fun i q => SavC W b (off + i * 3) q) each
    exact ⟨A, by unfold maxLen at hm; omega, fun _ => ⟨b, off, rfl, hA⟩⟩
/-- a slice of texts -/
def TxtsAt (w : World) (ad : Option Addr) (len : Nat) (A : Nat → List Int) : Prop := len ≤ 9223372036854775807 ∧ (0 < len → ∃ b off, ad = some ⟨b, off, none⟩ ∧ ∀ k, k < len → TxtC w ⟨b, off + k, none⟩ (A k))
set_option maxRecDepth 100000 in
theorem txts_open {H : Type} {enc : TypeId × Value → H} {W : World} {a : Option Addr} {len cap : Nat} {d : DataW H} {p : List MemPlace}
    (h : DataW.Trod enc Tryd.prog W 0 (fun _ => true) true 82 (.slice a len cap) d p) : ∃ A : Nat → List Int, TxtsAt W a len A := by
  obtain ⟨fuel, hf⟩ := h
  rcases Go.Deep.open_slice Tryd.underlying82 hf with ⟨hcs, _⟩ | ⟨x, l, c, m, n, D, Pl, hcs, _, hl, hm, hmm, hd, hcell⟩
  · simp [Value.cells] at hcs
    obtain ⟨rfl, rfl, rfl⟩ := hcs
    exact ⟨fun _ => [], by omega, fun h => absurd h (by omega)⟩
  · simp [Value.cells] at hcs
    obtain ⟨rfl, rfl, rfl⟩ := hcs
    have hlm : len ≤ m := by rw [hmm]; split <;> omega
    rw [cells_one.2.2] at hcell
    by_cases h0 : len = 0
    · exact ⟨fun _ => [], by omega, fun h => absurd h (by omega)⟩
    obtain ⟨b, off, spot⟩ := x
    have hspot : spot = none := by
      obtain ⟨cs', h1, _⟩ := hcell 0 (by omega)
      obtain ⟨_, hlen, hc⟩ := World.cells?_some h1
      have := hc 0 (by omega)
      have hs : cs'[0]? = some cs'[0] := List.getElem?_eq_getElem (by omega)
      rw [hs] at this
      simpa [Addr.add] using World.cell?_spot this
    subst hspot
    have hplain : ∀ k, (⟨b, off, none⟩ : Addr).add k = ⟨b, off + k, none⟩ := fun k => by unfold Addr.add; split <;> simp_all
    have each : ∀ i, i < len → ∃ q : List Int, TxtC W ⟨b, off + i, none⟩ q := by
      intro i hi
      obtain ⟨cs', h1, h2⟩ := hcell i (by omega)
      obtain ⟨_, hlen, hc⟩ := World.cells?_some h1
      match cs', hlen with
      | [v0], _ =>
        obtain ⟨bs, ad, c', rfl, ht⟩ := txtc_open h2
        have h3 := hc 0 (by decide)
        rw [Nat.mul_one, hplain] at h3
        exact ⟨bs, ad, c', by rw [show (⟨b, off + i, none⟩ : Addr) = (⟨b, off + i, none⟩ : Addr).add 0 from by unfold Addr.add; split <;> simp_all]; exact h3, ht⟩
    obtain ⟨A, hA⟩ := Go.Deep.choose_lt (α := List Int) (p := fun i q => TxtC W ⟨b, off + i, none⟩ q) each
    exact ⟨A, by unfold maxLen at hm; omega, fun _ => ⟨b, off, rfl, hA⟩⟩
end Go.Proofs.YtomhfnaekjmjnaaDoor
namespace Go.Proofs.YtomhfnaekjmjnaaDoor
set_option linter.unusedVariables false
open Go.ChangeShapes Go.WideShapes Go.ChangeAt Go.RowKit
attribute [local go_sem ↓] Go.wp_at_zero Go.wp_at_succ comesTo_value_eq comesTo_skip_eq comesTo_enter_eq Rl.comesToR_value_eq Rl.comesToR_skip_eq Rl.comesToR_enter_eq

theorem save_ok2 {st : SS} {ds : DS} (h : SInv st ds) {bs : List Int} (hg : GoodR (st.gen + 1, bs)) (hgm : st.gen < 4611686018427387904) (hlf : ds.left = -1) :
    ∃ ds', saveS st ds bs = (nextS st bs, ds', 0) ∧ SInv (nextS st bs) ds' ∧ ds'.left = -1 ∧ ∀ j, j ≠ (if st.last = 0 then st.f1 else st.f0).toNat → ds'.b j = ds.b j := by
  have hfl : (frameF (st.gen + 1, bs)).length ≤ 1048576 := by have := body_len hg; rw [frame_len]; omega
  obtain ⟨hf0, hf0', hf1, hf1', hne⟩ := h.files
  have hfr : 0 ≤ (if st.last = 0 then st.f1 else st.f0) ∧ (if st.last = 0 then st.f1 else st.f0) ≤ 3 := by split <;> omega
  obtain ⟨ds', e, w, l, ll, b, s, n⟩ := write_ok (r := (st.gen + 1, bs)) hfr h.down ⟨h.left, by omega, by omega, by omega⟩ (by split; exact h.len.2; exact h.len.1) hg.len hfl
  refine ⟨ds', ?_, h.next2 hg w l b s (fun j _ hj => n j hj), ll hlf, fun j hj => (n j hj).1⟩
  unfold saveS
  rw [if_neg (by rw [h.ok]; simp), if_neg (by have := hg.len; simp only at this; omega), if_neg (by omega)]
  unfold saveF
  rw [e, if_neg (by simp)]
  rfl
theorem turn_open {st : SS} {ds : DS} (h : SInv st ds) (h0 : st.f0 = 0) (h3 : st.f1 = 3) (hl : ds.left = -1) (hlast : st.last = 0 ∨ st.last = 1) {g : Int} {prev : List Int} (hg : 0 < g)
    (ho : onlyF (ds.b (if st.last = 0 then st.f1 else st.f0).toNat) = some (g, prev)) {sl : Int} (hs : sl = if st.last = 0 then 0 else 3) :
    ∃ d', callF 2 ds sl [] = (d', 0) ∧ d'.down = false ∧ (openS d' 0 3).text = prev ∧ (openS d' 0 3).gen = g := by
  have hlen := h.len
  rw [h0, h3] at hlen ho
  have hb : (ds.b sl.toNat).length ≤ 1048576 := by
    rcases hlast with e | e <;> rw [e] at hs <;> subst hs
    · exact hlen.1
    · exact hlen.2
  have hsl : 0 ≤ sl ∧ sl ≤ 3 := by rcases hlast with e | e <;> rw [e] at hs <;> subst hs <;> decide
  have c := call_upK (q := 2) (ys := []) hsl h.down (by simp; omega)
  rw [if_neg (by omega)] at c
  have hz0 : genF [] ≤ 0 := by rw [genF_nil]; exact Int.le_refl 0
  refine ⟨_, c, (deed_down ds 2 sl.toNat []).trans h.down, ?_⟩
  have hd : ∀ j, ({ ds.deed 2 sl.toNat [] with left := if 0 < ds.left then ds.left - 1 else ds.left } : DS).b j = (ds.deed 2 sl.toNat []).b j := fun _ => rfl
  unfold openS
  rw [hd, hd]
  have e0 : (ds.deed 2 sl.toNat []).b sl.toNat = [] := by rw [deed_b, if_neg (by decide), if_neg (by decide)]
  rcases hlast with e | e <;> rw [e] at hs ho <;> subst hs
  · have e1 := (deed_ne ds 2 (0 : Int).toNat [] (j := (3 : Int).toNat) (by decide)).1
    rw [show (if (0 : Int) = 0 then (0 : Int) else 3) = 0 from rfl] at e0 ⊢
    have ho' : onlyF (ds.b (3 : Int).toNat) = some (g, prev) := ho
    rw [e0, e1, stepS_gen (st := ⟨0, 3, -1, [], 0, false⟩) hz0, stepS_some (st := ⟨0, 3, -1, [], 0, false⟩) ho' hg]
    exact ⟨rfl, rfl⟩
  · have e1 := (deed_ne ds 2 (3 : Int).toNat [] (j := (0 : Int).toNat) (by decide)).1
    rw [show (if (1 : Int) = 0 then (0 : Int) else 3) = 3 from rfl] at e0 ⊢
    have ho' : onlyF (ds.b (0 : Int).toNat) = some (g, prev) := ho
    rw [e0, e1, stepS_some (st := ⟨0, 3, -1, [], 0, false⟩) ho' hg, stepS_gen (by rw [genF_nil]; exact Int.le_of_lt hg)]
    exact ⟨rfl, rfl⟩
/-- behind k texts -/
structure TAt (W : World) (S D : Nat) (A : Nat → List Int) (k : Nat) (st : SS) (wr : World) : Prop where
  sd : ∃ ds, SD wr S D (fun j => W.heap.size ≤ j) st ds ∧ SInv st ds ∧ ds.left = -1 ∧ (1 < k → onlyF (ds.b (if st.last = 0 then st.f1 else st.f0).toNat) = some ((k : Int) - 1, A (k - 2)))
  below : Below W.heap.size W wr
  files : st.f0 = 0 ∧ st.f1 = 3
  gen : st.gen = k
  last : st.last = if k = 0 then -1 else (((k - 1) % 2 : Nat) : Int)
  text : 0 < k → st.text = A (k - 1)
theorem TAt.next {W wr w' : World} {S D k : Nat} {A : Nat → List Int} {st : SS} (h : TAt W S D A k st wr) (hb : Below wr.heap.size wr w') : TAt W S D A k st w' := by
  obtain ⟨⟨ds, h1, h2⟩, h3, h4, h5, h6, h7⟩ := h
  exact ⟨⟨ds, h1.below hb, h2⟩, h3.trans (hb.mono h3.size), h4, h5, h6, h7⟩
set_option maxRecDepth 100000 in
set_option maxHeartbeats 8000000 in
theorem sturns_any (ad : Option Addr) (ll lcap : Nat) (A : Nat → List Int) (W : World) (hA : TxtsAt W ad ll A) (hE : ErrAt W) :
    Calls Tryd.prog 10 #[.slice ad ll lcap] W fun e W' => e = .returned (.bool true) ∧ Below W.heap.size W W' := by
  have hmx : Tryd.prog.follows .mixedOrders = true := by kernel_rfl
  have HA := Lib.hid hA
  have HE := Lib.hid (fun X (hX : Below W.heap.size W X) => hE.below hX)
  clear hA hE
  go_enter Tryd.func10, Tryd.ntmps10
  go_wp2_with fail
  refine (new_any W).mono ?_
  rintro e w1 ⟨D, rfl, hd, hb⟩
  go_wp2_with fail
  refine (sopen_any hd (HE.out _ hb) 0 3).mono ?_
  rintro e w2 ⟨hb2, h | h | h | ⟨_, _, _, S, rfl, hl⟩⟩
  · exact absurd h.1 (by decide)
  · exact absurd (by decide : wrongF newF.down 0 = 0) h.2.1
  · exact absurd (by decide : wrongF newF.down 3 = 0) h.2.2.1
  rw [sopen_new] at hl
  have KSL := Lib.hid (slot_sn hl)
  rw [show (if (st0 0 3).last = -1 then (-1 : Int) else if (st0 0 3).last = 0 then (st0 0 3).f0 else (st0 0 3).f1) = -1 from rfl] at KSL
  have HG0 := Lib.hid (show TAt W S D A 0 (st0 0 3) w2 from ⟨⟨newF, sopened hd hb.size hb2 hl, SInv.new (by decide), rfl, fun h => by omega⟩, hb.trans (hb2.mono hb.size), ⟨rfl, rfl⟩, rfl, rfl, fun h => by omega⟩)
  clear hd hb hb2 hl
  go_wp2_with fail
  refine KSL.out.mono ?_
  rintro e w3 ⟨rfl, hb3⟩
  have HG1 := Lib.hid (show TAt W S D A 0 (st0 0 3) w3 from by
    obtain ⟨⟨ds, h1, h2⟩, h3, h4, h5, h6, h7⟩ := HG0.out
    exact ⟨⟨ds, h1.below hb3, h2⟩, h3.trans (hb3.mono h3.size), h4, h5, h6, h7⟩)
  clear hb3 HG0 KSL
  go_wp2_with fail
  go_loopw [6] (fun i wr => ∃ (k : Nat) (st : SS), k ≤ 20 ∧ k ≤ ll ∧ i = .int .i64 k ∧ TAt W S D A k st wr) (fun i _ => 20 - (intOf i).toNat)
  case atStart => exact ⟨0, _, by decide, Nat.zero_le _, rfl, HG1.out⟩
  case round =>
    obtain ⟨k, st, hk20, hkl, rfl, hst⟩ := hrel
    have HST := Lib.hid hst
    clear hst HG1
    by_cases hlt : k < ll ∧ k < 20
    case neg =>
      have HO := Lib.hid (one_sn wr (HE.out _ HST.out.below))
      rcases (by omega : ¬ k < ll ∨ k < ll ∧ k = 20) with hx | ⟨hx, rfl⟩
      · have hd1 : decide (k < ll) = false := decide_eq_false (by omega)
        clear hlt
        go_wp2_with fail
        refine HO.out.mono ?_
        rintro e w' ⟨rfl, hb⟩
        have HB := Lib.hid (HST.out.below.trans (hb.mono HST.out.below.size))
        clear hb
        go_wp2_with fail
        go_ret
        exact ⟨rfl, HB.out⟩
      · have hd1 : decide (20 < ll) = true := decide_eq_true (by omega)
        clear hlt
        go_wp2_with fail
        refine HO.out.mono ?_
        rintro e w' ⟨rfl, hb⟩
        have HB := Lib.hid (HST.out.below.trans (hb.mono HST.out.below.size))
        clear hb
        go_wp2_with fail
        go_ret
        exact ⟨rfl, HB.out⟩
    case pos =>
      obtain ⟨b0, off, rfl, hrow⟩ := HA.out.2 (by omega)
      obtain ⟨sad, sc, k1, k2, k3, _⟩ := hrow k hlt.1
      have hbl := HST.out.below
      have q0 := (hbl.cell (p := ⟨b0, off + k, none⟩) (World.block_lt_of_cell? W _ k1)).trans k1
      have Q0 := Lib.hid (fun X (hX : Below W.heap.size W X) => (hX.cell (p := ⟨b0, off + k, none⟩) (World.block_lt_of_cell? W _ k1)).trans k1)
      have HK2 := Lib.hid (fun X (hX : Below W.heap.size W X) => k2.below hX)
      have HPV := Lib.hid (fun (hk : 0 < k) => hrow (k - 1) (by omega))
      have hd1 : decide (k < ll) = true := decide_eq_true hlt.1
      have hd2 : decide ((k : Int) < 20) = true := decide_eq_true (by omega)
      have hix : (k : Int) < (ll : Int) := by omega
      have hwk : IntKind.i64.wrap ((k : Int) + 1) = ((k + 1 : Nat) : Int) := by rw [IntKind.wrap_i64]; omega
      have HLT := Lib.hid (And.intro hlt (And.intro hk20 hkl))
      obtain ⟨m, hm⟩ : ∃ m, m = (A k).length := ⟨_, rfl⟩
      have HM := Lib.hid hm
      rw [← hm] at q0 k3 HK2 Q0
      have HB8 := Lib.hid (show ∀ x ∈ A k, 0 ≤ x ∧ x ≤ 255 from fun x hx => by
        obtain ⟨i, hi, rfl⟩ := List.getElem_of_mem hx
        have := k2.bytes8 i hi
        simpa [List.getD, List.getElem?_eq_getElem hi] using this)
      clear k1 k2 hbl hlt hm hk20 hkl hrow
      by_cases hb3 : 400 < m
      case pos =>
        have hd3 : decide ((m : Int) > 400) = true := decide_eq_true (by omega)
        have hd4 : decide (400 < m) = true := decide_eq_true hb3
        clear hb3
        go_wp2_with fail
        go_ret
        exact ⟨rfl, HST.out.below⟩
      case neg =>
      have hd3 : decide ((m : Int) > 400) = false := decide_eq_false (by omega)
      have hd4 : decide (400 < m) = false := decide_eq_false hb3
      have hgr : GoodR (st.gen + 1, A k) := ⟨by have := HST.out.gen; have := HLT.out; show -9223372036854775808 ≤ st.gen + 1 ∧ st.gen + 1 ≤ 9223372036854775807; omega, by have := HM.out; simp only; omega, HB8.out⟩
      obtain ⟨ds, hsd, hin, hlf, hprev⟩ := HST.out.sd
      obtain ⟨ds', e1, hin', hlf', hoth⟩ := save_ok2 hin hgr (by have := HST.out.gen; have := HLT.out; omega) hlf
      have KA := Lib.hid (savec_sd hsd sad m sc (A k) (fun w' hf => HK2.out w' (HST.out.below.trans (hf.below HST.out.below.size (fun j hj => hj)))))
      rw [e1] at KA
      clear hb3 hsd
      go_wp2_with fail
      refine KA.out.mono ?_
      rintro e w4 ⟨rfl, hsd4, hf4⟩
      have hbW4 : Below W.heap.size W w4 := HST.out.below.trans (hf4.below HST.out.below.size (fun j hj => hj))
      have hsd4' : SD w4 S D (fun j => W.heap.size ≤ j) (nextS st (A k)) ds' := hsd4.more fun j _ h => by have := HST.out.below.size; rcases h with h | h; exact h; omega
      obtain ⟨p, hp⟩ : ∃ p, p = k % 2 := ⟨_, rfl⟩
      obtain ⟨sl, hsl⟩ : ∃ sl : Int, sl = if p = 0 then 0 else 3 := ⟨_, rfl⟩
      have hlast' : (nextS st (A k)).last = (p : Int) := by
        show (if st.last = 0 then (1 : Int) else 0) = _
        rw [HST.out.last]
        by_cases h0 : k = 0
        · rw [if_pos h0, if_neg (by decide)]; omega
        · rw [if_neg h0]
          by_cases h1 : (((k - 1) % 2 : Nat) : Int) = 0
          · rw [if_pos h1]; omega
          · rw [if_neg h1]; omega
      have hslot : (if (nextS st (A k)).last = -1 then (-1 : Int) else if (nextS st (A k)).last = 0 then (nextS st (A k)).f0 else (nextS st (A k)).f1) = sl := by
        rw [hlast', show (nextS st (A k)).f0 = 0 from HST.out.files.1, show (nextS st (A k)).f1 = 3 from HST.out.files.2, if_neg (by omega), hsl]
        by_cases h0 : p = 0
        · rw [if_pos h0, if_pos (by omega)]
        · rw [if_neg h0, if_neg (by omega)]
      have hnext : 0 < k → onlyF (ds'.b (if (nextS st (A k)).last = 0 then (nextS st (A k)).f1 else (nextS st (A k)).f0).toNat) = some ((k : Int), A (k - 1)) := fun h0 => by
        have ht := HST.out.text h0
        have hg := HST.out.gen
        have hl := HST.out.last
        rw [if_neg (by omega)] at hl
        rw [show (nextS st (A k)).f0 = 0 from HST.out.files.1, show (nextS st (A k)).f1 = 3 from HST.out.files.2]
        rw [HST.out.files.1, HST.out.files.2] at hoth
        have hh := hin.has
        rw [HST.out.files.1, HST.out.files.2] at hh
        rcases hh with ⟨h1, _⟩ | ⟨h1, _, h3, _⟩ | ⟨h1, _, h3, _⟩
        · omega
        · rw [h1, if_pos rfl] at hoth
          rw [if_neg (by rw [hlast']; omega), hoth _ (by decide), h3, hg, ht]
        · rw [h1, if_neg (by decide)] at hoth
          rw [if_pos (by rw [hlast']; omega), hoth _ (by decide), h3, hg, ht]
      have hgen' : (nextS st (A k)).gen = (k : Int) + 1 := by show st.gen + 1 = _; rw [HST.out.gen]
      have HNT := Lib.hid (show TAt W S D A (k + 1) (nextS st (A k)) w4 from ⟨⟨ds', hsd4', hin', hlf', fun _ => by rw [show ((k + 1 : Nat) : Int) - 1 = (k : Int) by omega, show k + 1 - 2 = k - 1 by omega]; exact hnext (by omega)⟩, hbW4, HST.out.files, by rw [hgen']; omega, by rw [if_neg (by omega), hlast', hp]; rfl, fun _ => rfl⟩)
      have HNX := Lib.hid hnext
      have HLS := Lib.hid hlast'
      have HIN := Lib.hid (And.intro hin' hlf')
      obtain ⟨F, G, hsn4, hd4, hFG, hH4⟩ := hsd4'
      have KL := Lib.hid (last_sn hsn4)
      have HSN := Lib.hid hsn4
      have HD4 := Lib.hid hd4
      have HH4 := Lib.hid hH4
      have HBW4 := Lib.hid hbW4
      have HOT := Lib.hid (And.intro hgen' hslot)
      have HPP := Lib.hid (And.intro hp hsl)
      have HTX := Lib.hid (show (nextS st (A k)).text = A k from rfl)
      have hgn' := HOT.out.1
      clear hf4 hbW4 hsd4 hsn4 hd4 hFG hH4 hnext hlast' hin hin' hlf hlf' hprev hoth hgr e1 hslot hgen' KA hp hsl
      generalize nextS st (A k) = st' at *
      go_wp2_with fail
      refine KL.out.mono ?_
      rintro e w5 ⟨u, rfl, ho5, hb5⟩
      rw [HOT.out.1]
      have hbW5 := HBW4.out.trans (hb5.mono HBW4.out.size)
      obtain ⟨SB, hSB⟩ : ∃ SB, SB = strOfNums (A k) := ⟨_, rfl⟩
      obtain ⟨ua, un, uc, rfl⟩ : ∃ a n c, u = .slice a n c := by
        rcases ho5.form with ⟨rfl, _⟩ | ⟨g, c, rfl, _⟩
        · exact ⟨_, _, _, rfl⟩
        · exact ⟨_, _, _, rfl⟩
      have HCU := Lib.hid (fun X (hX : Below w5.heap.size w5 X) => by have h := txt_conv ho5.at X hX; rw [HTX.out, ← hSB] at h; exact h)
      have HCA := Lib.hid (fun X (hX : Below w5.heap.size w5 X) => by have h := txt_conv (HK2.out w5 hbW5) X hX; rw [← hSB] at h; exact h)
      have KSL := Lib.hid (fun X (hX : Below w5.heap.size w5 X) => by have h := slot_sn ((HSN.out.below hb5).below hX); rw [HOT.out.2] at h; exact h)
      have HQ5 := Lib.hid (fun X (hX : Below w5.heap.size w5 X) => Q0.out X (hbW5.trans (hX.mono hbW5.size)))
      have HB5 := Lib.hid hb5
      have HBW5 := Lib.hid hbW5
      have hrm : Int.tmod (k : Int) 2 = (p : Int) := by have := HPP.out.1; rw [Int.tmod_eq_emod_of_nonneg (by omega)]; omega
      have hwp : IntKind.i64.wrap (p : Int) = (p : Int) := by have := HPP.out.1; rw [IntKind.wrap_i64]; omega
      have hp2 : (p : Int) < 2 := by have := HPP.out.1; omega
      clear ho5 hb5 hbW5 hSB KL
      go_upto_region 13 with fail
      refine Rl.wp_region_rel (fun a b => Below a.heap.size a b) w5 (fun a b c h h' => below_next h h') (fun a => Below.refl _ _) hmx (by kernel_rfl) (Below.refl _ _).drew ?_
      (refine Rl.textR_run ?_ (fun ρ => ?_) (fun ρ W hS hd => ?_) ?_; rotate_left; (focus go_simp); (focus (obtain ⟨hc, hf⟩ := bcell hS; go_simp; first | exact ⟨rfl, Below.refl _ _⟩ | (refine ⟨?_, Below.refl _ _⟩; rfl))); (try go_simp))
      (refine Rl.textR_run ?_ (fun ρ => ?_) (fun ρ W hS hd => ?_) ?_; rotate_left; (focus go_simp); (focus (have hfact := HCU.out W hS; go_simp; first | exact ⟨rfl, Below.refl _ _⟩ | (refine ⟨?_, Below.refl _ _⟩; rfl))); (try go_simp))
      iterate 3 (refine Rl.textR_run ?_ (fun ρ => ?_) (fun ρ W hS hd => ?_) ?_; rotate_left; (focus go_simp); (focus (obtain ⟨hc, hf⟩ := bcell hS; go_simp; first | exact ⟨rfl, Below.refl _ _⟩ | (refine ⟨?_, Below.refl _ _⟩; rfl))); (try go_simp))
      (refine Rl.textR_run ?_ (fun ρ => ?_) (fun ρ W hS hd => ?_) ?_; rotate_left; (focus go_simp); (focus (have hfact := HQ5.out W hS; go_simp; first | exact ⟨rfl, Below.refl _ _⟩ | (refine ⟨?_, Below.refl _ _⟩; rfl))); (try go_simp))
      (refine Rl.textR_run ?_ (fun ρ => ?_) (fun ρ W hS hd => ?_) ?_; rotate_left; (focus go_simp); (focus (have hfact := HCA.out W hS; go_simp; first | exact ⟨rfl, Below.refl _ _⟩ | (refine ⟨?_, Below.refl _ _⟩; rfl))); (try go_simp))
      iterate 9 (refine Rl.textR_run ?_ (fun ρ => ?_) (fun ρ W hS hd => ?_) ?_; rotate_left; (focus go_simp); (focus (obtain ⟨hc, hf⟩ := bcell hS; go_simp; first | exact ⟨rfl, Below.refl _ _⟩ | (refine ⟨?_, Below.refl _ _⟩; rfl))); (try go_simp))
      (refine Rl.textR_run ?_ (fun ρ => ?_) (fun ρ W hS hd => ?_) ?_; rotate_left; (focus go_simp); (focus (obtain ⟨hc, hf⟩ := bcell hS; go_simp; refine (KSL.out W hS).mono ?_; rintro e w1 ⟨rfl, hb⟩; refine ⟨_, rfl, ?_, hb⟩; rfl)); (try go_simp))
      refine Rl.textR_rel 76 (fun v w => ∃ b, v = .slice (some ⟨b, 0, none⟩) 2 2 ∧ w.heap[b]? = some (.cells #[.int .i64 0, .int .i64 3] 3 (0, 0))) rfl (fun v w w' hg h => by obtain ⟨b, h1, h2⟩ := h; exact ⟨b, h1, (hg.block _ (Array.getElem?_eq_some_iff.1 h2).1).trans h2⟩) (fun ρ => ?_) (fun ρ W hS hd => ?_) ?_
      · go_simp
      · go_simp
        exact ⟨(Array.getElem?_eq_some_iff.1 (World.alloc_heap_new W _)).2, below_alloc (Below.refl _ W) _⟩
      (try go_simp)
      (refine Rl.textR_run ?_ (fun ρ => ?_) (fun ρ W hS hd => ?_) ?_; rotate_left; (focus go_simp); (focus (obtain ⟨hc, hf⟩ := bcell hS; go_simp; first | exact ⟨rfl, Below.refl _ _⟩ | (refine ⟨?_, Below.refl _ _⟩; rfl))); (try go_simp))
      (refine Rl.textR_run ?_ (fun ρ => ?_) (fun ρ W hS hd => ?_) ?_; rotate_left; (focus go_simp); (focus (obtain ⟨hc, hf⟩ := bcell hS; go_simp; first | exact ⟨rfl, Below.refl _ _⟩ | (refine ⟨?_, Below.refl _ _⟩; rfl))); (try go_simp))
      refine Rl.textR_rel 79 (fun v w => ∃ b, v = .pointer (some ⟨b, p, none⟩) ∧ w.cell? ⟨b, p, none⟩ = some (.int .i64 sl)) rfl (fun v w w' hg h => by obtain ⟨b, h1, h2⟩ := h; exact ⟨b, h1, (hg.cell (p := ⟨b, p, none⟩) (World.block_lt_of_cell? w _ h2)).trans h2⟩) (fun ρ => ?_) (fun ρ W hS hd => ?_) ?_
      · go_simp
      · have ht := hd (76, fun v w => ∃ b, v = .slice (some ⟨b, 0, none⟩) 2 2 ∧ w.heap[b]? = some (.cells #[.int .i64 0, .int .i64 3] 3 (0, 0))) (by simp) (show (76 : Nat) ∈ _ by decide)
        simp only at ht
        obtain ⟨b, hb, hbb⟩ := ht
        have hcb : W.cell? ⟨b, p, none⟩ = some (.int .i64 sl) := by
          have h1 := HPP.out
          rcases (by omega : p = 0 ∨ p = 1) with h0 | h0
          · rw [h1.2, if_pos h0, h0]; exact cell_of_block hbb rfl
          · rw [h1.2, if_neg (by omega), h0]; exact cell_of_block hbb rfl
        rw [hb]
        go_simp
        exact Below.refl _ _
      (try go_simp)
      refine Rl.textR_run (.int .i64 sl) (fun ρ => ?_) (fun ρ W hS hd => ?_) ?_
      · go_simp
      · have ht := hd (79, fun v w => ∃ b, v = .pointer (some ⟨b, p, none⟩) ∧ w.cell? ⟨b, p, none⟩ = some (.int .i64 sl)) (by simp) (show (79 : Nat) ∈ _ by decide)
        simp only at ht
        obtain ⟨b, hb, hbb⟩ := ht
        rw [hb]
        go_simp
        first | exact ⟨rfl, Below.refl _ _⟩ | exact Below.refl _ _
      (try go_simp)
      iterate 2 (refine Rl.textR_run ?_ (fun ρ => ?_) (fun ρ W hS hd => ?_) ?_; rotate_left; (focus go_simp); (focus (obtain ⟨hc, hf⟩ := bcell hS; go_simp; first | exact ⟨rfl, Below.refl _ _⟩ | (refine ⟨?_, Below.refl _ _⟩; rfl))); (try go_simp))
      refine Rl.textR_nil ?_
      intro ρ wA hgA hkA
      dsimp only
      generalize ρ 76 = r76 at *
      generalize ρ 79 = r79 at *
      have HGA := Lib.hid hgA
      clear hgA hkA
      go_simp
      by_cases hk0 : k = 0
      · have hdk : ((k : Int) == 0) = true := by rw [hk0]; rfl
        have hdk2 : decide (k = 0) = true := decide_eq_true hk0
        have HB6 := Lib.hid (HB5.out.trans (HGA.out.mono HB5.out.size))
        clear hk0
        go_wp2_with fail
        go_roundw
        case rel => exact ⟨k + 1, st', by have := HLT.out; omega, by have := HLT.out; omega, by go_num, HNT.out.next HB6.out⟩
        case measure => have := HLT.out; simp [intOf]; omega
      have hdk : ((k : Int) == 0) = false := by rw [beq_eq_false_iff_ne]; omega
      have hdk2 : decide (k = 0) = false := decide_eq_false hk0
      have hb6 := HB5.out.trans (HGA.out.mono HB5.out.size)
      have HB6 := Lib.hid hb6
      have KC := Lib.hid (clone_dk (HD4.out.below hb6))
      have HK0 := Lib.hid hk0
      have KS6 := Lib.hid (fun X (hX : Below wA.heap.size wA X) => KSL.out X (below_next HGA.out hX))
      clear hb6 hk0
      go_wp2_with fail
      refine KC.out.mono ?_
      rintro e w7 ⟨D2, rfl, hd7, hb7⟩
      have K7 := Lib.hid (KS6.out w7 hb7)
      have HD7 := Lib.hid hd7
      have HB7 := Lib.hid hb7
      clear hd7 hb7 KC KS6
      go_wp2_with fail
      refine K7.out.mono ?_
      rintro e w8 ⟨rfl, hb8⟩
      have hpp := HPP.out
      have hls := HLS.out
      have hp2 : p < 2 := by omega
      obtain ⟨d9, e9, hdn9, htx9, hgn9⟩ := turn_open HIN.out.1 HNT.out.files.1 HNT.out.files.2 HIN.out.2 (by omega) (g := (k : Int)) (prev := A (k - 1)) (by have := HK0.out; omega) (HNX.out (by have := HK0.out; omega)) (sl := sl) (by rw [hpp.2]; by_cases h0 : p = 0; rw [if_pos h0, if_pos (by omega)]; rw [if_neg h0, if_neg (by omega)])
      have KR := Lib.hid (reset_dk (HD7.out.below hb8) sl)
      unfold CallEnd at KR
      rw [e9] at KR
      have HB8 := Lib.hid hb8
      have HOP := Lib.hid (And.intro hdn9 (And.intro htx9 hgn9))
      clear hb8 e9 hdn9 htx9 hgn9 hpp hls hp2 K7
      go_wp2_with fail
      refine KR.out.mono ?_
      rintro e w9 ⟨rfl, hd9, hf9⟩
      have hb49 : Below w4.heap.size w4 w9 := by
        have h1 := HB6.out
        have h2 := h1.trans (HB7.out.mono h1.size)
        have h3 := h2.trans (HB8.out.mono h2.size)
        exact h3.trans (hf9.below h3.size (fun j hj => Nat.le_trans h1.size hj))
      have hbW9 := HBW4.out.trans (hb49.mono HBW4.out.size)
      have KO := Lib.hid (sopen_any hd9 (HE.out _ hbW9) 0 3)
      have HB9 := Lib.hid hb49
      clear hd9 hf9 hb49 hbW9 KR
      go_wp2_with fail
      refine KO.out.mono ?_
      rintro e w10 ⟨hb10, h | h | h | ⟨_, _, _, S10, rfl, hs10⟩⟩
      · exact absurd h.1 (by decide)
      · exact absurd (by rw [HOP.out.1]; decide) h.2.1
      · exact absurd (by rw [HOP.out.1]; decide) h.2.2.1
      have KL := Lib.hid (last_sn hs10)
      have HBT := Lib.hid (HB9.out.trans (hb10.mono HB9.out.size))
      clear hs10 hb10 KO
      go_wp2_with fail
      refine KL.out.mono ?_
      rintro e w11 ⟨u, rfl, ho11, hb11⟩
      rw [HOP.out.2.2]
      rw [HOP.out.2.1] at ho11
      have hb411 := HBT.out.trans (hb11.mono HBT.out.size)
      have hbW11 := HBW4.out.trans (hb411.mono HBW4.out.size)
      obtain ⟨q, hq⟩ : ∃ q, k = q + 1 := ⟨k - 1, by have := HK0.out; omega⟩
      obtain ⟨pad, pc, j1, j2, j3, _⟩ := HPV.out (by omega)
      rw [show k - 1 = q from by omega] at j1 j2 j3 ho11
      obtain ⟨SP, hSP⟩ : ∃ SP, SP = strOfNums (A q) := ⟨_, rfl⟩
      obtain ⟨pl, hpl⟩ : ∃ pl, pl = (A q).length := ⟨_, rfl⟩
      rw [← hpl] at j1 j2 j3
      obtain ⟨ua, un, uc, rfl⟩ : ∃ a n c, u = .slice a n c := by
        rcases ho11.form with ⟨rfl, _⟩ | ⟨g, c, rfl, _⟩
        · exact ⟨_, _, _, rfl⟩
        · exact ⟨_, _, _, rfl⟩
      have HCU2 := Lib.hid (fun X (hX : Below w11.heap.size w11 X) => by have h := txt_conv ho11.at X hX; rw [← hSP] at h; exact h)
      have HCP2 := Lib.hid (fun X (hX : Below w11.heap.size w11 X) => by have h := txt_conv (j2.below (hbW11.trans (hX.mono hbW11.size))) X (Below.refl _ _); rw [← hSP] at h; exact h)
      have HQ2 := Lib.hid (fun X (hX : Below w11.heap.size w11 X) => ((hbW11.trans (hX.mono hbW11.size)).cell (p := ⟨b0, off + q, none⟩) (World.block_lt_of_cell? W _ j1)).trans j1)
      have hwq : IntKind.i64.wrap ((k : Int) - 1) = (q : Int) := by have := HLT.out; rw [IntKind.wrap_i64]; omega
      have hixq : (q : Int) < (ll : Int) := by have := HLT.out; omega
      have HB11 := Lib.hid hb411
      clear ho11 hb11 hb411 hbW11 j1 j2 hSP hpl KL hq
      go_upto_region 21 with fail
      refine Rl.wp_region_rel (fun a b => Below a.heap.size a b) w11 (fun a b c h h' => below_next h h') (fun a => Below.refl _ _) hmx (by kernel_rfl) (Below.refl _ _).drew ?_
      iterate 4 (refine Rl.textR_run ?_ (fun ρ => ?_) (fun ρ W hS hd => ?_) ?_; rotate_left; (focus go_simp); (focus (obtain ⟨hc, hf⟩ := bcell hS; go_simp; first | exact ⟨rfl, Below.refl _ _⟩ | (refine ⟨?_, Below.refl _ _⟩; rfl))); (try go_simp))
      (refine Rl.textR_run ?_ (fun ρ => ?_) (fun ρ W hS hd => ?_) ?_; rotate_left; (focus go_simp); (focus (have hfact := HCU2.out W hS; go_simp; first | exact ⟨rfl, Below.refl _ _⟩ | (refine ⟨?_, Below.refl _ _⟩; rfl))); (try go_simp))
      iterate 4 (refine Rl.textR_run ?_ (fun ρ => ?_) (fun ρ W hS hd => ?_) ?_; rotate_left; (focus go_simp); (focus (obtain ⟨hc, hf⟩ := bcell hS; go_simp; first | exact ⟨rfl, Below.refl _ _⟩ | (refine ⟨?_, Below.refl _ _⟩; rfl))); (try go_simp))
      (refine Rl.textR_run ?_ (fun ρ => ?_) (fun ρ W hS hd => ?_) ?_; rotate_left; (focus go_simp); (focus (have hfact := HQ2.out W hS; go_simp; first | exact ⟨rfl, Below.refl _ _⟩ | (refine ⟨?_, Below.refl _ _⟩; rfl))); (try go_simp))
      (refine Rl.textR_run ?_ (fun ρ => ?_) (fun ρ W hS hd => ?_) ?_; rotate_left; (focus go_simp); (focus (have hfact := HCP2.out W hS; go_simp; first | exact ⟨rfl, Below.refl _ _⟩ | (refine ⟨?_, Below.refl _ _⟩; rfl))); (try go_simp))
      iterate 7 (refine Rl.textR_run ?_ (fun ρ => ?_) (fun ρ W hS hd => ?_) ?_; rotate_left; (focus go_simp); (focus (obtain ⟨hc, hf⟩ := bcell hS; go_simp; first | exact ⟨rfl, Below.refl _ _⟩ | (refine ⟨?_, Below.refl _ _⟩; rfl))); (try go_simp))
      refine Rl.textR_nil ?_
      intro ρ wB hgB hkB
      dsimp only
      have HGB := Lib.hid hgB
      clear hgB hkB
      go_simp
      go_wp2_with fail
      go_roundw
      case rel => exact ⟨k + 1, st', by have := HLT.out; omega, by have := HLT.out; omega, by go_num, HNT.out.next (HB11.out.trans (HGB.out.mono HB11.out.size))⟩
      case measure => have := HLT.out; simp [intOf]; omega
end Go.Proofs.YtomhfnaekjmjnaaDoor
