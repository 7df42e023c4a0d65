/- Laws that belong together: Records that come in as a law's arguments: one, some, and some with what becomes of the disk. No condition.; Logs over a disk that is up, plainly. No condition but the lengths' bounds.; A log over a disk that may go down, plainly; what arming, falling do beside it. No condition but the lengths' bounds.; A text that is kept in two files, plainly: what saving, falling and opening come to. No condition but the lengths' bounds.; SnapsBig walked. Condition: errors.errorType reads as the program's text lays it. -/
import Derived.Test.YtomhfnaekjmjnaaDoorMal
import Derived.Lib.SmallJoins
import Derived.Test.YtomhfnaekjmjnaaDoorMask
import Derived.Test.YtomhfnaekjmjnaaDoorMSng
import Derived.Laws.MakeOwn
import Derived.Laws.Entries
namespace Go.Proofs.YtomhfnaekjmjnaaDoor
set_option linter.unusedVariables false
open Go.ChangeShapes Go.WideShapes Go.ChangeAt Go.RowKit

/-- a text in a cell -/
def TxtC (w : World) (a : Addr) (bs : List Int) : Prop := ∃ ad c, w.cell? a = some (.slice ad bs.length c) ∧ TxtAt w (.slice ad bs.length c) bs ∧ bs.length ≤ c ∧ (0 < bs.length → ∃ g o, ad = some ⟨g, o, none⟩)
structure RecC (w : World) (b o : Nat) (r : JRec) : Prop where
  c0 : w.cell? ⟨b, o, none⟩ = some (.int .i64 r.1)
  c1 : TxtC w ⟨b, o + 1, none⟩ r.2
  g_in : -9223372036854775808 ≤ r.1 ∧ r.1 ≤ 9223372036854775807
def RecsAt (w : World) (ad : Option Addr) (len : Nat) (A : Nat → JRec) : Prop := len ≤ 9223372036854775807 ∧ (0 < len → ∃ b off, ad = some ⟨b, off, none⟩ ∧ ∀ k, k < len → RecC w b (off + k * 2) (A k))
/-- a record, how the disk is armed, how many bytes stay -/
structure AddV where
  r : JRec
  arm : Int
  kp : Int
  deriving Inhabited
structure AddC (w : World) (b o : Nat) (a : AddV) : Prop where
  c0 : RecC w b o a.r
  c2 : w.cell? ⟨b, o + 2, none⟩ = some (.int .i64 a.arm)
  c3 : w.cell? ⟨b, o + 3, none⟩ = some (.int .i64 a.kp)
  arm_in : -9223372036854775808 ≤ a.arm ∧ a.arm ≤ 9223372036854775807
def AddsAt (w : World) (ad : Option Addr) (len : Nat) (A : Nat → AddV) : Prop := len ≤ 9223372036854775807 ∧ (0 < len → ∃ b off, ad = some ⟨b, off, none⟩ ∧ ∀ k, k < len → AddC w b (off + k * 4) (A k))
theorem cells_rec : Tryd.prog.cellsOf 24 = 2 := by kernel_rfl
theorem cells_one : Tryd.prog.cellsOf 3 = 1 ∧ Tryd.prog.cellsOf 2 = 1 ∧ Tryd.prog.cellsOf 22 = 1 := ⟨by kernel_rfl, by kernel_rfl, by kernel_rfl⟩
theorem i64_in {n : Int} (h : (Lit.int .i64 n).wf = true) : -9223372036854775808 ≤ n ∧ n ≤ 9223372036854775807 := by simpa [Lit.wf, IntKind.min, IntKind.max, IntKind.signed, IntKind.bits] using h
/-- a text told by its cell -/
theorem txtc_open {H : Type} {enc : TypeId × Value → H} {W : World} {v : Value} {k : Nat} {y : DataW H × List MemPlace} (g3 : DataW.trod enc Tryd.prog W 0 (fun _ => true) true k 22 [v] = some y) :
    ∃ bs ad c, v = .slice ad bs.length c ∧ TxtAt W (.slice ad bs.length c) bs ∧ bs.length ≤ c ∧ (0 < bs.length → ∃ g o, ad = some ⟨g, o, none⟩) := by
  obtain ⟨ad, ln, cp, rfl⟩ : ∃ ad ln cp, v = .slice ad ln cp := by
    rcases Go.Deep.open_slice Tryd.underlying22 g3 with ⟨hcs, _⟩ | ⟨x, l, c, m, n, D, Pl, hcs, _⟩
    · simp at hcs; exact ⟨_, _, _, hcs⟩
    · simp at hcs; exact ⟨_, _, _, hcs⟩
  obtain ⟨zs, ⟨ht, hzl, hlc, hpos⟩, _⟩ := txt_open (enc := enc) (W := W) (a := ad) (len := ln) (cap := cp) ⟨k, by simpa [Value.cells] using g3⟩
  subst hzl
  exact ⟨zs, ad, cp, rfl, ht, hlc, hpos⟩
set_option maxRecDepth 100000 in
/-- a record by value -/
theorem rec_open {H : Type} {enc : TypeId × Value → H} {W : World} {r : Reach} {b0 : Nat} {v : Value} {d : DataW H} {p : List MemPlace} (hv : Value.okWide Tryd.prog W r b0 24 v) (h : DataW.Trod enc Tryd.prog W 0 (fun _ => true) true 24 v d p) :
    ∃ (g : Int) (bs : List Int) (ad : Option Addr) (c : Nat), v = .agg #[.int .i64 g, .slice ad bs.length c] ∧ (-9223372036854775808 ≤ g ∧ g ≤ 9223372036854775807) ∧ TxtAt W (.slice ad bs.length c) bs ∧ bs.length ≤ c := by
  obtain ⟨v0, v1, y0, y1, n, rfl, _, _, h0, h1⟩ := Go.Joins.open_agg2 Tryd.underlying24 (by kernel_rfl) cells_rec hv h
  obtain ⟨z0, e0, _, w0⟩ := DataW.trod_int Tryd.underlying2 h0
  simp at e0
  subst e0
  obtain ⟨bs, ad, c, rfl, ht, hlc, _⟩ := txtc_open h1
  exact ⟨z0, bs, ad, c, rfl, i64_in w0, ht, hlc⟩
theorem recc_of {H : Type} {enc : TypeId × Value → H} {W : World} {b o k : Nat} {v0 v1 : Value} {y0 y1 : DataW H × List MemPlace} (c0 : W.cell? ⟨b, o, none⟩ = some v0) (c1 : W.cell? ⟨b, o + 1, none⟩ = some v1)
    (g0 : DataW.trod enc Tryd.prog W 0 (fun _ => true) true k 2 [v0] = some y0) (g1 : DataW.trod enc Tryd.prog W 0 (fun _ => true) true k 22 [v1] = some y1) : ∃ r, RecC W b o r := by
  obtain ⟨z0, e0, _, w0⟩ := DataW.trod_int Tryd.underlying2 g0
  simp at e0
  subst e0
  obtain ⟨bs, ad, c, rfl, h⟩ := txtc_open g1
  exact ⟨(z0, bs), ⟨c0, ⟨ad, c, c1, h⟩, i64_in w0⟩⟩
set_option maxRecDepth 100000 in
theorem recs_open {H : Type} {enc : TypeId × Value → H} {W : World} {a : Option Addr} {len cap : Nat} {d : DataW H} {p : List MemPlace}
    (h : DataW.Trod enc Tryd.prog W 0 (fun _ => true) true 33 (.slice a len cap) d p) : ∃ A : Nat → JRec, RecsAt W a len A := by
  obtain ⟨fuel, hf⟩ := h
  rcases Go.Deep.open_slice Tryd.underlying33 hf with ⟨hcs, _⟩ | ⟨x, l, c, m, n, D, Pl, hcs, _, hl, hm, hmm, hd, hcell⟩
  · simp [Value.cells] at hcs
    obtain ⟨rfl, rfl, rfl⟩ := hcs
    exact ⟨fun _ => (0, []), by omega, fun h => absurd h (by omega)⟩
  · simp [Value.cells] at hcs
    obtain ⟨rfl, rfl, rfl⟩ := hcs
    have hlm : len ≤ m := by rw [hmm]; split <;> omega
    rw [cells_rec] at hcell
    by_cases h0 : len = 0
    · exact ⟨fun _ => (0, []), by omega, fun h => absurd h (by omega)⟩
    obtain ⟨b, off, spot⟩ := x
    have hspot : spot = none := by
      obtain ⟨cs', h1, _⟩ := hcell 0 (by omega)
      obtain ⟨_, hlen, hc⟩ := World.cells?_some h1
      have := hc 0 (by omega)
      have hs : cs'[0]? = some cs'[0] := List.getElem?_eq_getElem (by omega)
      rw [hs] at this
      simpa [Addr.add] using World.cell?_spot this
    subst hspot
    have hplain : ∀ k, (⟨b, off, none⟩ : Addr).add k = ⟨b, off + k, none⟩ := fun k => by unfold Addr.add; split <;> simp_all
    have hplain2 : ∀ k j, ((⟨b, off, none⟩ : Addr).add k).add j = ⟨b, off + k + j, none⟩ := fun k j => by rw [Go.Deep.add_add, hplain, Nat.add_assoc]
    have each : ∀ i, i < len → ∃ q : JRec, RecC W b (off + i * 2) q := by
      intro i hi
      obtain ⟨cs', h1, h2⟩ := hcell i (by omega)
      obtain ⟨_, hlen, hc⟩ := World.cells?_some h1
      obtain ⟨xs, k, hk, _, _, hxl, hff⟩ := DataW.trod_struct Tryd.underlying24 h2
      match xs, hxl, cs', hlen with
      | [y0, y1], _, [v0, v1], _ =>
        have g0 := hff 0 _ rfl
        have g1 := hff 1 _ rfl
        simp [cells_one] at g0 g1
        have c : ∀ j, j < 2 → W.cell? ⟨b, off + i * 2 + j, none⟩ = [v0, v1][j]? := fun j hj => by rw [← hplain2]; exact hc j hj
        exact recc_of (c 0 (by decide)) (c 1 (by decide)) g0 g1
    obtain ⟨A, hA⟩ := Go.Deep.choose_lt (α := JRec) (p := fun i q => RecC W b (off + i * 2) q) each
    exact ⟨A, by unfold maxLen at hm; omega, fun _ => ⟨b, off, rfl, hA⟩⟩
theorem cells_add : Tryd.prog.cellsOf 48 = 4 := by kernel_rfl
set_option maxRecDepth 100000 in
theorem adds_open {H : Type} {enc : TypeId × Value → H} {W : World} {a : Option Addr} {len cap : Nat} {d : DataW H} {p : List MemPlace}
    (h : DataW.Trod enc Tryd.prog W 0 (fun _ => true) true 41 (.slice a len cap) d p) : ∃ A : Nat → AddV, AddsAt W a len A := by
  obtain ⟨fuel, hf⟩ := h
  rcases Go.Deep.open_slice Tryd.underlying41 hf with ⟨hcs, _⟩ | ⟨x, l, c, m, n, D, Pl, hcs, _, hl, hm, hmm, hd, hcell⟩
  · simp [Value.cells] at hcs
    obtain ⟨rfl, rfl, rfl⟩ := hcs
    exact ⟨fun _ => ⟨(0, []), 0, 0⟩, by omega, fun h => absurd h (by omega)⟩
  · simp [Value.cells] at hcs
    obtain ⟨rfl, rfl, rfl⟩ := hcs
    have hlm : len ≤ m := by rw [hmm]; split <;> omega
    rw [cells_add] at hcell
    by_cases h0 : len = 0
    · exact ⟨fun _ => ⟨(0, []), 0, 0⟩, by omega, fun h => absurd h (by omega)⟩
    obtain ⟨b, off, spot⟩ := x
    have hspot : spot = none := by
      obtain ⟨cs', h1, _⟩ := hcell 0 (by omega)
      obtain ⟨_, hlen, hc⟩ := World.cells?_some h1
      have := hc 0 (by omega)
      have hs : cs'[0]? = some cs'[0] := List.getElem?_eq_getElem (by omega)
      rw [hs] at this
      simpa [Addr.add] using World.cell?_spot this
    subst hspot
    have hplain : ∀ k, (⟨b, off, none⟩ : Addr).add k = ⟨b, off + k, none⟩ := fun k => by unfold Addr.add; split <;> simp_all
    have hplain2 : ∀ k j, ((⟨b, off, none⟩ : Addr).add k).add j = ⟨b, off + k + j, none⟩ := fun k j => by rw [Go.Deep.add_add, hplain, Nat.add_assoc]
    have each : ∀ i, i < len → ∃ q : AddV, AddC W b (off + i * 4) q := by
      intro i hi
      obtain ⟨cs', h1, h2⟩ := hcell i (by omega)
      obtain ⟨_, hlen, hc⟩ := World.cells?_some h1
      obtain ⟨xs, k, hk, _, _, hxl, hff⟩ := DataW.trod_struct Tryd.underlying48 h2
      match xs, hxl, cs', hlen with
      | [y0, y1, y2], _, [v0, v1, v2, v3], _ =>
        have g0 := hff 0 _ rfl
        have g1 := hff 1 _ rfl
        have g2 := hff 2 _ rfl
        simp [cells_one, cells_rec] at g0 g1 g2
        obtain ⟨zs, k2, hk2, _, _, hzl, hff2⟩ := DataW.trod_struct Tryd.underlying24 g0
        match zs, hzl with
        | [x0, x1], _ =>
          have q0 := hff2 0 _ rfl
          have q1 := hff2 1 _ rfl
          simp [cells_one] at q0 q1
          have c : ∀ j, j < 4 → W.cell? ⟨b, off + i * 4 + j, none⟩ = [v0, v1, v2, v3][j]? := fun j hj => by rw [← hplain2]; exact hc j hj
          obtain ⟨z2, e2, _, w2⟩ := DataW.trod_int Tryd.underlying3 g1
          obtain ⟨z3, e3, _, w3⟩ := DataW.trod_int Tryd.underlying3 g2
          simp at e2 e3
          subst e2 e3
          obtain ⟨r, hr⟩ := recc_of (c 0 (by decide)) (c 1 (by decide)) q0 q1
          exact ⟨⟨r, z2, z3⟩, ⟨hr, c 2 (by decide), c 3 (by decide), i64_in w2⟩⟩
    obtain ⟨A, hA⟩ := Go.Deep.choose_lt (α := AddV) (p := fun i q => AddC W b (off + i * 4) q) each
    exact ⟨A, by unfold maxLen at hm; omega, fun _ => ⟨b, off, rfl, hA⟩⟩
end Go.Proofs.YtomhfnaekjmjnaaDoor
namespace Go.Proofs.YtomhfnaekjmjnaaDoor
set_option linter.unusedVariables false
open Go.ChangeShapes Go.WideShapes Go.ChangeAt Go.RowKit

/-- a disk that is up, not armed; what a file has, how much of it is safe -/
structure DOk (ds : DS) (f : Int) (xs : List Int) : Prop where
  down : ds.down = false
  left : ds.left = -1
  b : ds.b f.toNat = xs
theorem wrongF_up {f : Int} (hf : 0 ≤ f ∧ f ≤ 3) : wrongF false f = 0 := by unfold wrongF; rw [if_neg (by simp), if_pos hf]
theorem call_ok {q : Nat} {ds : DS} {f : Int} {xs ys : List Int} (hf : 0 ≤ f ∧ f ≤ 3) (h : DOk ds f xs) (hl : xs.length + ys.length ≤ 1048576) : callF q ds f ys = ({ ds.deed q f.toNat ys with left := -1 }, 0) := by
  unfold callF
  rw [h.down, wrongF_up hf, h.b, h.left, if_neg (by simp), if_neg (by omega), if_neg (by decide), if_neg (by decide)]
theorem deed_b (ds : DS) (q k : Nat) (ys : List Int) : (ds.deed q k ys).b k = if q = 0 then ds.b k ++ ys else if q = 1 then ds.b k else [] := by
  unfold DS.deed
  split
  · simp [upd_at]
  · simp
  · rename_i h0 h1
    rw [if_neg h0, if_neg h1]; simp [upd_at]
theorem deed_s (ds : DS) (q k : Nat) (ys : List Int) : (ds.deed q k ys).s k = if q = 0 then ds.s k else if q = 1 then (ds.b k).length else 0 := by
  unfold DS.deed
  split
  · simp
  · simp [upd_at]
  · rename_i h0 h1
    rw [if_neg h0, if_neg h1]; simp [upd_at]
theorem deed_down (ds : DS) (q k : Nat) (ys : List Int) : (ds.deed q k ys).down = ds.down := by unfold DS.deed; split <;> rfl
theorem call_dok {q : Nat} {ds : DS} {f : Int} {xs ys : List Int} (hf : 0 ≤ f ∧ f ≤ 3) (h : DOk ds f xs) (hl : xs.length + ys.length ≤ 1048576) : DOk (callF q ds f ys).1 f (if q = 0 then xs ++ ys else if q = 1 then xs else []) := by
  rw [call_ok hf h hl]
  exact ⟨(deed_down ds q _ ys).trans h.down, rfl, by show (ds.deed q f.toNat ys).b f.toNat = _; rw [deed_b, h.b]⟩
theorem add_ok {f : Int} {rs : List JRec} {ln : Nat} {ds : DS} {xs : List Int} {r : JRec} (hf : 0 ≤ f ∧ f ≤ 3) (h : DOk ds f xs) (hr : r.2.length ≤ 65536) (hl : xs.length + (frameF r).length ≤ 1048576) :
    ∃ ds', addF ⟨f, rs, ln, false, false⟩ ds r = (⟨f, rs ++ [r], ln + (frameF r).length, false, false⟩, ds', 0) ∧ DOk ds' f (xs ++ frameF r) ∧ ds'.s f.toNat = (xs ++ frameF r).length := by
  have h1 := call_dok (q := 0) hf h hl
  have c1 := call_ok (q := 0) hf h hl
  rw [if_pos rfl] at h1
  have h2 := call_dok (q := 1) (ys := []) hf h1 (by simp; omega)
  have c2 := call_ok (q := 1) (ys := []) hf h1 (by simp; omega)
  rw [if_neg (by decide), if_pos rfl] at h2
  refine ⟨(callF 1 (callF 0 ds f (frameF r)).1 f []).1, ?_, h2, ?_⟩
  · unfold addF
    rw [if_neg (by simp), if_neg (by omega)]
    show (if (callF 0 ds f (frameF r)).2 ≠ 0 then _ else _) = _
    rw [if_neg (by rw [c1]; simp)]
    show (if (callF 1 (callF 0 ds f (frameF r)).1 f []).2 ≠ 0 then _ else _) = _
    rw [if_neg (by rw [c2]; simp)]
  · rw [c2]
    show ((callF 0 ds f (frameF r)).1.deed 1 f.toNat []).s f.toNat = _
    rw [deed_s, if_neg (by decide), if_pos rfl, h1.b]
theorem clear_ok {st : LS} {ds : DS} {xs : List Int} (hf : 0 ≤ st.f ∧ st.f ≤ 3) (h : DOk ds st.f xs) (hl : xs.length ≤ 1048576) :
    ∃ ds', clearF st ds = (⟨st.f, [], 0, false, false⟩, ds', 0) ∧ DOk ds' st.f [] ∧ ds'.s st.f.toNat = 0 := by
  have h1 := call_dok (q := 2) (ys := []) hf h (by simp; omega)
  have c1 := call_ok (q := 2) (ys := []) hf h (by simp; omega)
  rw [if_neg (by decide), if_neg (by decide)] at h1
  refine ⟨(callF 2 ds st.f []).1, ?_, h1, ?_⟩
  · unfold clearF
    rw [if_neg (by rw [c1]; simp)]
  · rw [c1]
    show (ds.deed 2 st.f.toNat []).s st.f.toNat = _
    rw [deed_s, if_neg (by decide), if_neg (by decide)]
theorem open_ok {ds : DS} {f : Int} {rs : List JRec} (h : DOk ds f (framesF rs)) (hg : ∀ r ∈ rs, GoodR r) : openF ds f = ⟨f, rs, (framesF rs).length, false, false⟩ := by
  unfold openF
  rw [h.b, parse_whole hg]
  simp
/-- the first records of a row -/
def recsN (A : Nat → JRec) (k : Nat) : List JRec := (List.range k).map A
theorem recsN_succ (A : Nat → JRec) (k : Nat) : recsN A (k + 1) = recsN A k ++ [A k] := by unfold recsN; rw [List.range_succ, List.map_append]; rfl
theorem recsN_len (A : Nat → JRec) (k : Nat) : (recsN A k).length = k := by simp [recsN]
theorem frames_snoc (l : List JRec) (r : JRec) : framesF (l ++ [r]) = framesF l ++ frameF r := by rw [frames_append, frames_one]
theorem frame_le {r : JRec} (hg : -9223372036854775808 ≤ r.1 ∧ r.1 ≤ 9223372036854775807) : (frameF r).length ≤ r.2.length + 18 := by
  rw [frame_len]
  have := putI_len hg
  unfold bodyF
  simp
  omega
end Go.Proofs.YtomhfnaekjmjnaaDoor
namespace Go.Proofs.YtomhfnaekjmjnaaDoor
set_option linter.unusedVariables false
open Go.ChangeShapes Go.WideShapes Go.ChangeAt Go.RowKit

/-- a disk that is up, all of file 2 safe, perhaps armed -/
structure DUp (ds : DS) (xs : List Int) : Prop where
  down : ds.down = false
  left : -1 ≤ ds.left
  b : ds.b 2 = xs
  s : ds.s 2 = xs.length
theorem call_up {q : Nat} {ds : DS} {xs ys : List Int} (hd : ds.down = false) (hb : ds.b 2 = xs) (hl : xs.length + ys.length ≤ 1048576) :
    callF q ds 2 ys = if ds.left = 0 then ({ (if q = 0 then ds.deed 0 2 ys else ds) with left := -1, down := true }, 17) else ({ ds.deed q 2 ys with left := if 0 < ds.left then ds.left - 1 else ds.left }, 0) := by
  unfold callF
  rw [hd, wrongF_up (by decide), show (2 : Int).toNat = 2 from rfl, hb, if_neg (by simp), if_neg (by omega)]
theorem add_up {rs : List JRec} {ln : Nat} {ds : DS} {xs : List Int} {r : JRec} (h : DUp ds xs) (hr : r.2.length ≤ 65536) (hl : xs.length + (frameF r).length ≤ 1048576) (hlf : ds.left ≠ 0 ∧ ds.left ≠ 1) :
    ∃ ds', addF ⟨2, rs, ln, false, false⟩ ds r = (⟨2, rs ++ [r], ln + (frameF r).length, false, false⟩, ds', 0) ∧ DUp ds' (xs ++ frameF r) := by
  have hl0 := h.left
  have c1 := call_up (q := 0) h.down h.b hl
  rw [if_neg hlf.1] at c1
  obtain ⟨d1, hd1⟩ : ∃ d, d = (callF 0 ds 2 (frameF r)).1 := ⟨_, rfl⟩
  have e1 : callF 0 ds 2 (frameF r) = (d1, 0) := by rw [hd1, c1]
  have hd1' : d1 = { ds.deed 0 2 (frameF r) with left := if 0 < ds.left then ds.left - 1 else ds.left } := by rw [hd1, c1]
  have b1 : d1.b 2 = xs ++ frameF r := by rw [hd1']; show (ds.deed 0 2 (frameF r)).b 2 = _; rw [deed_b, if_pos rfl, h.b]
  have w1 : d1.down = false := by rw [hd1']; exact (deed_down ds 0 2 (frameF r)).trans h.down
  have l1 : d1.left ≠ 0 ∧ -1 ≤ d1.left := by
    have e : d1.left = if 0 < ds.left then ds.left - 1 else ds.left := by rw [hd1']
    rw [e]
    split <;> omega
  have c2 := call_up (q := 1) (ys := []) w1 b1 (by simp; omega)
  rw [if_neg l1.1] at c2
  obtain ⟨d2, hd2⟩ : ∃ d, d = (callF 1 d1 2 []).1 := ⟨_, rfl⟩
  have e2 : callF 1 d1 2 [] = (d2, 0) := by rw [hd2, c2]
  have hd2' : d2 = { d1.deed 1 2 [] with left := if 0 < d1.left then d1.left - 1 else d1.left } := by rw [hd2, c2]
  refine ⟨d2, ?_, ⟨?_, ?_, ?_, ?_⟩⟩
  · unfold addF
    rw [if_neg (by simp), if_neg (by omega)]
    show (if (callF 0 ds 2 (frameF r)).2 ≠ 0 then _ else _) = _
    rw [e1, if_neg (by simp)]
    show (if (callF 1 d1 2 []).2 ≠ 0 then _ else _) = _
    rw [e2, if_neg (by simp)]
  · rw [hd2']; exact (deed_down d1 1 2 []).trans w1
  · have e : d2.left = if 0 < d1.left then d1.left - 1 else d1.left := by rw [hd2']
    have := l1.2
    rw [e]
    split <;> omega
  · rw [hd2']; show (d1.deed 1 2 []).b 2 = _; rw [deed_b, if_neg (by decide), if_pos rfl, b1]
  · rw [hd2']; show (d1.deed 1 2 []).s 2 = _; rw [deed_s, if_neg (by decide), if_pos rfl, b1]
theorem add_down {rs : List JRec} {ln : Nat} {ds : DS} {xs : List Int} {r : JRec} (h : DUp ds xs) (hr : r.2.length ≤ 65536) (hl : xs.length + (frameF r).length ≤ 1048576) (hlf : ds.left = 0 ∨ ds.left = 1) :
    ∃ ds', addF ⟨2, rs, ln, false, false⟩ ds r = (⟨2, rs, ln, false, true⟩, ds', 17) ∧ ds'.b 2 = xs ++ frameF r ∧ ds'.s 2 = xs.length := by
  have c1 := call_up (q := 0) h.down h.b hl
  rcases hlf with h0 | h1
  · rw [if_pos h0, if_pos rfl] at c1
    refine ⟨(callF 0 ds 2 (frameF r)).1, ?_, ?_, ?_⟩
    · unfold addF
      rw [if_neg (by simp), if_neg (by omega)]
      show (if (callF 0 ds 2 (frameF r)).2 ≠ 0 then _ else _) = _
      rw [if_pos (by rw [c1]; simp)]
      rw [c1]
    · rw [c1]; show (ds.deed 0 2 (frameF r)).b 2 = _; rw [deed_b, if_pos rfl, h.b]
    · rw [c1]; show (ds.deed 0 2 (frameF r)).s 2 = _; rw [deed_s, if_pos rfl, h.s]
  · rw [if_neg (by omega)] at c1
    obtain ⟨d1, hd1⟩ : ∃ d, d = (callF 0 ds 2 (frameF r)).1 := ⟨_, rfl⟩
    have e1 : callF 0 ds 2 (frameF r) = (d1, 0) := by rw [hd1, c1]
    have hd1' : d1 = { ds.deed 0 2 (frameF r) with left := if 0 < ds.left then ds.left - 1 else ds.left } := by rw [hd1, c1]
    have b1 : d1.b 2 = xs ++ frameF r := by rw [hd1']; show (ds.deed 0 2 (frameF r)).b 2 = _; rw [deed_b, if_pos rfl, h.b]
    have s1 : d1.s 2 = xs.length := by rw [hd1']; show (ds.deed 0 2 (frameF r)).s 2 = _; rw [deed_s, if_pos rfl, h.s]
    have w1 : d1.down = false := by rw [hd1']; exact (deed_down ds 0 2 (frameF r)).trans h.down
    have l1 : d1.left = 0 := by
      have e : d1.left = if 0 < ds.left then ds.left - 1 else ds.left := by rw [hd1']
      rw [e, h1]
      rfl
    have c2 := call_up (q := 1) (ys := []) w1 b1 (by simp; omega)
    rw [if_pos l1, if_neg (by decide)] at c2
    refine ⟨(callF 1 d1 2 []).1, ?_, ?_, ?_⟩
    · unfold addF
      rw [if_neg (by simp), if_neg (by omega)]
      show (if (callF 0 ds 2 (frameF r)).2 ≠ 0 then _ else _) = _
      rw [e1, if_neg (by simp)]
      show (if (callF 1 d1 2 []).2 ≠ 0 then _ else _) = _
      rw [if_pos (by rw [c2]; simp)]
      rw [c2]
    · rw [c2]; exact b1
    · rw [c2]; exact s1
def keep2F (n : Int) : Nat → Int := fun j => if j = 2 then n else 0
theorem fall_up {ds : DS} {xs ys : List Int} (hb : ds.b 2 = xs ++ ys) (hs : ds.s 2 = xs.length) (n : Int) :
    ∃ m : Nat, m ≤ ys.length ∧ DUp (fallF ds (keep2F n)) (xs ++ ys.take m) ∧ (fallF ds (keep2F n)).left = -1 := by
  have e : fallS ds (keep2F n) 2 = xs.length + min (max n 0).toNat ys.length := by
    unfold fallS keep2F
    rw [hb, hs, if_pos rfl, List.length_append]
    omega
  refine ⟨min (max n 0).toNat ys.length, Nat.min_le_right _ _, ⟨rfl, by show -1 ≤ (-1 : Int); decide, ?_, ?_⟩, rfl⟩
  · show (ds.cut (keep2F n) 4).b 2 = _
    show (if 2 < 4 then (ds.b 2).take (fallS ds (keep2F n) 2) else ds.b 2) = _
    rw [if_pos (by decide), e, hb, List.take_append, List.take_of_length_le (by omega)]
    congr 1
    congr 1
    omega
  · show (if 2 < 4 then fallS ds (keep2F n) 2 else ds.s 2) = _
    rw [if_pos (by decide), e, List.length_append, List.length_take]
    omega
theorem DUp.open_ {ds : DS} {xs : List Int} (h : DUp ds xs) : openF ds 2 = ⟨2, (parseF xs).1, (parseF xs).2, decide ((parseF xs).2 < xs.length), false⟩ := by
  unfold openF
  rw [show (2 : Int).toNat = 2 from rfl, h.b]
/-- what is left of the bytes of records and one more, cut -/
theorem parse_after {all : List JRec} (hg : ∀ r ∈ all, GoodR r) {r : JRec} (hr : GoodR r) (m : Nat) :
    (m < (frameF r).length ∧ parseF (framesF all ++ (frameF r).take m) = (all, (framesF all).length)) ∨
    ((frameF r).length ≤ m ∧ framesF all ++ (frameF r).take m = framesF (all ++ [r]) ∧ parseF (framesF all ++ (frameF r).take m) = (all ++ [r], (framesF (all ++ [r])).length)) := by
  by_cases h : m < (frameF r).length
  · exact .inl ⟨h, parse_cut hg hr h⟩
  · have e : framesF all ++ (frameF r).take m = framesF (all ++ [r]) := by rw [List.take_of_length_le (by omega), frames_snoc]
    exact .inr ⟨by omega, e, by rw [e]; exact parse_whole (fun q hq => by rcases List.mem_append.1 hq with h | h; exact hg q h; rw [List.mem_singleton.1 h]; exact hr)⟩
end Go.Proofs.YtomhfnaekjmjnaaDoor
namespace Go.Proofs.YtomhfnaekjmjnaaDoor
set_option linter.unusedVariables false
open Go.ChangeShapes Go.WideShapes Go.ChangeAt Go.RowKit

theorem only_frame {r : JRec} (h : GoodR r) : onlyF (frameF r) = some r := by
  have hp := parse_whole (l := [r]) (fun q hq => by rw [List.mem_singleton.1 hq]; exact h)
  rw [frames_one] at hp
  unfold onlyF
  rw [hp]
  simp
theorem only_cut {r : JRec} (h : GoodR r) {k : Nat} (hk : k < (frameF r).length) : onlyF ((frameF r).take k) = none := by
  have hp := parse_cut (l := []) (fun q hq => by cases hq) h hk
  unfold onlyF
  rw [show framesF [] ++ (frameF r).take k = (frameF r).take k from rfl] at hp
  rw [hp]
  simp
theorem only_nil : onlyF [] = none := by unfold onlyF; rw [parse_nil]; simp
def genF (xs : List Int) : Int := match onlyF xs with
  | some r => r.1
  | none => 0
theorem deed_ne (ds : DS) (q k : Nat) (ys : List Int) {j : Nat} (hj : j ≠ k) : (ds.deed q k ys).b j = ds.b j ∧ (ds.deed q k ys).s j = ds.s j := by
  unfold DS.deed
  split
  · exact ⟨upd_ne _ _ hj, rfl⟩
  · exact ⟨rfl, upd_ne _ _ hj⟩
  · exact ⟨upd_ne _ _ hj, upd_ne _ _ hj⟩
theorem call_upK {q : Nat} {ds : DS} {f : Int} {ys : List Int} (hf : 0 ≤ f ∧ f ≤ 3) (hd : ds.down = false) (hl : (ds.b f.toNat).length + ys.length ≤ 1048576) :
    callF q ds f ys = if ds.left = 0 then ({ (if q = 0 then ds.deed 0 f.toNat ys else ds) with left := -1, down := true }, 17) else ({ ds.deed q f.toNat ys with left := if 0 < ds.left then ds.left - 1 else ds.left }, 0) := by
  unfold callF
  rw [hd, wrongF_up hf, if_neg (by simp), if_neg (by omega)]
theorem write_ok {ds : DS} {f : Int} {r : JRec} (hf : 0 ≤ f ∧ f ≤ 3) (hd : ds.down = false) (hlf : -1 ≤ ds.left ∧ ds.left ≠ 0 ∧ ds.left ≠ 1 ∧ ds.left ≠ 2) (hb : (ds.b f.toNat).length ≤ 1048576) (hr : r.2.length ≤ 65536) (hl : (frameF r).length ≤ 1048576) :
    ∃ ds', writeF ds f r = (ds', 0) ∧ ds'.down = false ∧ -1 ≤ ds'.left ∧ (ds.left = -1 → ds'.left = -1) ∧ ds'.b f.toNat = frameF r ∧ ds'.s f.toNat = (frameF r).length ∧ ∀ j, j ≠ f.toNat → ds'.b j = ds.b j ∧ ds'.s j = ds.s j := by
  have c1 := call_upK (q := 2) (ys := []) hf hd (by simp; omega)
  rw [if_neg hlf.2.1] at c1
  obtain ⟨d1, hd1⟩ : ∃ d, d = (callF 2 ds f []).1 := ⟨_, rfl⟩
  have e1 : callF 2 ds f [] = (d1, 0) := by rw [hd1, c1]
  have hd1' : d1 = { ds.deed 2 f.toNat [] with left := if 0 < ds.left then ds.left - 1 else ds.left } := by rw [hd1, c1]
  have b1 : d1.b f.toNat = [] := by rw [hd1']; show (ds.deed 2 f.toNat []).b f.toNat = _; rw [deed_b, if_neg (by decide), if_neg (by decide)]
  have n1 : ∀ j, j ≠ f.toNat → d1.b j = ds.b j ∧ d1.s j = ds.s j := fun j hj => by rw [hd1']; exact deed_ne ds 2 f.toNat [] hj
  have w1 : d1.down = false := by rw [hd1']; exact (deed_down ds 2 f.toNat []).trans hd
  have l1 : d1.left ≠ 0 ∧ d1.left ≠ 1 ∧ -1 ≤ d1.left ∧ (ds.left = -1 → d1.left = -1) := by
    have e : d1.left = if 0 < ds.left then ds.left - 1 else ds.left := by rw [hd1']
    rw [e]
    split <;> omega
  have c2 := call_upK (q := 0) (ys := frameF r) hf w1 (by rw [b1]; simp; omega)
  rw [if_neg l1.1] at c2
  obtain ⟨d2, hd2⟩ : ∃ d, d = (callF 0 d1 f (frameF r)).1 := ⟨_, rfl⟩
  have e2 : callF 0 d1 f (frameF r) = (d2, 0) := by rw [hd2, c2]
  have hd2' : d2 = { d1.deed 0 f.toNat (frameF r) with left := if 0 < d1.left then d1.left - 1 else d1.left } := by rw [hd2, c2]
  have b2 : d2.b f.toNat = frameF r := by rw [hd2']; show (d1.deed 0 f.toNat (frameF r)).b f.toNat = _; rw [deed_b, if_pos rfl, b1]; rfl
  have n2 : ∀ j, j ≠ f.toNat → d2.b j = ds.b j ∧ d2.s j = ds.s j := fun j hj => by
    have := deed_ne d1 0 f.toNat (frameF r) hj
    rw [hd2']
    exact ⟨this.1.trans (n1 j hj).1, this.2.trans (n1 j hj).2⟩
  have w2 : d2.down = false := by rw [hd2']; exact (deed_down d1 0 f.toNat (frameF r)).trans w1
  have l2 : d2.left ≠ 0 ∧ -1 ≤ d2.left ∧ (ds.left = -1 → d2.left = -1) := by
    have e : d2.left = if 0 < d1.left then d1.left - 1 else d1.left := by rw [hd2']
    rw [e]
    have := l1.2.2.2
    split <;> omega
  have c3 := call_upK (q := 1) (ys := []) hf w2 (by rw [b2]; simp; omega)
  rw [if_neg l2.1] at c3
  obtain ⟨d3, hd3⟩ : ∃ d, d = (callF 1 d2 f []).1 := ⟨_, rfl⟩
  have e3 : callF 1 d2 f [] = (d3, 0) := by rw [hd3, c3]
  have hd3' : d3 = { d2.deed 1 f.toNat [] with left := if 0 < d2.left then d2.left - 1 else d2.left } := by rw [hd3, c3]
  refine ⟨d3, ?_, ?_, ?_, ?_, ?_, ?_, fun j hj => ?_⟩
  · unfold writeF
    rw [if_neg (by omega), e1]
    simp only
    rw [if_neg (by simp), e2]
    simp only
    rw [if_neg (by simp), e3]
  · rw [hd3']; exact (deed_down d2 1 f.toNat []).trans w2
  · have e : d3.left = if 0 < d2.left then d2.left - 1 else d2.left := by rw [hd3']
    rw [e]
    have := l2.2.1
    split <;> omega
  · intro h
    have e : d3.left = if 0 < d2.left then d2.left - 1 else d2.left := by rw [hd3']
    rw [e, l2.2.2 h]
    rfl
  · rw [hd3']; show (d2.deed 1 f.toNat []).b f.toNat = _; rw [deed_b, if_neg (by decide), if_pos rfl, b2]
  · rw [hd3']; show (d2.deed 1 f.toNat []).s f.toNat = _; rw [deed_s, if_neg (by decide), if_pos rfl, b2]
  · have := deed_ne d2 1 f.toNat [] hj
    rw [hd3']
    exact ⟨this.1.trans (n2 j hj).1, this.2.trans (n2 j hj).2⟩
theorem write_down {ds : DS} {f : Int} {r : JRec} (hf : 0 ≤ f ∧ f ≤ 3) (hd : ds.down = false) (hlf : ds.left = 0 ∨ ds.left = 1 ∨ ds.left = 2) (hb : (ds.b f.toNat).length ≤ 1048576) (hr : r.2.length ≤ 65536) (hl : (frameF r).length ≤ 1048576) :
    ∃ ds', writeF ds f r = (ds', 17) ∧ ((ds'.b f.toNat = ds.b f.toNat ∧ ds'.s f.toNat = ds.s f.toNat) ∨ (ds'.b f.toNat = frameF r ∧ ds'.s f.toNat = 0)) ∧ ∀ j, j ≠ f.toNat → ds'.b j = ds.b j ∧ ds'.s j = ds.s j := by
  have c1 := call_upK (q := 2) (ys := []) hf hd (by simp; omega)
  by_cases h0 : ds.left = 0
  · rw [if_pos h0, if_neg (by decide)] at c1
    refine ⟨{ ds with left := -1, down := true }, ?_, .inl ⟨rfl, rfl⟩, fun j hj => ⟨rfl, rfl⟩⟩
    unfold writeF
    rw [if_neg (by omega), c1]
    simp only
    rw [if_pos (by simp)]
  rw [if_neg h0] at c1
  obtain ⟨d1, hd1⟩ : ∃ d, d = (callF 2 ds f []).1 := ⟨_, rfl⟩
  have e1 : callF 2 ds f [] = (d1, 0) := by rw [hd1, c1]
  have hd1' : d1 = { ds.deed 2 f.toNat [] with left := if 0 < ds.left then ds.left - 1 else ds.left } := by rw [hd1, c1]
  have b1 : d1.b f.toNat = [] := by rw [hd1']; show (ds.deed 2 f.toNat []).b f.toNat = _; rw [deed_b, if_neg (by decide), if_neg (by decide)]
  have s1 : d1.s f.toNat = 0 := by rw [hd1']; show (ds.deed 2 f.toNat []).s f.toNat = _; rw [deed_s, if_neg (by decide), if_neg (by decide)]
  have n1 : ∀ j, j ≠ f.toNat → d1.b j = ds.b j ∧ d1.s j = ds.s j := fun j hj => by rw [hd1']; exact deed_ne ds 2 f.toNat [] hj
  have w1 : d1.down = false := by rw [hd1']; exact (deed_down ds 2 f.toNat []).trans hd
  have l1 : d1.left = ds.left - 1 := by
    have e : d1.left = if 0 < ds.left then ds.left - 1 else ds.left := by rw [hd1']
    rw [e, if_pos (by omega)]
  have c2 := call_upK (q := 0) (ys := frameF r) hf w1 (by rw [b1]; simp; omega)
  by_cases h1 : d1.left = 0
  · rw [if_pos h1, if_pos rfl] at c2
    refine ⟨{ d1.deed 0 f.toNat (frameF r) with left := -1, down := true }, ?_, .inr ⟨?_, ?_⟩, fun j hj => ?_⟩
    · unfold writeF
      rw [if_neg (by omega), e1]
      simp only
      rw [if_neg (by simp), c2]
      simp only
      rw [if_pos (by simp)]
    · show (d1.deed 0 f.toNat (frameF r)).b f.toNat = _; rw [deed_b, if_pos rfl, b1]; rfl
    · show (d1.deed 0 f.toNat (frameF r)).s f.toNat = _; rw [deed_s, if_pos rfl, s1]
    · have := deed_ne d1 0 f.toNat (frameF r) hj
      exact ⟨this.1.trans (n1 j hj).1, this.2.trans (n1 j hj).2⟩
  rw [if_neg h1] at c2
  obtain ⟨d2, hd2⟩ : ∃ d, d = (callF 0 d1 f (frameF r)).1 := ⟨_, rfl⟩
  have e2 : callF 0 d1 f (frameF r) = (d2, 0) := by rw [hd2, c2]
  have hd2' : d2 = { d1.deed 0 f.toNat (frameF r) with left := if 0 < d1.left then d1.left - 1 else d1.left } := by rw [hd2, c2]
  have b2 : d2.b f.toNat = frameF r := by rw [hd2']; show (d1.deed 0 f.toNat (frameF r)).b f.toNat = _; rw [deed_b, if_pos rfl, b1]; rfl
  have s2 : d2.s f.toNat = 0 := by rw [hd2']; show (d1.deed 0 f.toNat (frameF r)).s f.toNat = _; rw [deed_s, if_pos rfl, s1]
  have n2 : ∀ j, j ≠ f.toNat → d2.b j = ds.b j ∧ d2.s j = ds.s j := fun j hj => by
    have := deed_ne d1 0 f.toNat (frameF r) hj
    rw [hd2']
    exact ⟨this.1.trans (n1 j hj).1, this.2.trans (n1 j hj).2⟩
  have w2 : d2.down = false := by rw [hd2']; exact (deed_down d1 0 f.toNat (frameF r)).trans w1
  have l2 : d2.left = 0 := by
    have e : d2.left = if 0 < d1.left then d1.left - 1 else d1.left := by rw [hd2']
    rw [e, if_pos (by omega)]
    omega
  have c3 := call_upK (q := 1) (ys := []) hf w2 (by rw [b2]; simp; omega)
  rw [if_pos l2, if_neg (by decide)] at c3
  refine ⟨{ d2 with left := -1, down := true }, ?_, .inr ⟨b2, s2⟩, n2⟩
  unfold writeF
  rw [if_neg (by omega), e1]
  simp only
  rw [if_neg (by simp), e2]
  simp only
  rw [if_neg (by simp), c3]
/-- the files have what is told of them -/
structure SInv (st : SS) (ds : DS) : Prop where
  down : ds.down = false
  left : -1 ≤ ds.left
  files : 0 ≤ st.f0 ∧ st.f0 ≤ 3 ∧ 0 ≤ st.f1 ∧ st.f1 ≤ 3 ∧ st.f0 ≠ st.f1
  ok : st.failed = false
  len : (ds.b st.f0.toNat).length ≤ 1048576 ∧ (ds.b st.f1.toNat).length ≤ 1048576
  safe : ds.s st.f0.toNat = (ds.b st.f0.toNat).length ∧ ds.s st.f1.toNat = (ds.b st.f1.toNat).length
  has : (st.last = -1 ∧ st.gen = 0 ∧ st.text = [] ∧ genF (ds.b st.f0.toNat) ≤ 0 ∧ genF (ds.b st.f1.toNat) ≤ 0) ∨
        (st.last = 0 ∧ 1 ≤ st.gen ∧ onlyF (ds.b st.f0.toNat) = some (st.gen, st.text) ∧ genF (ds.b st.f1.toNat) < st.gen) ∨
        (st.last = 1 ∧ 1 ≤ st.gen ∧ onlyF (ds.b st.f1.toNat) = some (st.gen, st.text) ∧ genF (ds.b st.f0.toNat) < st.gen)
theorem stepS_gen {st : SS} {i : Int} {xs : List Int} (h : genF xs ≤ st.gen) : stepS st i xs = st := by
  unfold stepS
  unfold genF at h
  cases ho : onlyF xs with
  | none => rfl
  | some r => rw [ho] at h; simp only at h ⊢; rw [if_neg (by omega)]
theorem stepS_some {st : SS} {i : Int} {xs : List Int} {r : JRec} (h : onlyF xs = some r) (hg : st.gen < r.1) : stepS st i xs = { st with last := i, text := r.2, gen := r.1 } := by
  unfold stepS
  rw [h]
  simp only
  rw [if_pos hg]
theorem SInv.open_ {st : SS} {ds : DS} (h : SInv st ds) : openS ds st.f0 st.f1 = st := by
  obtain ⟨f0, f1, last, text, gen, failed⟩ := st
  have hok := h.ok
  simp only at hok
  subst hok
  unfold openS
  rcases h.has with ⟨h1, h2, h3, h4, h5⟩ | ⟨h1, h2, h3, h4⟩ | ⟨h1, h2, h3, h4⟩
  · simp only at h1 h2 h3 h4 h5
    subst h1 h2 h3
    rw [stepS_gen (st := ⟨f0, f1, -1, [], 0, false⟩) h4, stepS_gen h5]
  · simp only at h1 h2 h3 h4
    subst h1
    rw [stepS_some (st := ⟨f0, f1, -1, [], 0, false⟩) h3 (by simp only; omega)]
    exact stepS_gen (by simp only; omega)
  · simp only at h1 h2 h3 h4
    subst h1
    rw [stepS_some h3]
    · have := stepS_files ⟨f0, f1, -1, [], 0, false⟩ 0 (ds.b f0.toNat)
      simp only at this
      obtain ⟨e1, e2, e3⟩ := this
      generalize stepS ⟨f0, f1, -1, [], 0, false⟩ 0 (ds.b f0.toNat) = s at *
      obtain ⟨a0, a1, a2, a3, a4, a5⟩ := s
      simp only at e1 e2 e3
      subst e1 e2 e3
      rfl
    · simp only
      by_cases hz : genF (ds.b f0.toNat) ≤ 0
      · rw [stepS_gen (st := ⟨f0, f1, -1, [], 0, false⟩) hz]; simp only; omega
      · cases ho : onlyF (ds.b f0.toNat) with
        | none => unfold genF at hz; rw [ho] at hz; simp at hz
        | some r =>
          unfold genF at hz h4
          rw [ho] at hz h4
          simp only at hz h4
          rw [stepS_some (st := ⟨f0, f1, -1, [], 0, false⟩) ho (by simp only; omega)]
          exact h4
theorem genF_nil : genF [] = 0 := by unfold genF; rw [only_nil]
theorem SInv.new {f0 f1 : Int} (hf : 0 ≤ f0 ∧ f0 ≤ 3 ∧ 0 ≤ f1 ∧ f1 ≤ 3 ∧ f0 ≠ f1) : SInv (st0 f0 f1) newF := by
  have hb : ∀ k, newF.b k = [] := fun _ => rfl
  have hs : ∀ k, newF.s k = 0 := fun _ => rfl
  have hl : newF.left = -1 := rfl
  have hd : newF.down = false := rfl
  generalize newF = n at hb hs hl hd
  refine ⟨hd, by omega, hf, rfl, ⟨?_, ?_⟩, ⟨?_, ?_⟩, .inl ⟨rfl, rfl, rfl, ?_, ?_⟩⟩
  · rw [hb]; exact Nat.zero_le _
  · rw [hb]; exact Nat.zero_le _
  · rw [hb, hs]; rfl
  · rw [hb, hs]; rfl
  · rw [hb, genF_nil]; exact Int.le_refl 0
  · rw [hb, genF_nil]; exact Int.le_refl 0
theorem toNat_ne {a b : Int} (ha : 0 ≤ a) (hb : 0 ≤ b) (h : a ≠ b) : a.toNat ≠ b.toNat := by omega
/-- a text more -/
def nextS (st : SS) (bs : List Int) : SS := { st with last := if st.last = 0 then 1 else 0, text := bs, gen := st.gen + 1, failed := false }
theorem genF_some {xs : List Int} {r : JRec} (h : onlyF xs = some r) : genF xs = r.1 := by unfold genF; rw [h]
theorem genF_none {xs : List Int} (h : onlyF xs = none) : genF xs = 0 := by unfold genF; rw [h]
theorem genF_frame {r : JRec} (h : GoodR r) : genF (frameF r) = r.1 := genF_some (only_frame h)
/-- what the files have behind a file that is written whole -/
theorem SInv.next2 {st : SS} {ds ds' : DS} (h : SInv st ds) {bs : List Int} (hg : GoodR (st.gen + 1, bs)) (hd : ds'.down = false) (hl : -1 ≤ ds'.left)
    (hb : ds'.b (if st.last = 0 then st.f1 else st.f0).toNat = frameF (st.gen + 1, bs)) (hs : ds'.s (if st.last = 0 then st.f1 else st.f0).toNat = (frameF (st.gen + 1, bs)).length)
    (hn : ∀ j, (j = st.f0.toNat ∨ j = st.f1.toNat) → j ≠ (if st.last = 0 then st.f1 else st.f0).toNat → ds'.b j = ds.b j ∧ ds'.s j = ds.s j) : SInv (nextS st bs) ds' := by
  have hfl : (frameF (st.gen + 1, bs)).length ≤ 1048576 := by have := body_len hg; rw [frame_len]; omega
  obtain ⟨hf0, hf0', hf1, hf1', hne⟩ := h.files
  have hnn := toNat_ne hf0 hf1 hne
  by_cases hl0 : st.last = 0
  · rw [if_pos hl0] at hb hs hn
    have ho := hn st.f0.toNat (.inl rfl) hnn
    rcases h.has with ⟨h1, _⟩ | ⟨h1, h2, h3, h4⟩ | ⟨h1, _⟩
    · omega
    · refine ⟨hd, hl, h.files, rfl, ⟨by show (ds'.b st.f0.toNat).length ≤ _; rw [ho.1]; exact h.len.1, by show (ds'.b st.f1.toNat).length ≤ _; rw [hb]; exact hfl⟩, ⟨by show ds'.s st.f0.toNat = (ds'.b st.f0.toNat).length; rw [ho.2, ho.1]; exact h.safe.1, by show ds'.s st.f1.toNat = (ds'.b st.f1.toNat).length; rw [hs, hb]⟩, .inr (.inr ⟨by unfold nextS; simp [hl0], by show 1 ≤ st.gen + 1; omega, by show onlyF (ds'.b st.f1.toNat) = some (st.gen + 1, bs); rw [hb]; exact only_frame hg, ?_⟩)⟩
      show genF (ds'.b st.f0.toNat) < st.gen + 1
      rw [ho.1]
      rw [genF_some h3]
      show st.gen < st.gen + 1
      omega
    · omega
  · rw [if_neg hl0] at hb hs hn
    have ho := hn st.f1.toNat (.inr rfl) hnn.symm
    refine ⟨hd, hl, h.files, rfl, ⟨by show (ds'.b st.f0.toNat).length ≤ _; rw [hb]; exact hfl, by show (ds'.b st.f1.toNat).length ≤ _; rw [ho.1]; exact h.len.2⟩, ⟨by show ds'.s st.f0.toNat = (ds'.b st.f0.toNat).length; rw [hs, hb], by show ds'.s st.f1.toNat = (ds'.b st.f1.toNat).length; rw [ho.2, ho.1]; exact h.safe.2⟩, .inr (.inl ⟨by unfold nextS; simp [hl0], ?_, by show onlyF (ds'.b st.f0.toNat) = some (st.gen + 1, bs); rw [hb]; exact only_frame hg, ?_⟩)⟩
    · show 1 ≤ st.gen + 1
      rcases h.has with ⟨_, h2, _⟩ | ⟨h1, _⟩ | ⟨_, h2, _⟩ <;> omega
    · show genF (ds'.b st.f1.toNat) < st.gen + 1
      rw [ho.1]
      rcases h.has with ⟨_, h2, _, _, h5⟩ | ⟨h1, _⟩ | ⟨_, h2, h3, _⟩
      · omega
      · omega
      · rw [genF_some h3]
        show st.gen < st.gen + 1
        omega
/-- the other file turned to what tells no text -/
theorem SInv.lost2 {st : SS} {ds ds' : DS} (h : SInv st ds) (hd : ds'.down = false) (hl : -1 ≤ ds'.left)
    (hb : genF (ds'.b (if st.last = 0 then st.f1 else st.f0).toNat) ≤ 0) (hbl : (ds'.b (if st.last = 0 then st.f1 else st.f0).toNat).length ≤ 1048576) (hs : ds'.s (if st.last = 0 then st.f1 else st.f0).toNat = (ds'.b (if st.last = 0 then st.f1 else st.f0).toNat).length)
    (hn : ∀ j, (j = st.f0.toNat ∨ j = st.f1.toNat) → j ≠ (if st.last = 0 then st.f1 else st.f0).toNat → ds'.b j = ds.b j ∧ ds'.s j = ds.s j) : SInv st ds' := by
  obtain ⟨hf0, hf0', hf1, hf1', hne⟩ := h.files
  have hnn := toNat_ne hf0 hf1 hne
  by_cases hl0 : st.last = 0
  · rw [if_pos hl0] at hb hs hn hbl
    have ho := hn st.f0.toNat (.inl rfl) hnn
    rcases h.has with ⟨h1, _⟩ | ⟨h1, h2, h3, h4⟩ | ⟨h1, _⟩
    · omega
    · exact ⟨hd, hl, h.files, h.ok, ⟨by rw [ho.1]; exact h.len.1, hbl⟩, ⟨by rw [ho.2, ho.1]; exact h.safe.1, hs⟩, .inr (.inl ⟨h1, h2, by rw [ho.1]; exact h3, by omega⟩)⟩
    · omega
  · rw [if_neg hl0] at hb hs hn hbl
    have ho := hn st.f1.toNat (.inr rfl) hnn.symm
    refine ⟨hd, hl, h.files, h.ok, ⟨hbl, by rw [ho.1]; exact h.len.2⟩, ⟨hs, by rw [ho.2, ho.1]; exact h.safe.2⟩, ?_⟩
    rcases h.has with ⟨h1, h2, h3, h4, h5⟩ | ⟨h1, _⟩ | ⟨h1, h2, h3, h4⟩
    · exact .inl ⟨h1, h2, h3, hb, by rw [ho.1]; exact h5⟩
    · omega
    · exact .inr (.inr ⟨h1, h2, by rw [ho.1]; exact h3, by omega⟩)
theorem save_ok {st : SS} {ds : DS} (h : SInv st ds) {bs : List Int} (hg : GoodR (st.gen + 1, bs)) (hgm : st.gen < 4611686018427387904) (hlf : ds.left ≠ 0 ∧ ds.left ≠ 1 ∧ ds.left ≠ 2) :
    ∃ ds', saveS st ds bs = (nextS st bs, ds', 0) ∧ SInv (nextS st bs) ds' ∧ (ds.left = -1 → ds'.left = -1) := by
  have hfl : (frameF (st.gen + 1, bs)).length ≤ 1048576 := by have := body_len hg; rw [frame_len]; omega
  obtain ⟨hf0, hf0', hf1, hf1', hne⟩ := h.files
  have hfr : 0 ≤ (if st.last = 0 then st.f1 else st.f0) ∧ (if st.last = 0 then st.f1 else st.f0) ≤ 3 := by split <;> omega
  obtain ⟨ds', e, w, l, ll, b, s, n⟩ := write_ok (r := (st.gen + 1, bs)) hfr h.down ⟨h.left, hlf⟩ (by split; exact h.len.2; exact h.len.1) hg.len hfl
  refine ⟨ds', ?_, h.next2 hg w l b s (fun j _ hj => n j hj), ll⟩
  unfold saveS
  rw [if_neg (by rw [h.ok]; simp), if_neg (by have := hg.len; simp only at this; omega), if_neg (by omega)]
  unfold saveF
  rw [e, if_neg (by simp)]
  rfl
theorem save_down {st : SS} {ds : DS} (h : SInv st ds) {bs : List Int} (hg : GoodR (st.gen + 1, bs)) (hgm : st.gen < 4611686018427387904) (hlf : ds.left = 0 ∨ ds.left = 1 ∨ ds.left = 2) :
    ∃ ds', saveS st ds bs = ({ st with failed := true }, ds', 17) ∧ ((ds'.b (if st.last = 0 then st.f1 else st.f0).toNat = ds.b (if st.last = 0 then st.f1 else st.f0).toNat ∧ ds'.s (if st.last = 0 then st.f1 else st.f0).toNat = ds.s (if st.last = 0 then st.f1 else st.f0).toNat) ∨ (ds'.b (if st.last = 0 then st.f1 else st.f0).toNat = frameF (st.gen + 1, bs) ∧ ds'.s (if st.last = 0 then st.f1 else st.f0).toNat = 0)) ∧ ∀ j, j ≠ (if st.last = 0 then st.f1 else st.f0).toNat → ds'.b j = ds.b j ∧ ds'.s j = ds.s j := by
  have hfl : (frameF (st.gen + 1, bs)).length ≤ 1048576 := by have := body_len hg; rw [frame_len]; omega
  obtain ⟨hf0, hf0', hf1, hf1', hne⟩ := h.files
  have hfr : 0 ≤ (if st.last = 0 then st.f1 else st.f0) ∧ (if st.last = 0 then st.f1 else st.f0) ≤ 3 := by split <;> omega
  obtain ⟨ds', e, b, n⟩ := write_down (r := (st.gen + 1, bs)) hfr h.down hlf (by split; exact h.len.2; exact h.len.1) hg.len hfl
  refine ⟨ds', ?_, b, n⟩
  unfold saveS
  rw [if_neg (by rw [h.ok]; simp), if_neg (by have := hg.len; simp only at this; omega), if_neg (by omega)]
  unfold saveF
  rw [e, if_pos (by simp)]
/-- the same files -/
theorem SInv.same {st : SS} {ds ds' : DS} (h : SInv st ds) (hd : ds'.down = false) (hl : -1 ≤ ds'.left) (h0 : ds'.b st.f0.toNat = ds.b st.f0.toNat ∧ ds'.s st.f0.toNat = ds.s st.f0.toNat) (h1 : ds'.b st.f1.toNat = ds.b st.f1.toNat ∧ ds'.s st.f1.toNat = ds.s st.f1.toNat) : SInv st ds' := by
  obtain ⟨_, _, hf, hok, hlen, hsf, hhas⟩ := h
  rw [← h0.1, ← h1.1] at hlen hhas
  rw [← h0.1, ← h1.1, ← h0.2, ← h1.2] at hsf
  exact ⟨hd, hl, hf, hok, hlen, hsf, hhas⟩
theorem fallF_b (ds : DS) (K : Nat → Int) {j : Nat} (hj : j < 4) : (fallF ds K).b j = (ds.b j).take (fallS ds K j) := if_pos hj
theorem fallF_s (ds : DS) (K : Nat → Int) {j : Nat} (hj : j < 4) : (fallF ds K).s j = fallS ds K j := if_pos hj
theorem fall_safe {ds : DS} (K : Nat → Int) {j : Nat} (hj : j < 4) (hs : ds.s j = (ds.b j).length) : (fallF ds K).b j = ds.b j ∧ (fallF ds K).s j = ds.s j := by
  have e : fallS ds K j = ds.s j := by unfold fallS; omega
  rw [fallF_b ds K hj, fallF_s ds K hj, e, hs]
  exact ⟨List.take_length, rfl⟩
/-- what is there behind a fall -/
theorem fall_after {st : SS} {ds ds' : DS} (h : SInv st ds) {bs : List Int} (hg : GoodR (st.gen + 1, bs)) (K : Nat → Int)
    (hb : (ds'.b (if st.last = 0 then st.f1 else st.f0).toNat = ds.b (if st.last = 0 then st.f1 else st.f0).toNat ∧ ds'.s (if st.last = 0 then st.f1 else st.f0).toNat = ds.s (if st.last = 0 then st.f1 else st.f0).toNat) ∨ (ds'.b (if st.last = 0 then st.f1 else st.f0).toNat = frameF (st.gen + 1, bs) ∧ ds'.s (if st.last = 0 then st.f1 else st.f0).toNat = 0))
    (hn : ∀ j, j ≠ (if st.last = 0 then st.f1 else st.f0).toNat → ds'.b j = ds.b j ∧ ds'.s j = ds.s j) : SInv st (fallF ds' K) ∨ SInv (nextS st bs) (fallF ds' K) := by
  obtain ⟨hf0, hf0', hf1, hf1', hne⟩ := h.files
  have hsafe : ∀ j, j = st.f0.toNat ∨ j = st.f1.toNat → ds.s j = (ds.b j).length := fun j hj => by
    rcases hj with rfl | rfl
    · exact h.safe.1
    · exact h.safe.2
  have keep : ∀ j, j = st.f0.toNat ∨ j = st.f1.toNat → (ds'.b j = ds.b j ∧ ds'.s j = ds.s j) → (fallF ds' K).b j = ds.b j ∧ (fallF ds' K).s j = ds.s j := fun j hj he => by
    have h4 : j < 4 := by rcases hj with rfl | rfl <;> omega
    have := fall_safe (ds := ds') K h4 (by rw [he.1, he.2]; exact hsafe j hj)
    exact ⟨this.1.trans he.1, this.2.trans he.2⟩
  rcases hb with hb | ⟨hb, hs⟩
  · have all : ∀ j, ds'.b j = ds.b j ∧ ds'.s j = ds.s j := fun j => by
      by_cases e : j = (if st.last = 0 then st.f1 else st.f0).toNat
      · rw [e]; exact hb
      · exact hn j e
    exact .inl (h.same rfl (by show -1 ≤ (-1 : Int); decide) (keep _ (.inl rfl) (all _)) (keep _ (.inr rfl) (all _)))
  · obtain ⟨o, ho⟩ : ∃ o, o = (if st.last = 0 then st.f1 else st.f0).toNat := ⟨_, rfl⟩
    have ho4 : o < 4 ∧ (o = st.f0.toNat ∨ o = st.f1.toNat) := by rw [ho]; split <;> constructor <;> omega
    have e := fallF_b ds' K ho4.1
    have es := fallF_s ds' K ho4.1
    obtain ⟨m, hm⟩ : ∃ m, m = fallS ds' K o := ⟨_, rfl⟩
    rw [← ho] at hb hs hn
    have hml : m ≤ (frameF (st.gen + 1, bs)).length := by rw [hm]; unfold fallS; rw [hb, hs]; omega
    rw [← hm, hb] at e
    rw [← hm] at es
    have hbl := body_len hg
    have hn2 : ∀ j, (j = st.f0.toNat ∨ j = st.f1.toNat) → j ≠ o → (fallF ds' K).b j = ds.b j ∧ (fallF ds' K).s j = ds.s j := fun j hj hne => keep j hj (hn j hne)
    by_cases hlt : m < (frameF (st.gen + 1, bs)).length
    · refine .inl (h.lost2 rfl (by show -1 ≤ (-1 : Int); decide) ?_ ?_ ?_ ?_)
      · rw [← ho, e, genF_none (only_cut hg hlt)]; exact Int.le_refl 0
      · rw [← ho, e, List.length_take]; have := frame_len (st.gen + 1, bs); omega
      · rw [← ho, e, es, List.length_take]; omega
      · rw [← ho]; exact hn2
    · refine .inr (h.next2 hg rfl (by show -1 ≤ (-1 : Int); decide) ?_ ?_ ?_)
      · rw [← ho, e, List.take_of_length_le (by omega)]
      · rw [← ho, es]; omega
      · rw [← ho]; exact hn2
end Go.Proofs.YtomhfnaekjmjnaaDoor
namespace Go.Proofs.YtomhfnaekjmjnaaDoor
set_option linter.unusedVariables false
open Go.ChangeShapes Go.WideShapes Go.ChangeAt Go.RowKit
attribute [local go_sem ↓] Go.wp_at_zero Go.wp_at_succ comesTo_value_eq comesTo_skip_eq comesTo_enter_eq

theorem info_u8w : (Tryd.prog.info? 5).map (fun i => (i.zero, i.size, i.bytes)) = some (some (.int .u8 0), 1, 1) := by kernel_rfl
theorem make_u8 (n : Nat) (hn : n ≤ 1000000) : ∃ C : Array Value, C.size = n ∧ ∀ w : World, (Instr.makeSlice 22 (.int .i64 (n : Int)) (.int .i64 (n : Int))).run Tryd.prog w = .ok (.slice (some ⟨w.heap.size, 0, none⟩) n n) (w.alloc (.cells C 5)) := by
  obtain ⟨i, hi, hz, hs, hb⟩ := info_parts info_u8w
  refine ⟨madeCells #[.int .u8 0] (n * 1), by rw [size_madeCells, Nat.mul_one], fun w => ?_⟩
  have hr := run_make (P := Tryd.prog) w 22 5 i (.int .u8 0) Tryd.underlying22 hi hz .i64 .i64 (n : Int) (n : Int) (by omega) (Int.le_refl _) (by rw [hb]; omega) (by omega)
  rw [hs] at hr
  simpa [Value.cells] using hr
/-- the first bytes of a block are laid -/
structure Laid (w0 : World) (b n k : Nat) (c : Int) (wr : World) : Prop where
  ex : ∃ C : Array Value, WroteTo b 5 C w0 wr ∧ C.size = n ∧ ∀ j, j < k → C[j]? = some (.int .u8 c)
theorem Laid.txt {w0 wr : World} {b n : Nat} {c : Int} (h : Laid w0 b n n c wr) (hn : n ≤ 1000000) (hc : 0 ≤ c ∧ c ≤ 255) (w' : World) (hb : w'.heap[b]? = wr.heap[b]?) : TxtAt w' (.slice (some ⟨b, 0, none⟩) n n) (List.replicate n c) := by
  obtain ⟨C, hw, hs, hC⟩ := h.ex
  have ht := hb.trans hw.there
  by_cases h0 : n = 0
  · subst h0
    exact .inr ⟨rfl, _, _, rfl, fun h => by cases h⟩
  refine .inl ⟨b, 0, n, by simp, by simp; omega, ⟨fun k hk => ?_, fun k hk => ?_, fun k hk => ?_, by simp; omega⟩⟩
  · have hk' : k < n := by simpa using hk
    rw [cell_of_block (o := 0 + k) ht (by rw [Nat.zero_add]; exact hC k hk')]
    simp [List.getD, hk']
  · have hk' : k < n := by simpa using hk
    simp [List.getD, hk', hc.1]
  · have hk' : k < n := by simpa using hk
    simp [List.getD, hk', hc.2]
theorem Laid.step {w0 wr : World} {b n k : Nat} {c : Int} (h : Laid w0 b n k c wr) (hk : k < n) : (∃ v, wr.cell? ⟨b, k, none⟩ = some v) ∧ wr.frozen? ⟨b, k, none⟩ = false ∧ Laid w0 b n (k + 1) c (wr.setCell ⟨b, k, none⟩ (.int .u8 c)) := by
  obtain ⟨C, hw, hs, hC⟩ := h.ex
  refine ⟨⟨_, cell_of_block (o := k) hw.there (Array.getElem?_eq_getElem (by omega))⟩, free_of_block k hw.there, ⟨_, hw.set k (.int .u8 c), by simp [hs], fun j hj => ?_⟩⟩
  by_cases e : j = k
  · subst e
    rw [Array.getElem?_setIfInBounds_self_of_lt (by omega)]
  · rw [Array.getElem?_setIfInBounds_ne (fun h => e h.symm)]
    exact hC j (by omega)
theorem lit_txt0 {w' : World} {b : Nat} {x : Int} (hx : 0 ≤ x ∧ x ≤ 255) (h : w'.heap[b]? = some (.cells #[.int .u8 x] 5 (0, 0))) : TxtAt w' (.slice (some ⟨b, 0, none⟩) 1 1) [x] := by
  refine .inl ⟨b, 0, 1, rfl, by simp, ⟨fun k hk => ?_, fun k hk => ?_, fun k hk => ?_, by simp⟩⟩
  · obtain rfl : k = 0 := by simpa using hk
    exact cell_of_block h rfl
  · obtain rfl : k = 0 := by simpa using hk
    exact hx.1
  · obtain rfl : k = 0 := by simpa using hk
    exact hx.2
set_option maxRecDepth 100000 in
set_option maxHeartbeats 8000000 in
theorem sbig_any (n c : Int) (hc : 0 ≤ c ∧ c ≤ 255) (W : World) (hE : ErrAt W) :
    Calls Tryd.prog 12 #[.int .i64 n, .int .u8 c] W fun e W' => e = .returned (.bool true) ∧ Below W.heap.size W W' := by
  have HE := Lib.hid (fun X (hX : Below W.heap.size W X) => hE.below hX)
  clear hE
  obtain ⟨N, hN⟩ : ∃ N : Nat, n % 131072 = (N : Int) := ⟨(n % 131072).toNat, by omega⟩
  have hN2 : N < 131072 := by omega
  have hmk := mask_i64 n 17 131072 rfl (by decide) (by decide) (by decide)
  rw [show ((131072 - 1 : Nat) : Int) = 131071 from rfl, show ((131072 : Nat) : Int) = 131072 from rfl, hN] at hmk
  obtain ⟨C0, hC0, hmake⟩ := make_u8 N (by omega)
  have HN2 := Lib.hid hN2
  have HC := Lib.hid hc
  have HMK := Lib.hid hmake
  have HC0 := Lib.hid hC0
  clear hN hN2 hmake hC0
  go_enter Tryd.func12, Tryd.ntmps12
  go_wp2_with fail
  refine (new_any W).mono ?_
  rintro e w1 ⟨D, rfl, hd, hb⟩
  go_wp2_with fail
  refine (sopen_any hd (HE.out _ hb) 0 1).mono ?_
  rintro e w2 ⟨hb2, h | h | h | ⟨_, _, _, S, rfl, hl⟩⟩
  · exact absurd h.1 (by decide)
  · exact absurd (by decide : wrongF newF.down 0 = 0) h.2.1
  · exact absurd (by decide : wrongF newF.down 1 = 0) h.2.2.1
  rw [sopen_new] at hl
  have hsd := sopened (B := W.heap.size) hd hb.size hb2 hl
  have hbW := hb.trans (hb2.mono hb.size)
  have hA := below_alloc (Below.refl _ w2) (.cells #[.int .u8 c] 5)
  have hL2 := (hsd.more (K := fun j => W.heap.size ≤ j ∧ j < w2.heap.size) (fun j h1 h2 => ⟨h2, h1⟩)).below hA
  have KA := Lib.hid (savec_sd hL2 (some ⟨w2.heap.size, 0, none⟩) 1 1 [c] (fun w' hf => lit_txt0 HC.out ((hf.block _ (by simp) (fun h => by omega)).trans (World.alloc_heap_new w2 _))))
  obtain ⟨d1, e1, hin1, hlf1⟩ := save_ok (st := st0 0 1) (ds := newF) (bs := [c]) (SInv.new (by decide)) ⟨by show -9223372036854775808 ≤ (1 : Int) ∧ (1 : Int) ≤ 9223372036854775807; decide, by show 1 ≤ 65536; decide, fun x hx => by rw [List.mem_singleton.1 hx]; exact HC.out⟩ (by show (0 : Int) < _; decide) ⟨by show (-1 : Int) ≠ 0; decide, by show (-1 : Int) ≠ 1; decide, by show (-1 : Int) ≠ 2; decide⟩
  rw [e1] at KA
  have HIN1 := Lib.hid hin1
  have HLF1 := Lib.hid (show d1.left ≠ 0 ∧ d1.left ≠ 1 ∧ d1.left ≠ 2 from by rw [hlf1 rfl]; decide)
  have HA2 := Lib.hid (hbW.trans (hA.mono hbW.size))
  clear hd hb hb2 hl hsd hbW hA hL2 e1 hin1 hlf1
  go_wp2_with fail
  refine KA.out.mono ?_
  rintro e w3 ⟨rfl, hL3, hf3⟩
  have hB3 := hf3.below (B := W.heap.size) HA2.out.size (fun j hj => hj.1)
  have hBW3 := HA2.out.trans hB3
  have hmk3 := HMK.out w3
  have hLA := (hL3.more (K := fun j => W.heap.size ≤ j ∧ j < w3.heap.size) (fun j h1 h2 => ⟨by have := HA2.out.size; rcases h2 with h | h; exact h.1; exact Nat.le_trans this h, h1⟩)).below (below_alloc (Below.refl _ w3) (.cells C0 5))
  have HLA := Lib.hid hLA
  have HLD0 := Lib.hid (show Laid (w3.alloc (.cells C0 5)) w3.heap.size N 0 c (w3.alloc (.cells C0 5)) from ⟨_, wrote_refl (World.alloc_heap_new w3 _), HC0.out, fun j hj => by omega⟩)
  have HBW3 := Lib.hid hBW3
  clear hL3 hf3 hB3 hBW3 hLA KA
  go_wp2_with fail
  go_loopw [9] (fun i wr => ∃ k : Nat, k ≤ N ∧ i = .int .i64 k ∧ Laid (w3.alloc (.cells C0 5)) w3.heap.size N k c wr) (fun i _ => N - (intOf i).toNat)
  case atStart => exact ⟨0, Nat.zero_le _, rfl, HLD0.out⟩
  case round =>
    obtain ⟨k, hk, rfl, hL⟩ := hrel
    have HL := Lib.hid hL
    clear hL
    by_cases hlt : k < N
    case pos =>
      have hd : decide (k < N) = true := decide_eq_true hlt
      have hix : (k : Int) < (N : Int) := by omega
      have hwk : IntKind.i64.wrap ((k : Int) + 1) = ((k + 1 : Nat) : Int) := by have := HN2.out; rw [IntKind.wrap_i64]; omega
      obtain ⟨⟨v0, hcell⟩, hfz, hnext⟩ := HL.out.step hlt
      have HNX := Lib.hid hnext
      clear hnext
      go_wp2_with fail
      go_roundw
      case rel => exact ⟨k + 1, by omega, by go_num, HNX.out⟩
      case measure => simp [intOf]; omega
    case neg =>
      have hd : decide (k < N) = false := decide_eq_false hlt
      obtain rfl : k = N := by omega
      have hwr := HL.out
      obtain ⟨C, hw, _, _⟩ := hwr.ex
      have hbM : Below w3.heap.size w3 wr := hw.below (below_alloc (Below.refl _ w3) _) (Nat.le_refl _)
      have hszr : wr.heap.size = w3.heap.size + 1 := by rw [hw.size]; simp
      have hsd : SD wr S D (fun j => W.heap.size ≤ j ∧ j < w3.heap.size) (nextS (st0 0 1) [c]) d1 := HLA.out.fr (K := fun j => j = w3.heap.size) ⟨hw.os, hw.tape, hw.output, Nat.le_of_eq hw.size.symm, fun j _ hj => hw.rest j hj⟩ (fun j _ h e => by omega)
      have KS := Lib.hid (savec_sd hsd (some ⟨w3.heap.size, 0, none⟩) k k (List.replicate k c) (fun w' hf => hwr.txt (by have := HN2.out; omega) HC.out w' (hf.block _ (by omega) (fun h => by omega))))
      have HBR := Lib.hid (HBW3.out.trans (hbM.mono HBW3.out.size))
      have hin := HIN1.out
      obtain ⟨st2, d2, c2, hsv⟩ : ∃ st2 d2 c2, saveS (nextS (st0 0 1) [c]) d1 (List.replicate k c) = (st2, d2, c2) := ⟨_, _, _, rfl⟩
      have hcase : (65536 < k ∧ c2 = 3 ∧ st2 = nextS (st0 0 1) [c] ∧ SInv (nextS (st0 0 1) [c]) d2) ∨ (¬ 65536 < k ∧ c2 = 0 ∧ st2 = nextS (nextS (st0 0 1) [c]) (List.replicate k c) ∧ SInv (nextS (nextS (st0 0 1) [c]) (List.replicate k c)) d2) := by
        by_cases hg : 65536 < k
        · have e : saveS (nextS (st0 0 1) [c]) d1 (List.replicate k c) = (nextS (st0 0 1) [c], d1, 3) := by
            unfold saveS
            rw [if_neg (by rw [hin.ok]; simp), if_pos (by simp; omega)]
          rw [hsv] at e
          injection e with e1 e2
          injection e2 with e2 e3
          subst e1 e2 e3
          exact .inl ⟨hg, rfl, rfl, hin⟩
        · obtain ⟨d, e, h, _⟩ := save_ok hin (bs := List.replicate k c) ⟨by show -9223372036854775808 ≤ (2 : Int) ∧ (2 : Int) ≤ 9223372036854775807; decide, by simp; omega, fun x hx => by rw [(List.mem_replicate.1 hx).2]; exact HC.out⟩ (by show (1 : Int) < _; decide) HLF1.out
          rw [hsv] at e
          injection e with e1 e2
          injection e2 with e2 e3
          subst e1 e2 e3
          exact .inr ⟨hg, rfl, rfl, h⟩
      rw [hsv] at KS
      have HCS := Lib.hid hcase
      have HSR := Lib.hid hszr
      clear hwr hw hbM hszr hsd hin hsv hcase
      go_wp2_with fail
      refine KS.out.mono ?_
      rintro e w5 ⟨rfl, hsd5, hf5⟩
      have hbW5 : Below W.heap.size W w5 := HBR.out.trans (hf5.below HBR.out.size (fun j hj => hj.1))
      obtain ⟨F, G, _, hd5, _, hH5⟩ := hsd5
      have hin5 : SInv st2 d2 ∧ st2.f0 = 0 ∧ st2.f1 = 1 := by
        rcases HCS.out with ⟨_, _, h, h2⟩ | ⟨_, _, h, h2⟩ <;> (subst h; exact ⟨h2, rfl, rfl⟩)
      have KO := Lib.hid (sopen_any hd5 (HE.out _ hbW5) 0 1)
      have hop : openS d2 0 1 = st2 := by have := hin5.1.open_; rw [hin5.2.1, hin5.2.2] at this; exact this
      have HDN := Lib.hid hin5.1.down
      have htx := HL.out.txt (by have := HN2.out; omega) HC.out w5 (hf5.block _ (by have := HSR.out; omega) (fun h => by omega))
      have HTX := Lib.hid htx
      have HBW5 := Lib.hid hbW5
      have HOP := Lib.hid hop
      clear hf5 hbW5 hd5 hH5 hin5 KS hop htx HL
      go_wp2_with fail
      refine KO.out.mono ?_
      rintro e w6 ⟨hb6, h | h | h | ⟨_, _, _, S6, rfl, hs6⟩⟩
      · exact absurd h.1 (by decide)
      · exact absurd (by rw [HDN.out]; decide) h.2.1
      · exact absurd (by rw [HDN.out]; decide) h.2.2.1
      rw [HOP.out] at hs6
      have KL := Lib.hid (last_sn hs6)
      have HB6 := Lib.hid (HBW5.out.trans (hb6.mono HBW5.out.size))
      have HTX6 := Lib.hid (HTX.out.below hb6)
      clear hs6 hb6 KO HTX
      go_wp2_with fail
      refine KL.out.mono ?_
      rintro e w7 ⟨u, rfl, ho7, hb7⟩
      have hbW7 := HB6.out.trans (hb7.mono HB6.out.size)
      obtain ⟨ua, un, uc, rfl⟩ : ∃ a n c, u = .slice a n c := by
        rcases ho7.form with ⟨rfl, _⟩ | ⟨g, c, rfl, _⟩
        · exact ⟨_, _, _, rfl⟩
        · exact ⟨_, _, _, rfl⟩
      have hbA7 := below_alloc (Below.refl _ w7) (.cells #[.int .u8 c] 5)
      rcases HCS.out with ⟨hg, rfl, rfl, _⟩ | ⟨hg, rfl, rfl, _⟩
      · have hd3 : decide ((k : Int) > 65536) = true := decide_eq_true (by omega)
        have hd4 : decide (65536 < k) = true := decide_eq_true hg
        have hcvB := txt_conv ho7.at w7 (Below.refl _ _)
        have hcvL := txt_conv (lit_txt0 HC.out (World.alloc_heap_new w7 _)) (w7.alloc (.cells #[.int .u8 c] 5)) (Below.refl _ _)
        obtain ⟨SB, hSB⟩ : ∃ SB, SB = strOfNums [c] := ⟨_, rfl⟩
        rw [← hSB] at hcvL
        rw [show strOfNums (nextS (st0 0 1) [c]).text = SB from hSB.symm] at hcvB
        rw [show (nextS (st0 0 1) [c]).gen = 1 from rfl]
        have HBA := Lib.hid (hbW7.trans (hbA7.mono hbW7.size))
        have KE := Lib.hid (one_sn _ (HE.out _ HBA.out))
        clear ho7 hb7 hbW7 hbA7 hSB hg KL HCS HTX6
        go_wp2_with fail
        refine KE.out.mono ?_
        rintro e w8 ⟨rfl, hb8⟩
        have HB8 := Lib.hid (HBA.out.trans (hb8.mono HBA.out.size))
        clear hb8
        go_wp2_with fail
        go_ret
        exact ⟨rfl, HB8.out⟩
      · have hd3 : decide ((k : Int) > 65536) = false := decide_eq_false (by omega)
        have hd4 : decide (65536 < k) = false := decide_eq_false hg
        have hcvB := txt_conv ho7.at w7 (Below.refl _ _)
        have hcvL := txt_conv (HTX6.out.below hb7) w7 (Below.refl _ _)
        obtain ⟨SB, hSB⟩ : ∃ SB, SB = strOfNums (List.replicate k c) := ⟨_, rfl⟩
        rw [← hSB] at hcvL
        rw [show strOfNums (nextS (nextS (st0 0 1) [c]) (List.replicate k c)).text = SB from hSB.symm] at hcvB
        rw [show (nextS (nextS (st0 0 1) [c]) (List.replicate k c)).gen = 2 from rfl]
        have HBA := Lib.hid hbW7
        have KE := Lib.hid (one_sn _ (HE.out _ HBA.out))
        clear ho7 hb7 hbW7 hbA7 hSB hg KL HCS HTX6
        go_wp2_with fail
        refine KE.out.mono ?_
        rintro e w8 ⟨rfl, hb8⟩
        have HB8 := Lib.hid (HBA.out.trans (hb8.mono HBA.out.size))
        clear hb8
        go_wp2_with fail
        go_ret
        exact ⟨rfl, HB8.out⟩
end Go.Proofs.YtomhfnaekjmjnaaDoor
