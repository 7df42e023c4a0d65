/- Laws that belong together: A disk that was made: its calls; and a small play. No condition.; What stays of a disk's bytes under any call; the steps that come in. No condition. -/
import Derived.Test.YtomhfnaekjmjnaaDoorMaj
import Derived.Test.YtomhfnaekjmjnaaDoorMak
import Derived.Lib.SlBytesConst
import Derived.Test.YtomhfnaekjmjnaaDoorMask
import Derived.Deep.Slices
import Derived.WideShapes
namespace Go.Proofs.YtomhfnaekjmjnaaDoor
set_option linter.unusedVariables false
open Go.ChangeShapes Go.WideShapes Go.ChangeAt Go.RowKit
attribute [local go_sem ↓] Go.wp_at_zero Go.wp_at_succ comesTo_value_eq comesTo_skip_eq comesTo_enter_eq

theorem append_dk {w : World} {D : Nat} {F : Nat → Prop} {st : DS} (h : Dk w D F st) (f : Int) (ad : Option Addr) (n c : Nat) (xs : List Int) (hn : n = xs.length) (hX : ∀ w', Fr F w w' → TxtAt w' (.slice ad n c) xs) (hxl : xs.length ≤ 140737487306752) :
    Calls Tryd.prog 33 #[.pointer (some ⟨D, 0, none⟩), .int .i64 f, .slice ad n c] w fun e w' => CallEnd 0 w D F st f xs e w' := by
  have K := Lib.hid (call0_dk h f ad n c xs hn hX hxl)
  clear h hX hn hxl
  go_enter Tryd.func33, Tryd.ntmps33
  go_wp2_with fail
  refine K.out.mono ?_
  rintro e w' ⟨rfl, h⟩
  go_wp2_with fail
  go_ret
  exact ⟨rfl, h⟩
theorem sync_dk {w : World} {D : Nat} {F : Nat → Prop} {st : DS} (h : Dk w D F st) (f : Int) :
    Calls Tryd.prog 49 #[.pointer (some ⟨D, 0, none⟩), .int .i64 f] w fun e w' => CallEnd 1 w D F st f [] e w' := by
  have K := Lib.hid (call1_dk h f)
  clear h
  go_enter Tryd.func49, Tryd.ntmps49
  go_wp2_with fail
  refine K.out.mono ?_
  rintro e w' ⟨rfl, h⟩
  go_wp2_with fail
  go_ret
  exact ⟨rfl, h⟩
theorem reset_dk {w : World} {D : Nat} {F : Nat → Prop} {st : DS} (h : Dk w D F st) (f : Int) :
    Calls Tryd.prog 37 #[.pointer (some ⟨D, 0, none⟩), .int .i64 f] w fun e w' => CallEnd 2 w D F st f [] e w' := by
  have K := Lib.hid (call2_dk h f)
  clear h
  go_enter Tryd.func37, Tryd.ntmps37
  go_wp2_with fail
  refine K.out.mono ?_
  rintro e w' ⟨rfl, h⟩
  go_wp2_with fail
  go_ret
  exact ⟨rfl, h⟩
theorem Dk.bound {w : World} {D : Nat} {F : Nat → Prop} {st : DS} (h : Dk w D F st) : Dk w D (fun j => F j ∧ j < w.heap.size) st := by
  obtain ⟨hm, hft, hsf, hl, v, lf, ar, hb, hr, hx⟩ := h
  exact ⟨⟨hm, (Array.getElem?_eq_some_iff.1 hb).1⟩, hft, hsf, hl, v, lf, ar, hb, ⟨hr.own, fun k g hk hg => ⟨⟨(hr.foot k g hk hg).1, ownBlock_lt (hr.own k hk) hg⟩, (hr.foot k g hk hg).2⟩, hr.apart⟩, hx⟩
def keep1 : Nat → Int := fun k => if k = 1 then 1 else 0
theorem one_st : ((callF 0 newF 1 [120, 121, 122]).2 = 0) ∧ (fallF (callF 0 newF 1 [120, 121, 122]).1 keep1).b 1 = [120] ∧ (fallF (callF 0 newF 1 [120, 121, 122]).1 keep1).down = false := by decide
end Go.Proofs.YtomhfnaekjmjnaaDoor
namespace Go.Proofs.YtomhfnaekjmjnaaDoor
set_option linter.unusedVariables false
open Go.ChangeShapes Go.WideShapes Go.ChangeAt Go.RowKit

theorem mask_3 (x : Int) : bits .and .i64 x 3 = x % 4 := mask_i64 x 2 4 rfl (by decide) (by decide) (by decide)
/-- of file k the first safe bytes begin with xb -/
def Keeps (xb : List Int) (k : Nat) (st : DS) : Prop := xb <+: (st.b k).take (st.s k)
theorem call0_bs (st : DS) (f : Int) (xs : List Int) (j : Nat) : (callF 0 st f xs).1.s j = st.s j ∧ ∃ ys, (callF 0 st f xs).1.b j = st.b j ++ ys := by
  unfold callF
  have nil : ∃ ys, st.b j = st.b j ++ ys := ⟨[], by simp⟩
  have up : ∃ ys, upd st.b f.toNat (st.b f.toNat ++ xs) j = st.b j ++ ys := by
    by_cases h : j = f.toNat
    · subst h; exact ⟨xs, by rw [upd_at]⟩
    · exact ⟨[], by rw [upd_ne _ _ h]; simp⟩
  split
  · exact ⟨rfl, nil⟩
  · split
    · exact ⟨rfl, nil⟩
    · split
      · exact ⟨rfl, up⟩
      · exact ⟨rfl, up⟩
theorem call1_bs (st : DS) (f : Int) (j : Nat) : (callF 1 st f []).1.b j = st.b j ∧ ((callF 1 st f []).1.s j = st.s j ∨ (callF 1 st f []).1.s j = (st.b j).length) := by
  unfold callF
  have up : upd st.s f.toNat (st.b f.toNat).length j = st.s j ∨ upd st.s f.toNat (st.b f.toNat).length j = (st.b j).length := by
    by_cases h : j = f.toNat
    · subst h; exact .inr (upd_at _ _ _)
    · exact .inl (upd_ne _ _ h)
  split
  · exact ⟨rfl, .inl rfl⟩
  · split
    · exact ⟨rfl, .inl rfl⟩
    · split
      · exact ⟨rfl, .inl rfl⟩
      · exact ⟨rfl, up⟩
theorem call2_bs (st : DS) (f : Int) (j : Nat) (h : f ≠ (j : Int)) : (callF 2 st f []).1.b j = st.b j ∧ (callF 2 st f []).1.s j = st.s j := by
  unfold callF
  split
  · exact ⟨rfl, rfl⟩
  · rename_i hw
    have hf : 0 ≤ f := by
      have := wrongF_zero (d := st.down) (f := f) (by simpa using hw)
      exact this.2.1
    have hne : j ≠ f.toNat := by omega
    split
    · exact ⟨rfl, rfl⟩
    · split
      · exact ⟨rfl, rfl⟩
      · exact ⟨upd_ne _ _ hne, upd_ne _ _ hne⟩
theorem keeps_call0 {xb : List Int} {k : Nat} {st : DS} (h : Keeps xb k st) (hs : st.s k ≤ (st.b k).length) (f : Int) (xs : List Int) : Keeps xb k (callF 0 st f xs).1 := by
  obtain ⟨h1, ys, h2⟩ := call0_bs st f xs k
  unfold Keeps
  rw [h1, h2, List.take_append_of_le_length hs]
  exact h
theorem keeps_call1 {xb : List Int} {k : Nat} {st : DS} (h : Keeps xb k st) (f : Int) : Keeps xb k (callF 1 st f []).1 := by
  obtain ⟨h1, h2⟩ := call1_bs st f k
  unfold Keeps
  rw [h1]
  rcases h2 with h2 | h2 <;> rw [h2]
  · exact h
  · rw [List.take_length]; exact h.trans (List.take_prefix _ _)
theorem keeps_call2 {xb : List Int} {k : Nat} {st : DS} (h : Keeps xb k st) (f : Int) (hf : f ≠ (k : Int)) : Keeps xb k (callF 2 st f []).1 := by
  obtain ⟨h1, h2⟩ := call2_bs st f k hf
  unfold Keeps
  rw [h1, h2]
  exact h
theorem fallF_b (st : DS) (keep : Nat → Int) {k : Nat} (hk : k < 4) : (fallF st keep).b k = (st.b k).take (fallS st keep k) := by
  show (if k < 4 then _ else _) = _
  rw [if_pos hk]
theorem fallF_s (st : DS) (keep : Nat → Int) {k : Nat} (hk : k < 4) : (fallF st keep).s k = fallS st keep k := by
  show (if k < 4 then _ else _) = _
  rw [if_pos hk]
theorem keeps_fall {xb : List Int} {k : Nat} {st : DS} (h : Keeps xb k st) (hk : k < 4) (keep : Nat → Int) : Keeps xb k (fallF st keep) := by
  unfold Keeps
  rw [fallF_b st keep hk, fallF_s st keep hk, List.take_take, Nat.min_self]
  refine h.trans ?_
  have : st.s k ≤ fallS st keep k := by unfold fallS; omega
  have e : (st.b k).take (st.s k) = ((st.b k).take (fallS st keep k)).take (st.s k) := by rw [List.take_take]; congr 1; omega
  rw [e]
  exact List.take_prefix _ _
theorem keeps_len {xb : List Int} {k : Nat} {st : DS} (h : Keeps xb k st) : xb.length ≤ ((st.b k).take (st.s k)).length := h.length_le
theorem keeps_take {xb : List Int} {k : Nat} {st : DS} (h : Keeps xb k st) : ((st.b k).take (st.s k)).take xb.length = xb := (List.prefix_iff_eq_take.1 h).symm

/-- a step that came in -/
structure ActV where
  kind : Int
  f : Int
  n : Int
  xs : List Int
  keep : Nat → Int
  deriving Inhabited
structure ActCells (w : World) (b o : Nat) (a : ActV) : Prop where
  c0 : w.cell? ⟨b, o, none⟩ = some (.int .i64 a.kind)
  c1 : w.cell? ⟨b, o + 1, none⟩ = some (.int .i64 a.f)
  c2 : w.cell? ⟨b, o + 2, none⟩ = some (.int .i64 a.n)
  c3 : ∃ ad c, w.cell? ⟨b, o + 3, none⟩ = some (.slice ad a.xs.length c) ∧ TxtAt w (.slice ad a.xs.length c) a.xs ∧ a.xs.length ≤ c ∧ (0 < a.xs.length → ∃ g o, ad = some ⟨g, o, none⟩)
  c4 : w.cell? ⟨b, o + 4, none⟩ = some (.int .i64 (a.keep 0))
  c5 : w.cell? ⟨b, o + 5, none⟩ = some (.int .i64 (a.keep 1))
  c6 : w.cell? ⟨b, o + 6, none⟩ = some (.int .i64 (a.keep 2))
  c7 : w.cell? ⟨b, o + 7, none⟩ = some (.int .i64 (a.keep 3))
  n_le : a.n ≤ 9223372036854775807
def ActsAt (w : World) (ad : Option Addr) (len : Nat) (A : Nat → ActV) : Prop := len ≤ 9223372036854775807 ∧ (0 < len → ∃ b off, ad = some ⟨b, off, none⟩ ∧ ∀ k, k < len → ActCells w b (off + k * 8) (A k))
theorem cells_act : Tryd.prog.cellsOf 78 = 8 := by kernel_rfl
theorem i64_top {n : Int} (h : (Lit.int .i64 n).wf = true) : n ≤ 9223372036854775807 := by
  have : -9223372036854775808 ≤ n ∧ n ≤ 9223372036854775807 := by simpa [Lit.wf, IntKind.min, IntKind.max, IntKind.signed, IntKind.bits] using h
  exact this.2
set_option maxRecDepth 100000 in
theorem acts_open {H : Type} {enc : TypeId × Value → H} {W : World} {a : Option Addr} {len cap : Nat} {d : DataW H} {p : List MemPlace}
    (h : DataW.Trod enc Tryd.prog W 0 (fun _ => true) true 75 (.slice a len cap) d p) : ∃ A : Nat → ActV, ActsAt W a len A ∧ len ≤ cap := by
  obtain ⟨fuel, hf⟩ := h
  rcases Go.Deep.open_slice Tryd.underlying75 hf with ⟨hcs, _⟩ | ⟨x, l, c, m, n, D, Pl, hcs, _, hl, hm, hmm, hd, hcell⟩
  · simp [Value.cells] at hcs
    obtain ⟨rfl, rfl, rfl⟩ := hcs
    exact ⟨fun _ => ⟨0, 0, 0, [], fun _ => 0⟩, ⟨by omega, fun h => absurd h (by omega)⟩, Nat.le_refl _⟩
  · simp [Value.cells] at hcs
    obtain ⟨rfl, rfl, rfl⟩ := hcs
    have hlm : len ≤ m := by rw [hmm]; split <;> omega
    rw [cells_act] at hcell
    by_cases h0 : len = 0
    · exact ⟨fun _ => ⟨0, 0, 0, [], fun _ => 0⟩, ⟨by omega, fun h => absurd h (by omega)⟩, hl⟩
    obtain ⟨b, off, spot⟩ := x
    have hspot : spot = none := by
      obtain ⟨cs', h1, _⟩ := hcell 0 (by omega)
      obtain ⟨_, hlen, hc⟩ := World.cells?_some h1
      have := hc 0 (by omega)
      have hs : cs'[0]? = some cs'[0] := List.getElem?_eq_getElem (by omega)
      rw [hs] at this
      simpa [Addr.add] using World.cell?_spot this
    subst hspot
    have hplain : ∀ k, (⟨b, off, none⟩ : Addr).add k = ⟨b, off + k, none⟩ := fun k => by unfold Addr.add; split <;> simp_all
    have hplain2 : ∀ k j, ((⟨b, off, none⟩ : Addr).add k).add j = ⟨b, off + k + j, none⟩ := fun k j => by rw [Go.Deep.add_add, hplain, Nat.add_assoc]
    have each : ∀ i, i < len → ∃ q : ActV, ActCells W b (off + i * 8) q := by
      intro i hi
      obtain ⟨cs', h1, h2⟩ := hcell i (by omega)
      obtain ⟨_, hlen, hc⟩ := World.cells?_some h1
      obtain ⟨xs, k, hk, _, _, hxl, hff⟩ := DataW.trod_struct Tryd.underlying78 h2
      match xs, hxl, cs', hlen with
      | [y0, y1, y2, y3, y4], _, [v0, v1, v2, v3, v4, v5, v6, v7], _ =>
        have g0 := hff 0 _ rfl
        have g1 := hff 1 _ rfl
        have g2 := hff 2 _ rfl
        have g3 := hff 3 _ rfl
        have g4 := hff 4 _ rfl
        have q1 : Tryd.prog.cellsOf 3 = 1 := by kernel_rfl
        have q2 : Tryd.prog.cellsOf 22 = 1 := by kernel_rfl
        have q3 : Tryd.prog.cellsOf 52 = 4 := by kernel_rfl
        simp [q1, q2, q3] at g0 g1 g2 g3 g4
        obtain ⟨z0, e0, _⟩ := DataW.trod_int Tryd.underlying3 g0
        obtain ⟨z1, e1, _⟩ := DataW.trod_int Tryd.underlying3 g1
        obtain ⟨z2, e2, _, w2⟩ := DataW.trod_int Tryd.underlying3 g2
        obtain ⟨_, _, _, _, _, _, k0, k1, k2, k3⟩ := trod_array4 Tryd.underlying52 q1 g4
        obtain ⟨z4, e4, _⟩ := DataW.trod_int Tryd.underlying3 k0
        obtain ⟨z5, e5, _⟩ := DataW.trod_int Tryd.underlying3 k1
        obtain ⟨z6, e6, _⟩ := DataW.trod_int Tryd.underlying3 k2
        obtain ⟨z7, e7, _⟩ := DataW.trod_int Tryd.underlying3 k3
        simp at e0 e1 e2 e4 e5 e6 e7
        subst e0 e1 e2 e4 e5 e6 e7
        have c : ∀ j, j < 8 → W.cell? ⟨b, off + i * 8 + j, none⟩ = [Value.int .i64 z0, .int .i64 z1, .int .i64 z2, v3, .int .i64 z4, .int .i64 z5, .int .i64 z6, .int .i64 z7][j]? := fun j hj => by rw [← hplain2]; exact hc j hj
        obtain ⟨ad, ln, cp, rfl⟩ : ∃ ad ln cp, v3 = .slice ad ln cp := by
          rcases Go.Deep.open_slice Tryd.underlying22 g3 with ⟨hcs, _⟩ | ⟨x, l, c, m, n, D, Pl, hcs, _⟩
          · simp at hcs; exact ⟨_, _, _, hcs⟩
          · simp at hcs; exact ⟨_, _, _, hcs⟩
        obtain ⟨zs, ⟨ht, hzl, hlc, hpos⟩, _⟩ := txt_open (enc := enc) (W := W) (a := ad) (len := ln) (cap := cp) ⟨k, by simpa [Value.cells] using g3⟩
        subst hzl
        exact ⟨⟨z0, z1, z2, zs, fun j => if j = 0 then z4 else if j = 1 then z5 else if j = 2 then z6 else z7⟩,
          { c0 := c 0 (by decide), c1 := c 1 (by decide), c2 := c 2 (by decide), c3 := ⟨ad, cp, c 3 (by decide), ht, hlc, hpos⟩, c4 := c 4 (by decide), c5 := c 5 (by decide), c6 := c 6 (by decide), c7 := c 7 (by decide), n_le := i64_top w2 }⟩
    obtain ⟨A, hA⟩ := Go.Deep.choose_lt (α := ActV) (p := fun i q => ActCells W b (off + i * 8) q) each
    exact ⟨A, ⟨by unfold maxLen at hm; omega, fun _ => ⟨b, off, rfl, hA⟩⟩, hl⟩
end Go.Proofs.YtomhfnaekjmjnaaDoor
