/- Four bytes of a number, laid and read; a copy of bytes without spare room. Conditions: the numbers' bounds. -/
import Derived.Test.YtomhfnaekjmjnaaDoorMab
import Derived.Test.YtomhfnaekjmjnaaDoorMad
import Derived.Test.YtomhfnaekjmjnaaDoorMac
import Derived.Laws.BitsAllLaws
import Derived.Laws.Bits64b
import Derived.Deep.SlicePairs
namespace Go.Proofs.YtomhfnaekjmjnaaDoor
set_option linter.unusedVariables false
open Go.ChangeShapes Go.WideShapes Go.ChangeAt Go.RowKit
attribute [local go_sem ↓] Go.wp_at_zero Go.wp_at_succ comesTo_value_eq comesTo_skip_eq comesTo_enter_eq

def four (v : Int) : List Int := [v % 256, v / 256 % 256, v / 65536 % 256, v / 16777216 % 256]
def num4 (xs : List Int) : Int := xs.getD 0 0 + xs.getD 1 0 * 256 + xs.getD 2 0 * 65536 + xs.getD 3 0 * 16777216
theorem four_txt {w : World} {b : Nat} {n : Int} {T : TypeId} (hb : w.heap[b]? = some (.cells #[.int .u8 (n % 256), .int .u8 (n / 256 % 256), .int .u8 (n / 65536 % 256), .int .u8 (n / 16777216 % 256)] T (0, 0))) : TxtAt w (.slice (some ⟨b, 0, none⟩) 4 4) (four n) := by
  refine .inl ⟨b, 0, 4, rfl, by simp [four], ⟨fun k hk => ?_, fun k hk => ?_, fun k hk => ?_, by simp [four]⟩⟩ <;> (rcases (by simp [four] at hk; omega : k = 0 ∨ k = 1 ∨ k = 2 ∨ k = 3) with rfl | rfl | rfl | rfl)
  all_goals first | exact cell_of_block hb rfl | (simp [four]; omega)
set_option maxRecDepth 100000 in
theorem putfour_any {w : World} {B : Nat} {v : Value} {xs : List Int} (h : OwnTxt w B v xs) (hB : B ≤ w.heap.size) (hl : xs.length ≤ 1099511627776) {n : Int} (hn : 0 ≤ n ∧ n < 4294967296) :
    Calls Tryd.prog 39 #[v, .int .u32 n] w fun e w' => ∃ u, e = .returned u ∧ OwnTxt w' B u (xs ++ four n) ∧ Below B w w' := by
  have w0 : IntKind.u8.wrap n = n % 256 := by rw [IntKind.wrap_u8']
  have w1 : IntKind.u8.wrap (n / 256) = n / 256 % 256 := by rw [IntKind.wrap_u8']
  have w2 : IntKind.u8.wrap (n / 65536) = n / 65536 % 256 := by rw [IntKind.wrap_u8']
  have w3 : IntKind.u8.wrap (n / 16777216) = n / 16777216 % 256 := by rw [IntKind.wrap_u8']
  have hA := below_alloc (Below.refl _ w) (.cells #[.int .u8 (n % 256), .int .u8 (n / 256 % 256), .int .u8 (n / 65536 % 256), .int .u8 (n / 16777216 % 256)] 5)
  have HO := Lib.hid (h.below hA)
  have HT := Lib.hid (four_txt (World.alloc_heap_new w (.cells #[.int .u8 (n % 256), .int .u8 (n / 256 % 256), .int .u8 (n / 65536 % 256), .int .u8 (n / 16777216 % 256)] 5)))
  have HA := Lib.hid hA
  have HBA : B ≤ (w.alloc (.cells #[.int .u8 (n % 256), .int .u8 (n / 256 % 256), .int .u8 (n / 65536 % 256), .int .u8 (n / 16777216 % 256)] 5)).heap.size := Nat.le_trans hB hA.size
  have HHB := Lib.hid hB
  have HF := Lib.hid (show xs.length + (four n).length ≤ 140737488355328 by simp [four]; omega)
  obtain ⟨a, m, c, rfl⟩ : ∃ a m c, v = .slice a m c := by
    rcases h.form with ⟨rfl, _⟩ | ⟨g, c, rfl, _⟩
    · exact ⟨_, _, _, rfl⟩
    · exact ⟨_, _, _, rfl⟩
  clear h hA hB hn hl
  go_enter Tryd.func39, Tryd.ntmps39
  go_wp2_with (at_builtin; go_loud (refine wpList_append_txt (by rfl) _ _ (by rfl) B (.slice a m c) xs (by rfl) HO.out _ (four n) (by rfl) HT.out HF.out HBA ?_; intro ad n' c' w1 o1 b1 g1; have O1 := Lib.hid o1; have B1 := Lib.hid b1; clear o1 b1 g1))
  go_ret
  exact ⟨_, rfl, O1.out, (HA.out.mono HHB.out).trans B1.out⟩
theorem or_join {a b : Int} (k : Nat) (M : Nat) (hM : M = 2 ^ k) (ha : 0 ≤ a ∧ a < M) (hb : 0 ≤ b) (hs : b * M < 4294967296) (hM2 : M ≤ 4294967296) : bits BinOp.or IntKind.u32 a (b * M) = a + b * M := by
  obtain ⟨x, rfl⟩ : ∃ x : Nat, a = (x : Int) := ⟨a.toNat, by omega⟩
  obtain ⟨y, rfl⟩ : ∃ y : Nat, b = (y : Int) := ⟨b.toNat, by omega⟩
  have e : ((y : Int) * (M : Int)) = ((y * M : Nat) : Int) := by simp
  rw [e] at hs ⊢
  have hx : x < M := by omega
  have hj : x ||| y * M = x + y * M := by
    rw [Nat.or_comm, hM, nat_join k (y * 2 ^ k) x (Nat.mul_mod_left _ _) (by rw [← hM]; exact hx), Nat.add_comm]
  have := u32_or_nat x (y * M) (by omega) (by omega)
  rw [this, hj]
  omega
set_option maxRecDepth 100000 in
theorem fourof_any {w : World} {b o n c : Nat} {xs : List Int} (h : TxtAt w (.slice (some ⟨b, o, none⟩) n c) xs) (h4 : 4 ≤ n) :
    Calls Tryd.prog 78 #[.slice (some ⟨b, o, none⟩) n c] w fun e w' => e = .returned (.int .u32 (num4 xs)) ∧ Below w.heap.size w w' := by
  have hmx : Tryd.prog.follows .mixedOrders = true := by kernel_rfl
  obtain ⟨hr, hn⟩ : BytesRow w b o xs ∧ n = xs.length := by
    rcases h with ⟨b', o', c', e, h1, h2⟩ | ⟨rfl, a, cp, e, _⟩
    · cases e; exact ⟨h2, rfl⟩
    · cases e; omega
  have c0 := hr.cell 0 (by omega)
  have c1 := hr.cell 1 (by omega)
  have c2 := hr.cell 2 (by omega)
  have c3 := hr.cell 3 (by omega)
  have l0 := hr.lo 0 (by omega)
  have l1 := hr.lo 1 (by omega)
  have l2 := hr.lo 2 (by omega)
  have l3 := hr.lo 3 (by omega)
  have u0 := hr.hi 0 (by omega)
  have u1 := hr.hi 1 (by omega)
  have u2 := hr.hi 2 (by omega)
  have u3 := hr.hi 3 (by omega)
  rw [Nat.add_zero] at c0
  unfold num4
  clear hr h hn
  generalize xs.getD 0 0 = x0 at *
  generalize xs.getD 1 0 = x1 at *
  generalize xs.getD 2 0 = x2 at *
  generalize xs.getD 3 0 = x3 at *
  have i0 : (0 : Int) < (n : Int) := by omega
  have i1 : (1 : Int) < (n : Int) := by omega
  have i2 : (2 : Int) < (n : Int) := by omega
  have i3 : (3 : Int) < (n : Int) := by omega
  have j0 : 0 < n := by omega
  have j1 : 1 < n := by omega
  have j2 : 2 < n := by omega
  have j3 : 3 < n := by omega
  have v0 : IntKind.u32.wrap x0 = x0 := by rw [IntKind.wrap_u32]; omega
  have v1 : IntKind.u32.wrap x1 = x1 := by rw [IntKind.wrap_u32]; omega
  have v2 : IntKind.u32.wrap x2 = x2 := by rw [IntKind.wrap_u32]; omega
  have v3 : IntKind.u32.wrap x3 = x3 := by rw [IntKind.wrap_u32]; omega
  have k1 : IntKind.u32.wrap (x1 * 256) = x1 * 256 := by rw [IntKind.wrap_u32]; omega
  have k2 : IntKind.u32.wrap (x2 * 65536) = x2 * 65536 := by rw [IntKind.wrap_u32]; omega
  have k3 : IntKind.u32.wrap (x3 * 16777216) = x3 * 16777216 := by rw [IntKind.wrap_u32]; omega
  have o1 : bits .or .u32 x0 (x1 * 256) = x0 + x1 * 256 := or_join 8 256 rfl (by omega) l1 (by omega) (by decide)
  have o2 : bits .or .u32 (x0 + x1 * 256) (x2 * 65536) = x0 + x1 * 256 + x2 * 65536 := or_join 16 65536 rfl (by omega) l2 (by omega) (by decide)
  have o3 : bits .or .u32 (x0 + x1 * 256 + x2 * 65536) (x3 * 16777216) = x0 + x1 * 256 + x2 * 65536 + x3 * 16777216 := or_join 24 16777216 rfl (by omega) l3 (by omega) (by decide)
  clear l0 l1 l2 l3 u0 u1 u2 u3
  go_enter Tryd.func78, Tryd.ntmps78
  go_upto_region 1 with fail
  refine wp_region_grow (fun w' => w' = w.drew) hmx (by kernel_rfl) rfl ?_
  iterate 23 (refine textS_run ?_ ?_ (fun W hS => ?_) ?_; rotate_left; (focus go_simp); (focus (subst hS; go_simp; all_goals (first | exact ⟨rfl, rfl⟩ | rfl | (refine ⟨?_, rfl⟩; rfl)))); (try go_simp))
  refine textS_nil ?_
  go_wp2_with fail
  go_ret
  exact ⟨rfl, Below.drew (Below.refl _ _)⟩
theorem TxtAt.bytes8 {w : World} {v : Value} {zs : List Int} (h : TxtAt w v zs) : ∀ k, k < zs.length → 0 ≤ zs.getD k 0 ∧ zs.getD k 0 ≤ 255 := by
  rcases h with ⟨b, off, cap, rfl, h2, h3⟩ | ⟨rfl, _⟩
  · exact fun k hk => ⟨h3.lo k hk, h3.hi k hk⟩
  · exact fun k hk => absurd hk (by simp)
theorem num4_bd {w : World} {v : Value} {zs : List Int} (h : TxtAt w v zs) : 0 ≤ num4 zs ∧ num4 zs < 4294967296 := by
  have key : ∀ k, 0 ≤ zs.getD k 0 ∧ zs.getD k 0 ≤ 255 := fun k => by
    by_cases hk : k < zs.length
    · exact h.bytes8 k hk
    · rw [List.getD_eq_getElem?_getD, List.getElem?_eq_none (by omega)]; exact ⟨by decide, by decide⟩
  have h0 := key 0
  have h1 := key 1
  have h2 := key 2
  have h3 := key 3
  unfold num4
  omega
/-- a copy of bytes without spare room -/
def AloneT (w : World) (B : Nat) (v : Value) (xs : List Int) : Prop := ∃ ad c, v = .slice ad xs.length xs.length ∧ OwnTxt w B (.slice ad xs.length c) xs
theorem OwnTxt.tight {w : World} {B n c c' : Nat} {ad : Option Addr} {xs : List Int} (h : TxtAt w (.slice ad n c) xs) (hn : ad = none → c' = 0) : TxtAt w (.slice ad n c') xs := by
  rcases h with ⟨b, o, cp, e, h1, h2⟩ | ⟨rfl, a, cp, e, h1⟩
  · cases e; exact .inl ⟨b, o, c', rfl, h1, h2⟩
  · cases e; exact .inr ⟨rfl, ad, c', rfl, hn⟩
theorem AloneT.at {w : World} {B : Nat} {v : Value} {xs : List Int} (h : AloneT w B v xs) : TxtAt w v xs := by
  obtain ⟨ad, c, rfl, h⟩ := h
  refine OwnTxt.tight (B := B) h.at fun e => ?_
  subst e
  rcases h.form with ⟨_, rfl⟩ | ⟨g, c', e, _⟩
  · rfl
  · cases e
theorem AloneT.of_block {w w' : World} {B : Nat} {v : Value} {xs : List Int} (h : AloneT w B v xs) (hb : ∀ g cs m, w.heap[g]? = some (.cells cs 5 m) → B ≤ g → w'.heap[g]? = w.heap[g]?) : AloneT w' B v xs := by
  obtain ⟨ad, c, e, h⟩ := h
  refine ⟨ad, c, e, h.of_block fun g hg => ?_⟩
  rcases h.own.2 with ⟨e, _⟩ | ⟨g', cap, cur, e, hB, hh, _⟩
  · rw [e] at hg; cases hg
  · rw [e] at hg
    simp only [Value.ownBlock, Option.some.injEq] at hg
    subst hg
    exact hb _ _ _ hh hB
theorem AloneT.below {w w' : World} {B : Nat} {v : Value} {xs : List Int} (h : AloneT w B v xs) (hb : Below w.heap.size w w') : AloneT w' B v xs :=
  h.of_block fun g _ _ hg _ => hb.block g (Array.getElem?_eq_some_iff.1 hg).1
theorem AloneT.base {w : World} {B B' : Nat} {v : Value} {xs : List Int} (h : AloneT w B v xs) (hB : B' ≤ B) : AloneT w B' v xs := by
  obtain ⟨ad, c, e, h⟩ := h
  exact ⟨ad, c, e, h.base hB⟩
theorem AloneT.nil {w : World} {B : Nat} : AloneT w B (.slice none 0 0) [] := ⟨none, 0, rfl, OwnTxt.nil⟩
theorem alone_any {w : World} {v : Value} {xs : List Int} (h : TxtAt w v xs) (hl : xs.length ≤ 140737488355328) :
    Calls Tryd.prog 50 #[v] w fun e w' => ∃ u, e = .returned u ∧ AloneT w' w.heap.size u xs ∧ Below w.heap.size w w' := by
  have K := Lib.hid (clone_bytes h hl)
  clear h
  go_enter Tryd.func50, Tryd.ntmps50
  go_wp2_with fail
  refine K.out.mono ?_
  rintro e w1 ⟨u, rfl, ho, hb, _⟩
  have HO := Lib.hid ho
  have HB := Lib.hid hb
  rcases ho.form with ⟨rfl, rfl⟩ | ⟨g, c, rfl, hn, _⟩
  · clear ho hb K
    go_wp2
    go_ret
    exact ⟨_, rfl, AloneT.nil, HB.out⟩
  · clear ho hb K
    have hn' : (xs.length : Int) ≤ (c : Int) := by omega
    generalize hm : xs.length = m at *
    go_wp2
    go_ret
    exact ⟨.slice (some ⟨g, 0, none⟩) m m, rfl, ⟨some ⟨g, 0, none⟩, c, by rw [hm], by rw [hm]; exact HO.out⟩, HB.out⟩
end Go.Proofs.YtomhfnaekjmjnaaDoor
