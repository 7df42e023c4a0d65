/- The contract of Of (prio). No condition but that arguments fit their kinds. -/
import Derived.Test.YtbhnjmdlagjfbaaPrio
namespace Go.Proofs.Ytbhnjmdlagjfbaa
set_option linter.unusedVariables false
open Go.ChangeShapes Go.WideShapes Go.ChangeAt Go.RowKit
attribute [local go_sem ↓] Go.wp_at_zero Go.wp_at_succ comesTo_value_eq comesTo_skip_eq comesTo_enter_eq
attribute [local go_sem high] run_minI run_maxI

/-- four numbers put together -/
theorem together_any (x0 x1 x2 x3 : Int) (g cap : Nat) (w : World) (c0 : w.cell? ⟨g, 0, none⟩ = some (.int .i64 x0)) (c1 : w.cell? ⟨g, 1, none⟩ = some (.int .i64 x1)) (c2 : w.cell? ⟨g, 2, none⟩ = some (.int .i64 x2)) (c3 : w.cell? ⟨g, 3, none⟩ = some (.int .i64 x3))
    (b0 : -100000 ≤ x0 ∧ x0 ≤ 1000000) (b1 : -100000 ≤ x1 ∧ x1 ≤ 1000000) (b2 : -100000 ≤ x2 ∧ x2 ≤ 1000000) (b3 : -100000 ≤ x3 ∧ x3 ≤ 1000000) :
    Calls Try.prog 147 #[.slice (some ⟨g, 0, none⟩) 4 cap] w fun e w' => e = .returned (.int .i64 (x0 + x1 + x2 + x3)) ∧ w = w' := by
  go_enter Try.func147, Try.ntmps147
  go_wp2
  go_loop [3, 8] (fun s i => ∃ k : Int, 0 ≤ k ∧ k ≤ 4 ∧ i = .int .i64 k ∧ s = .int .i64 (if k = 0 then 0 else if k = 1 then x0 else if k = 2 then x0 + x1 else if k = 3 then x0 + x1 + x2 else x0 + x1 + x2 + x3)) (fun _ i => 4 - (intOf i).toNat)
  case atStart => exact ⟨0, by omega, by omega, rfl, rfl⟩
  case round =>
    obtain ⟨k, hk0, hk, rfl, rfl⟩ := hrel
    have hk5 : k = 0 ∨ k = 1 ∨ k = 2 ∨ k = 3 ∨ k = 4 := by omega
    clear hk0 hk
    rcases hk5 with rfl | rfl | rfl | rfl | rfl
    · go_wp2
      go_round
      case rel => exact ⟨1, by omega, by omega, rfl, by simp⟩
      case measure => simp [intOf]
    · go_wp2
      go_round
      case rel => exact ⟨2, by omega, by omega, rfl, by simp⟩
      case measure => simp [intOf]
    · go_wp2
      go_round
      case rel => exact ⟨3, by omega, by omega, rfl, by simp⟩
      case measure => simp [intOf]
    · go_wp2
      go_round
      case rel => exact ⟨4, by omega, by omega, rfl, by simp⟩
      case measure => simp [intOf]
    · go_wp2
      go_ret
      exact ⟨rfl, rfl⟩

/-- how a job's facts count -/
def ageI (t : Int) : Int := minI (clampI t / 16) 1000
def widI (n : Int) : Int := minI (maxI n 0) 64
def facI (n : Int) : Int := minI (maxI n 0) 1000
def nicI (n : Int) : Int := minI (maxI n (-100)) 100
theorem ageI_bd (t : Int) : 0 ≤ ageI t ∧ ageI t ≤ 1000 := by unfold ageI minI; have := clampI_bd t; split <;> omega
theorem widI_bd (t : Int) : 0 ≤ widI t ∧ widI t ≤ 64 := by unfold widI minI maxI; split <;> (try split) <;> (try split at *) <;> omega
theorem facI_bd (t : Int) : 0 ≤ facI t ∧ facI t ≤ 1000 := by unfold facI minI maxI; split <;> (try split) <;> (try split at *) <;> omega
theorem nicI_bd (t : Int) : -100 ≤ nicI t ∧ nicI t ≤ 100 := by unfold nicI minI maxI; split <;> (try split) <;> (try split at *) <;> omega
theorem pmul_bd {a f m : Int} (a0 : 0 ≤ a) (a1 : a ≤ 1000) (f0 : 0 ≤ f) (f1 : f ≤ m) : 0 ≤ a * f ∧ a * f ≤ 1000 * m := by
  refine ⟨Int.mul_nonneg a0 f0, ?_⟩
  exact Int.mul_le_mul a1 f1 f0 (by omega)
theorem pmul_bd2 {a f : Int} (a0 : 0 ≤ a) (a1 : a ≤ 1000) (f0 : -100 ≤ f) (f1 : f ≤ 100) : -100000 ≤ a * f ∧ a * f ≤ 100000 := by
  have h1 := pmul_bd (m := 200) a0 a1 (f := f + 100) (by omega) (by omega)
  have h2 := pmul_bd (m := 200) a0 a1 (f := 100 - f) (by omega) (by omega)
  rw [Int.mul_add] at h1
  rw [Int.mul_sub] at h2
  constructor <;> omega
/-- the priority -/
def ofI (a b c d t n u k : Int) : Int := if rightB a b c d = true then a * ageI t + b * widI n + c * facI u + d * -nicI k else 0

theorem info_int : (Try.prog.info? 3).map (fun i => (i.zero, i.size, i.bytes)) = some (some (.int .i64 0), 1, 8) := by kernel_rfl
/-- numbers of the call's own, from block B on -/
def OwnI (w : World) (B : Nat) (v : Value) (l : List Int) : Prop := w.ownsRow B 3 1 v l.length (l.map (Value.int .i64))
theorem OwnI.below {w w' : World} {B : Nat} {v : Value} {l : List Int} (h : OwnI w B v l) (hb : Below w.heap.size w w') : OwnI w' B v l := by
  refine ⟨h.1, ?_⟩
  rcases h.2 with hn | ⟨g, cap, cur, hv, hB, hg, rest⟩
  · exact .inl hn
  · refine .inr ⟨g, cap, cur, hv, hB, ?_, rest⟩
    have hlt : g < w.heap.size := by
      rcases Nat.lt_or_ge g w.heap.size with h | h
      · exact h
      · rw [Array.getElem?_eq_none h] at hg; cases hg
    rw [hb.block g hlt]; exact hg
theorem OwnI.nil {w : World} {B : Nat} : OwnI w B (.slice none 0 0) [] := ⟨rfl, .inl ⟨rfl, rfl⟩⟩
/-- the cells of a row that is not empty -/
theorem OwnI.cells {w : World} {B : Nat} {ad : Option Addr} {n c : Nat} {l : List Int} (h : OwnI w B (.slice ad n c) l) (h0 : 0 < l.length) : n = l.length ∧ ∃ g, ad = some ⟨g, 0, none⟩ ∧ B ≤ g ∧ g < w.heap.size ∧ ∀ k, k < l.length → w.cell? ⟨g, k, none⟩ = some (.int .i64 (l.getD k 0)) := by
  rcases h.2 with ⟨hn, h1⟩ | ⟨g, cap, cur, hv, hB, hg, rest⟩
  · have : l.length = 0 := h1
    omega
  · cases hv
    have hlt : g < w.heap.size := by
      rcases Nat.lt_or_ge g w.heap.size with h | h
      · exact h
      · rw [Array.getElem?_eq_none h] at hg; cases hg
    refine ⟨rfl, g, rfl, hB, hlt, fun k hk => ?_⟩
    have := World.ownsRow.cells h (g := g) rfl k (.int .i64 (l.getD k 0)) (by simp [hk])
    have hplain : (⟨g, 0, none⟩ : Addr).add k = ⟨g, 0 + k, none⟩ := by unfold Addr.add; split <;> simp_all
    rw [hplain, Nat.zero_add] at this
    exact this
section
variable {ops : Array Oper} {rest : List Oper} {o : Oper} {a : Act} {w : World} {Q : Exit → Act → World → Prop}
/-- APPEND of one number -/
theorem wpList_append_int (hgd : o.guard = none) (s x : Operand)
    (ho : o.op = .call { callee := .builtin .append, args := #[s, x], argTypes := #[53, 53] })
    (B : Nat) (v : Value) (l : List Int) (hs : a.eval s = v) (hown : OwnI w B v l) (g c : Nat) (p : Int) (hx : a.eval x = .slice (some ⟨g, 0, none⟩) 1 c)
    (c0 : w.cell? ⟨g, 0, none⟩ = some (.int .i64 p)) (h63 : l.length + 1 ≤ 1099511627776) (hB : B ≤ w.heap.size)
    (h' : ∀ (ad : Option Addr) (n c : Nat) (w' : World), OwnI w' B (.slice ad n c) (l ++ [p]) → Below B w w' → wpList Try.prog ops Q rest (a.put o.dst (.slice ad n c)) w') : wpList Try.prog ops Q (o :: rest) a w := by
  have h : ∀ v' w', OwnI w' B v' (l ++ [p]) → Below B w w' → wpList Try.prog ops Q rest (a.put o.dst v') w' := fun v' w' h1 h2 => by
    rcases h1.2 with ⟨e, _⟩ | ⟨g, cap, cur, e, _⟩
    · subst e; exact h' none 0 0 w' h1 h2
    · subst e; exact h' _ _ cap w' h1 h2
  obtain ⟨i0, hi, hz0, hz1, hz2⟩ := info_parts info_int
  have hblk : ∀ k, v.ownBlock = some k → B ≤ k := fun k hk => by
    rcases hown.2 with ⟨rfl, _⟩ | ⟨g, cap, cur, rfl, hg, _⟩
    · cases hk
    · simp only [Value.ownBlock, Option.some.injEq] at hk; omega
  refine wpList_append_own _ hgd s x 53 ho B 3 i0 (.int .i64 0) 1 8 Try.underlying53 hi hz0 hz1 hz2 rfl (by decide) v l.length (l.map (Value.int .i64)) hs hown
      ⟨g, 0, none⟩ 1 c [.int .i64 p] hx rfl (fun j u hj => ?_) (fun u hu => ?_) (by unfold maxLen; omega) (by omega) hB (fun v' w' h1 h2 _ => ?_)
  · match j, hj with
    | 0, hj => simp at hj; subst hj; simpa [Addr.add] using c0
    | j + 1, hj => simp at hj
  · simp at hu
    subst hu; rfl
  · exact h v' w' (by unfold OwnI; rw [List.length_append, List.map_append]; exact h1) (Below.grown (Below.refl _ _) h2 hB hblk)
end

theorem of_no (a b c d t n u k : Int) (w : World) (h : rightB a b c d = false) :
    Calls Try.prog 110 #[.agg #[.int .i64 a, .int .i64 b, .int .i64 c, .int .i64 d], .agg #[.int .i64 t, .int .i64 n, .int .i64 u, .int .i64 k]] w fun e w' => e = .returned (.int .i64 0) ∧ Below w.heap.size w w' := by
  have K := Lib.hid (fun W => right_any a b c d W)
  rw [h] at K
  clear h
  go_enter Try.func110, Try.ntmps110
  go_wp2_with (go_at_call 145; refine (K.out _).mono ?_; rintro e w1 ⟨rfl, hb1⟩)
  go_ret
  exact ⟨rfl, Below.trans (by exact (by repeat (first | exact Below.refl _ _ | assumption | refine below_drewN ?_ _ | refine Below.drew ?_ | refine below_alloc ?_ _ | refine Below.alloc ?_ (by first | omega | (simp; done) | (simp; omega)) _ | refine Below.setCell ?_ (Below.size (by assumption)) _ | refine Below.setCell ?_ (by first | omega | (simp; done) | (simp; omega)) _ | (refine Below.trans ?_ (Below.mono (by assumption) (by first | omega | (simp; done) | (simp; omega)))) | refine below_next ?_ (by assumption)))) (hb1.mono (by simp; omega))⟩

set_option maxRecDepth 100000 in
set_option maxHeartbeats 2000000 in
theorem of_yes (a b c d t n u k : Int) (w : World) (h : rightB a b c d = true) :
    Calls Try.prog 110 #[.agg #[.int .i64 a, .int .i64 b, .int .i64 c, .int .i64 d], .agg #[.int .i64 t, .int .i64 n, .int .i64 u, .int .i64 k]] w fun e w' => e = .returned (.int .i64 (a * ageI t + b * widI n + c * facI u + d * -nicI k)) ∧ Below w.heap.size w w' := by
  have K := Lib.hid (fun W => right_any a b c d W)
  rw [h] at K
  obtain ⟨⟨a0, a1⟩, ⟨b0, b1⟩, ⟨c0, c1⟩, d0, d1⟩ := (rightB_iff a b c d).1 h
  clear h
  have y0 := ageI_bd t
  have y1 := widI_bd n
  have y2 := facI_bd u
  have y3 := nicI_bd k
  have p0 := pmul_bd a0 a1 y0.1 y0.2
  have p1 := pmul_bd b0 b1 y1.1 y1.2
  have p2 := pmul_bd c0 c1 y2.1 y2.2
  have p3 := pmul_bd2 d0 d1 (f := -nicI k) (by omega) (by omega)
  clear a0 a1 b0 b1 c0 c1 d0 d1
  have i0 : ∀ w, (Instr.index 203 (.agg #[.int .i64 a, .int .i64 b, .int .i64 c, .int .i64 d]) (.int .i64 0)).run Try.prog w = .ok (.int .i64 a) w := fun _ => by kernel_rfl
  have i1 : ∀ w, (Instr.index 203 (.agg #[.int .i64 a, .int .i64 b, .int .i64 c, .int .i64 d]) (.int .i64 1)).run Try.prog w = .ok (.int .i64 b) w := fun _ => by kernel_rfl
  have i2 : ∀ w, (Instr.index 203 (.agg #[.int .i64 a, .int .i64 b, .int .i64 c, .int .i64 d]) (.int .i64 2)).run Try.prog w = .ok (.int .i64 c) w := fun _ => by kernel_rfl
  have i3 : ∀ w, (Instr.index 203 (.agg #[.int .i64 a, .int .i64 b, .int .i64 c, .int .i64 d]) (.int .i64 3)).run Try.prog w = .ok (.int .i64 d) w := fun _ => by kernel_rfl
  have hcl := clampI_bd t
  have hni := nicI_bd k
  unfold nicI at hni
  have eA := Lib.hid (show ageI t = minI (clampI t / 16) 1000 from rfl)
  have eW := Lib.hid (show widI n = minI (maxI n 0) 64 from rfl)
  have eF := Lib.hid (show facI u = minI (maxI u 0) 1000 from rfl)
  have eN := Lib.hid (show nicI k = minI (maxI k (-100)) 100 from rfl)
  generalize ageI t = A0 at *
  generalize widI n = A1 at *
  generalize facI u = A2 at *
  generalize nicI k = A3 at *
  go_enter Try.func110, Try.ntmps110
  go_wp2_with (go_at_call 145; refine (K.out _).mono ?_; rintro e w1 ⟨rfl, hb1⟩)
  obtain ⟨hc, hf⟩ := bcell hb1
  have HB := Lib.hid (show Below w.heap.size w w1 from Below.trans (by exact (by repeat (first | exact Below.refl _ _ | assumption | refine below_drewN ?_ _ | refine Below.drew ?_ | refine below_alloc ?_ _ | refine Below.alloc ?_ (by first | omega | (simp; done) | (simp; omega)) _ | refine Below.setCell ?_ (Below.size (by assumption)) _ | refine Below.setCell ?_ (by first | omega | (simp; done) | (simp; omega)) _ | (refine Below.trans ?_ (Below.mono (by assumption) (by first | omega | (simp; done) | (simp; omega)))) | refine below_next ?_ (by assumption)))) (hb1.mono (by simp; omega)))
  have l1 : w.heap.size + 1 < w1.heap.size := by have := hb1.size; simp at this; omega
  have f0 : w1.cell? ⟨w.heap.size + 1, 0, none⟩ = some (.int .i64 t) := (hc _ 0 (by simp)).trans (by go_simp)
  have f1 : w1.cell? ⟨w.heap.size + 1, 1, none⟩ = some (.int .i64 n) := (hc _ 1 (by simp)).trans (by go_simp)
  have f2 : w1.cell? ⟨w.heap.size + 1, 2, none⟩ = some (.int .i64 u) := (hc _ 2 (by simp)).trans (by go_simp)
  have f3 : w1.cell? ⟨w.heap.size + 1, 3, none⟩ = some (.int .i64 k) := (hc _ 3 (by simp)).trans (by go_simp)
  have e0 : w1.cell? ⟨w.heap.size, 0, none⟩ = some (.int .i64 a) := (hc _ 0 (by simp; omega)).trans (by go_simp)
  have e1 : w1.cell? ⟨w.heap.size, 1, none⟩ = some (.int .i64 b) := (hc _ 1 (by simp; omega)).trans (by go_simp)
  have e2 : w1.cell? ⟨w.heap.size, 2, none⟩ = some (.int .i64 c) := (hc _ 2 (by simp; omega)).trans (by go_simp)
  have e3 : w1.cell? ⟨w.heap.size, 3, none⟩ = some (.int .i64 d) := (hc _ 3 (by simp; omega)).trans (by go_simp)
  clear hc hf hb1
  have q1 : IntKind.i64.wrap ((clampI t).tdiv 16) = clampI t / 16 := by rw [Int.tdiv_eq_ediv_of_nonneg hcl.1]; exact IntWalk.i64_in _ (by omega)
  have q2 : IntKind.i64.wrap (-minI (maxI k (-100)) 100) = -minI (maxI k (-100)) 100 := IntWalk.i64_in _ (by omega)
  refine wp_region_boxes w1 (by kernel_rfl) (by kernel_rfl) (Below.refl _ _) ?_
  (refine textB_det ?_ rfl rfl ?_ (fun W hS => ?_) ?_; rotate_left; (focus go_simp); (focus (obtain ⟨hc, hf⟩ := bcell hS; go_simp; first | (refine ⟨?_, Below.refl _ _⟩; rfl) | rfl | exact Below.refl _ _)); (try go_simp))
  (refine textB_det ?_ rfl rfl ?_ (fun W hS => ?_) ?_; rotate_left; (focus go_simp); (focus (obtain ⟨hc, hf⟩ := bcell hS; go_simp; first | (refine ⟨?_, Below.refl _ _⟩; rfl) | rfl | exact Below.refl _ _)); (try go_simp))
  (refine textB_det ?_ rfl rfl ?_ (fun W hS => ?_) ?_; rotate_left; (focus go_simp); (focus (obtain ⟨hc, hf⟩ := bcell hS; go_simp; refine (clamp_any _ _).mono ?_; rintro e w1 ⟨rfl, rfl⟩; refine ⟨?_, Below.refl _ _⟩; rfl)); (try go_simp))
  (refine textB_det ?_ rfl rfl ?_ (fun W hS => ?_) ?_; rotate_left; (focus go_simp); (focus (obtain ⟨hc, hf⟩ := bcell hS; go_simp; first | (refine ⟨?_, Below.refl _ _⟩; rfl) | rfl | exact Below.refl _ _)); (try go_simp))
  (refine textB_det ?_ rfl rfl ?_ (fun W hS => ?_) ?_; rotate_left; (focus go_simp); (focus (obtain ⟨hc, hf⟩ := bcell hS; go_simp; first | (refine ⟨?_, Below.refl _ _⟩; rfl) | rfl | exact Below.refl _ _)); (try go_simp))
  (refine textB_det ?_ rfl rfl ?_ (fun W hS => ?_) ?_; rotate_left; (focus go_simp); (focus (obtain ⟨hc, hf⟩ := bcell hS; go_simp; first | (refine ⟨?_, Below.refl _ _⟩; rfl) | rfl | exact Below.refl _ _)); (try go_simp))
  (refine textB_det ?_ rfl rfl ?_ (fun W hS => ?_) ?_; rotate_left; (focus go_simp); (focus (obtain ⟨hc, hf⟩ := bcell hS; go_simp; first | (refine ⟨?_, Below.refl _ _⟩; rfl) | rfl | exact Below.refl _ _)); (try go_simp))
  (refine textB_det ?_ rfl rfl ?_ (fun W hS => ?_) ?_; rotate_left; (focus go_simp); (focus (obtain ⟨hc, hf⟩ := bcell hS; go_simp; first | (refine ⟨?_, Below.refl _ _⟩; rfl) | rfl | exact Below.refl _ _)); (try go_simp))
  (refine textB_det ?_ rfl rfl ?_ (fun W hS => ?_) ?_; rotate_left; (focus go_simp); (focus (obtain ⟨hc, hf⟩ := bcell hS; go_simp; first | (refine ⟨?_, Below.refl _ _⟩; rfl) | rfl | exact Below.refl _ _)); (try go_simp))
  (refine textB_det ?_ rfl rfl ?_ (fun W hS => ?_) ?_; rotate_left; (focus go_simp); (focus (obtain ⟨hc, hf⟩ := bcell hS; go_simp; first | (refine ⟨?_, Below.refl _ _⟩; rfl) | rfl | exact Below.refl _ _)); (try go_simp))
  (refine textB_det ?_ rfl rfl ?_ (fun W hS => ?_) ?_; rotate_left; (focus go_simp); (focus (obtain ⟨hc, hf⟩ := bcell hS; go_simp; first | (refine ⟨?_, Below.refl _ _⟩; rfl) | rfl | exact Below.refl _ _)); (try go_simp))
  (refine textB_det ?_ rfl rfl ?_ (fun W hS => ?_) ?_; rotate_left; (focus go_simp); (focus (obtain ⟨hc, hf⟩ := bcell hS; go_simp; first | (refine ⟨?_, Below.refl _ _⟩; rfl) | rfl | exact Below.refl _ _)); (try go_simp))
  (refine textB_det ?_ rfl rfl ?_ (fun W hS => ?_) ?_; rotate_left; (focus go_simp); (focus (obtain ⟨hc, hf⟩ := bcell hS; go_simp; first | (refine ⟨?_, Below.refl _ _⟩; rfl) | rfl | exact Below.refl _ _)); (try go_simp))
  (refine textB_det ?_ rfl rfl ?_ (fun W hS => ?_) ?_; rotate_left; (focus go_simp); (focus (obtain ⟨hc, hf⟩ := bcell hS; go_simp; first | (refine ⟨?_, Below.refl _ _⟩; rfl) | rfl | exact Below.refl _ _)); (try go_simp))
  (refine textB_det ?_ rfl rfl ?_ (fun W hS => ?_) ?_; rotate_left; (focus go_simp); (focus (obtain ⟨hc, hf⟩ := bcell hS; go_simp; first | (refine ⟨?_, Below.refl _ _⟩; rfl) | rfl | exact Below.refl _ _)); (try go_simp))
  (refine textB_det ?_ rfl rfl ?_ (fun W hS => ?_) ?_; rotate_left; (focus go_simp); (focus (obtain ⟨hc, hf⟩ := bcell hS; go_simp; first | (refine ⟨?_, Below.refl _ _⟩; rfl) | rfl | exact Below.refl _ _)); (try go_simp))
  (refine textB_det ?_ rfl rfl ?_ (fun W hS => ?_) ?_; rotate_left; (focus go_simp); (focus (obtain ⟨hc, hf⟩ := bcell hS; go_simp; first | (refine ⟨?_, Below.refl _ _⟩; rfl) | rfl | exact Below.refl _ _)); (try go_simp))
  (refine textB_det ?_ rfl rfl ?_ (fun W hS => ?_) ?_; rotate_left; (focus go_simp); (focus (obtain ⟨hc, hf⟩ := bcell hS; go_simp; first | (refine ⟨?_, Below.refl _ _⟩; rfl) | rfl | exact Below.refl _ _)); (try go_simp))
  (refine textB_det ?_ rfl rfl ?_ (fun W hS => ?_) ?_; rotate_left; (focus go_simp); (focus (obtain ⟨hc, hf⟩ := bcell hS; go_simp; first | (refine ⟨?_, Below.refl _ _⟩; rfl) | rfl | exact Below.refl _ _)); (try go_simp))
  (refine textB_al _ (203) (#[.int .i64 0, .int .i64 0, .int .i64 0, .int .i64 0]) rfl rfl rfl (fun ρ W => ?_) ?_; (focus (first | rfl | (go_simp; done) | (go_simp; rfl))); (try go_simp))
  (refine textB_st _ _ _ (#[.int .i64 (minI (clampI t / 16) 1000), .int .i64 (minI (maxI n 0) 64), .int .i64 (minI (maxI u 0) 1000), .int .i64 (-minI (maxI k (-100)) 100)]) rfl rfl rfl rfl (fun b W hb => ?_) ?_; (focus (have c0 := cell_of_block (o := 0) hb rfl; have f0 := free_of_block 0 hb; have c1 := cell_of_block (o := 1) hb rfl; have f1 := free_of_block 1 hb; have c2 := cell_of_block (o := 2) hb rfl; have f2 := free_of_block 2 hb; have c3 := cell_of_block (o := 3) hb rfl; have f3 := free_of_block 3 hb; refine ⟨_, (by first | (go_simp; done) | (go_simp; rfl)), ((((wrote_refl hb).set 0 (.int .i64 (minI (clampI t / 16) 1000))).set 1 (.int .i64 (minI (maxI n 0) 64))).set 2 (.int .i64 (minI (maxI u 0) 1000))).set 3 (.int .i64 (-minI (maxI k (-100)) 100))⟩)); (try go_simp))
  clear q1 q2
  intro blk w2 hb2 hbx hbd
  have hq := hbx _ List.mem_cons_self
  dsimp only at hq
  simp only [List.map_cons, List.map_nil, putAll]
  obtain ⟨hq1, hq2⟩ := hq
  clear hbx hbd
  generalize blk 5 = bq at *
  clear blk
  rw [← eA.out, ← eW.out, ← eF.out, ← eN.out] at hq2
  clear eA eW eF eN
  have KA := Lib.hid (fun W => all_any a b c d W)
  obtain ⟨hc, hf⟩ := bcell hb2
  replace e0 := (hc _ 0 (by omega)).trans e0
  replace e1 := (hc _ 1 (by omega)).trans e1
  replace e2 := (hc _ 2 (by omega)).trans e2
  replace e3 := (hc _ 3 (by omega)).trans e3
  have g0 := cell_of_block (o := 0) hq2 rfl
  have g1 := cell_of_block (o := 1) hq2 rfl
  have g2 := cell_of_block (o := 2) hq2 rfl
  have g3 := cell_of_block (o := 3) hq2 rfl
  have lq := blk_lt hq2
  have HB2 := Lib.hid (below_next HB.out hb2)
  have hw2 := hb2.size
  clear hc hf f0 f1 f2 f3 hq2 hb2 HB y0 y1 y2 y3 hcl hni
  go_wp2_with (go_at_call 146; refine (KA.out _).mono ?_; rintro e w3 ⟨rfl, hb3⟩)
  obtain ⟨hc, hf⟩ := bcell hb3
  replace g0 := (hc _ 0 lq).trans g0
  replace g1 := (hc _ 1 lq).trans g1
  replace g2 := (hc _ 2 lq).trans g2
  replace g3 := (hc _ 3 lq).trans g3
  have HB3 := Lib.hid (below_next HB2.out hb3)
  have hw3 := hb3.size
  have HG := Lib.hid (And.intro g0 (And.intro g1 (And.intro g2 g3)))
  clear hc hf hb3 HB2 e0 e1 e2 e3 g0 g1 g2 g3
  go_loopw [6, 33] (fun v i wr => ∃ (k : Int) (ad : Option Addr) (n0 c0 : Nat), 0 ≤ k ∧ k ≤ 4 ∧ i = .int .i64 k ∧ v = .slice ad n0 c0 ∧ OwnI wr w3.heap.size v (if k = 0 then [] else if k = 1 then [a * A0] else if k = 2 then [a * A0, b * A1] else if k = 3 then [a * A0, b * A1, c * A2] else [a * A0, b * A1, c * A2, d * -A3]) ∧ Below w3.heap.size w3 wr) (fun _ i _ => 4 - (intOf i).toNat)
  case atStart => exact ⟨0, none, 0, 0, by omega, by omega, rfl, rfl, OwnI.nil, Below.refl _ _⟩
  case round =>
    obtain ⟨k, ad, n0, c0, hk0, hk, rfl, rfl, ho, hI⟩ := hrel
    have HO := Lib.hid ho
    have HI := Lib.hid hI
    obtain ⟨hc, _⟩ := bcell hI
    have g0 := (hc _ 0 (by omega)).trans HG.out.1
    have g1 := (hc _ 1 (by omega)).trans HG.out.2.1
    have g2 := (hc _ 2 (by omega)).trans HG.out.2.2.1
    have g3 := (hc _ 3 (by omega)).trans HG.out.2.2.2
    have hwr := hI.size
    have lq3 : bq < wr.heap.size := by omega
    clear hc ho hI
    have hk5 : k = 0 ∨ k = 1 ∨ k = 2 ∨ k = 3 ∨ k = 4 := by omega
    clear hk0 hk
    rcases hk5 with rfl | rfl | rfl | rfl | rfl
    all_goals simp only [if_true, if_false, reduceIte, Int.reduceEq] at HO
    · go_wp2_with (at_builtin; refine wpList_append_int rfl _ _ rfl w3.heap.size (.slice ad n0 c0) [] rfl (HO.out.below (below_alloc (Below.refl _ wr) _)) wr.heap.size 1 (a * A0) rfl (by go_simp) (by simp) (by simp; omega) ?_; intro ad3 n3 c3 w4 hO3 hb3; have HO3 := Lib.hid hO3; have HB3 := Lib.hid ((below_alloc HI.out _).trans hb3); clear hO3 hb3)
      go_roundw
      case rel => exact ⟨1, ad3, n3, c3, by omega, by omega, rfl, rfl, HO3.out, HB3.out⟩
      case measure => simp [intOf]
    · go_wp2_with (at_builtin; refine wpList_append_int rfl _ _ rfl w3.heap.size (.slice ad n0 c0) [a * A0] rfl (HO.out.below (below_alloc (Below.refl _ wr) _)) wr.heap.size 1 (b * A1) rfl (by go_simp) (by simp) (by simp; omega) ?_; intro ad3 n3 c3 w4 hO3 hb3; have HO3 := Lib.hid hO3; have HB3 := Lib.hid ((below_alloc HI.out _).trans hb3); clear hO3 hb3)
      go_roundw
      case rel => exact ⟨2, ad3, n3, c3, by omega, by omega, rfl, rfl, HO3.out, HB3.out⟩
      case measure => simp [intOf]
    · go_wp2_with (at_builtin; refine wpList_append_int rfl _ _ rfl w3.heap.size (.slice ad n0 c0) [a * A0, b * A1] rfl (HO.out.below (below_alloc (Below.refl _ wr) _)) wr.heap.size 1 (c * A2) rfl (by go_simp) (by simp) (by simp; omega) ?_; intro ad3 n3 c3 w4 hO3 hb3; have HO3 := Lib.hid hO3; have HB3 := Lib.hid ((below_alloc HI.out _).trans hb3); clear hO3 hb3)
      go_roundw
      case rel => exact ⟨3, ad3, n3, c3, by omega, by omega, rfl, rfl, HO3.out, HB3.out⟩
      case measure => simp [intOf]
    · go_wp2_with (at_builtin; refine wpList_append_int rfl _ _ rfl w3.heap.size (.slice ad n0 c0) [a * A0, b * A1, c * A2] rfl (HO.out.below (below_alloc (Below.refl _ wr) _)) wr.heap.size 1 (d * -A3) rfl (by go_simp) (by simp) (by simp; omega) ?_; intro ad3 n3 c3 w4 hO3 hb3; have HO3 := Lib.hid hO3; have HB3 := Lib.hid ((below_alloc HI.out _).trans hb3); clear hO3 hb3)
      go_roundw
      case rel => exact ⟨4, ad3, n3, c3, by omega, by omega, rfl, rfl, HO3.out, HB3.out⟩
      case measure => simp [intOf]
    · obtain ⟨rfl, g, rfl, hg, hgl, hcells⟩ := HO.out.cells (by simp)
      have k0 : wr.cell? ⟨g, 0, none⟩ = some (.int .i64 (a * A0)) := hcells 0 (by simp)
      have k1 : wr.cell? ⟨g, 1, none⟩ = some (.int .i64 (b * A1)) := hcells 1 (by simp)
      have k2 : wr.cell? ⟨g, 2, none⟩ = some (.int .i64 (c * A2)) := hcells 2 (by simp)
      have k3 : wr.cell? ⟨g, 3, none⟩ = some (.int .i64 (d * -A3)) := hcells 3 (by simp)
      have KT := Lib.hid (together_any (a * A0) (b * A1) (c * A2) (d * -A3) g c0 wr k0 k1 k2 k3 (by omega) (by omega) (by omega) (by omega))
      clear hcells k0 k1 k2 k3 HG HO
      go_wp2_with (go_at_call 147; refine KT.out.mono ?_; rintro e w' ⟨rfl, rfl⟩)
      go_ret
      exact ⟨rfl, HB3.out.trans (HI.out.mono HB3.out.size)⟩
theorem of_any (a b c d t n u k : Int) (w : World) :
    Calls Try.prog 110 #[.agg #[.int .i64 a, .int .i64 b, .int .i64 c, .int .i64 d], .agg #[.int .i64 t, .int .i64 n, .int .i64 u, .int .i64 k]] w fun e w' => e = .returned (.int .i64 (ofI a b c d t n u k)) ∧ Below w.heap.size w w' := by
  unfold ofI
  cases h : rightB a b c d with
  | true => rw [if_pos rfl]; exact of_yes a b c d t n u k w h
  | false => rw [if_neg (by decide)]; exact of_no a b c d t n u k w h

end Go.Proofs.Ytbhnjmdlagjfbaa
