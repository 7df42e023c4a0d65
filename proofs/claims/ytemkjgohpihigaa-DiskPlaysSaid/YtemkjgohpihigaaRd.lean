/- The document's disk: its small calls. No condition. -/
import Derived.Test.YtemkjgohpihigaaDkK
namespace Go.Proofs.Ytemkjgohpihigaa
set_option linter.unusedVariables false
open Go.ChangeShapes Go.WideShapes Go.ChangeAt Go.RowKit
attribute [local go_sem ↓] Go.wp_at_zero Go.wp_at_succ comesTo_value_eq comesTo_skip_eq comesTo_enter_eq

/-- a disk's value: ten cells -/
def rdCells (st : DS) : Array Value := #[.string (strOfNums (st.b 0)), .string (strOfNums (st.b 1)), .string (strOfNums (st.b 2)), .string (strOfNums (st.b 3)), .int .i64 (st.s 0), .int .i64 (st.s 1), .int .i64 (st.s 2), .int .i64 (st.s 3), .int .i64 st.left, .bool st.down]
theorem rd_load {W : World} {b : Nat} {x0 x1 x2 x3 x4 x5 x6 x7 x8 x9 : Value} (h : W.heap[b]? = some (.cells #[x0, x1, x2, x3, x4, x5, x6, x7, x8, x9] 28 (0, 0))) : (loadVar 28 ⟨b, 0, none⟩).run Try.prog W = .ok (.agg #[x0, x1, x2, x3, x4, x5, x6, x7, x8, x9]) W := by
  have c0 := cell_of_block (o := 0) h rfl
  have c1 := cell_of_block (o := 1) h rfl
  have c2 := cell_of_block (o := 2) h rfl
  have c3 := cell_of_block (o := 3) h rfl
  have c4 := cell_of_block (o := 4) h rfl
  have c5 := cell_of_block (o := 5) h rfl
  have c6 := cell_of_block (o := 6) h rfl
  have c7 := cell_of_block (o := 7) h rfl
  have c8 := cell_of_block (o := 8) h rfl
  have c9 := cell_of_block (o := 9) h rfl
  go_simp
theorem alloc_size (w : World) (o : Obj) : (w.alloc o).heap.size = w.heap.size + 1 := by simp
theorem alloc_heap_two (w : World) (o o' : Obj) : ((w.alloc o).alloc o').heap[w.heap.size + 1]? = some o' := by
  have := World.alloc_heap_new (w.alloc o) o'
  rwa [alloc_size] at this
theorem alloc_heap_one (w : World) (o o' : Obj) : ((w.alloc o).alloc o').heap[w.heap.size]? = some o := by
  rw [Below.heap_alloc _ _ _ (by rw [alloc_size]; omega)]
  exact World.alloc_heap_new w o
theorem rmay_any (x0 x1 x2 x3 x4 x5 x6 x7 x8 : Value) (down : Bool) (f : Int) (w : World) :
    Calls Try.prog 17 #[.agg #[x0, x1, x2, x3, x4, x5, x6, x7, x8, .bool down], .int .i64 f] w fun e w' => e = .returned (.int .i64 (wrongF down f)) ∧ Below w.heap.size w w' := by
  have hA := below_alloc (Below.refl _ w) (.cells #[x0, x1, x2, x3, x4, x5, x6, x7, x8, .bool down] 28)
  cases down
  · rcases (by omega : f < 0 ∨ ¬ f < 0 ∧ 3 < f ∨ ¬ f < 0 ∧ ¬ 3 < f) with h | ⟨h, h2⟩ | ⟨h, h2⟩
    · have e : wrongF false f = 13 := by unfold wrongF; rw [if_neg (by simp), if_neg (by omega)]
      rw [e]
      have hd : decide (f < 0) = true := decide_eq_true h
      go_enter Try.func17, Try.ntmps17
      go_wp2
      go_ret
      exact ⟨rfl, hA⟩
    · have e : wrongF false f = 13 := by unfold wrongF; rw [if_neg (by simp), if_neg (by omega)]
      rw [e]
      have hd : decide (f < 0) = false := decide_eq_false h
      have hd2 : decide (f > 3) = true := decide_eq_true h2
      go_enter Try.func17, Try.ntmps17
      go_wp2
      go_ret
      exact ⟨rfl, hA⟩
    · have e : wrongF false f = 0 := by unfold wrongF; rw [if_neg (by simp), if_pos (by omega)]
      rw [e]
      have hd : decide (f < 0) = false := decide_eq_false h
      have hd2 : decide (f > 3) = false := decide_eq_false h2
      go_enter Try.func17, Try.ntmps17
      go_wp2
      go_ret
      exact ⟨rfl, hA⟩
  · have e : wrongF true f = 17 := by unfold wrongF; rw [if_pos rfl]
    rw [e]
    go_enter Try.func17, Try.ntmps17
    go_wp2
    go_ret
    exact ⟨rfl, hA⟩
theorem resd_cell_tmp {P : Program} {fn : Func} {p t : Tmp} {ty : TypeId} {tmps : Array Value} {w : World} {ad : Addr} {x y : Value} (h : fn.results = #[.cell p ty, .tmp t]) (hp : tmps.getD p undef = .pointer (some ad)) (ht : tmps.getD t undef = y)
    (hl : (loadVar ty ad).run P w = .ok x w) : (results fn tmps).run P w = .ok (.tuple #[x, y]) w := by
  have hp' : tmps[p]?.getD undef = .pointer (some ad) := by simpa using hp
  have ht' : tmps[t]?.getD undef = y := by simpa using ht
  simp [results, h, hp', ht', asAddr, hl]
set_option maxRecDepth 100000 in
set_option maxHeartbeats 4000000 in
theorem rcall_zero (S0 S1 S2 S3 : ByteArray) (a0 a1 a2 a3 : Int) (down : Bool) (w : World) :
    Calls Try.prog 18 #[.agg #[.string S0, .string S1, .string S2, .string S3, .int .i64 a0, .int .i64 a1, .int .i64 a2, .int .i64 a3, .int .i64 0, .bool down]] w fun e w' => e = .returned (.tuple #[.agg #[.string S0, .string S1, .string S2, .string S3, .int .i64 a0, .int .i64 a1, .int .i64 a2, .int .i64 a3, .int .i64 (-1), .bool true], .bool false]) ∧ Below w.heap.size w w' := by
  go_enter Try.func18, Try.ntmps18
  go_wp2
  refine bodyPost_ret (v := .tuple #[.agg #[.string S0, .string S1, .string S2, .string S3, .int .i64 a0, .int .i64 a1, .int .i64 a2, .int .i64 a3, .int .i64 (-1), .bool true], .bool false]) (resd_cell_tmp Try.results18 rfl rfl (rd_load (alloc_heap_two w _ _))) rfl ⟨rfl, below_alloc (below_alloc (Below.refl _ w) _) _⟩
set_option maxRecDepth 100000 in
set_option maxHeartbeats 4000000 in
theorem rcall_pos (S0 S1 S2 S3 : ByteArray) (a0 a1 a2 a3 : Int) (l : Int) (h : 0 < l) (h2 : l ≤ 9223372036854775807) (down : Bool) (w : World) :
    Calls Try.prog 18 #[.agg #[.string S0, .string S1, .string S2, .string S3, .int .i64 a0, .int .i64 a1, .int .i64 a2, .int .i64 a3, .int .i64 l, .bool down]] w fun e w' => e = .returned (.tuple #[.agg #[.string S0, .string S1, .string S2, .string S3, .int .i64 a0, .int .i64 a1, .int .i64 a2, .int .i64 a3, .int .i64 (l - 1), .bool down], .bool true]) ∧ Below w.heap.size w w' := by
  have hq : (l == 0) = false := by rw [beq_eq_false_iff_ne]; omega
  have hd : decide (l > 0) = true := decide_eq_true h
  have hw : IntKind.i64.wrap (l - 1) = l - 1 := IntWalk.i64_in _ (by omega)
  go_enter Try.func18, Try.ntmps18
  go_wp2
  refine bodyPost_ret (v := .tuple #[.agg #[.string S0, .string S1, .string S2, .string S3, .int .i64 a0, .int .i64 a1, .int .i64 a2, .int .i64 a3, .int .i64 (l - 1), .bool down], .bool true]) (resd_cell_tmp Try.results18 rfl rfl (rd_load (alloc_heap_two w _ _))) rfl ⟨rfl, below_alloc (below_alloc (Below.refl _ w) _) _⟩
set_option maxRecDepth 100000 in
set_option maxHeartbeats 4000000 in
theorem rcall_neg (S0 S1 S2 S3 : ByteArray) (a0 a1 a2 a3 : Int) (l : Int) (h : l < 0) (down : Bool) (w : World) :
    Calls Try.prog 18 #[.agg #[.string S0, .string S1, .string S2, .string S3, .int .i64 a0, .int .i64 a1, .int .i64 a2, .int .i64 a3, .int .i64 l, .bool down]] w fun e w' => e = .returned (.tuple #[.agg #[.string S0, .string S1, .string S2, .string S3, .int .i64 a0, .int .i64 a1, .int .i64 a2, .int .i64 a3, .int .i64 l, .bool down], .bool true]) ∧ Below w.heap.size w w' := by
  have hq : (l == 0) = false := by rw [beq_eq_false_iff_ne]; omega
  have hd : decide (l > 0) = false := decide_eq_false (by omega)
  go_enter Try.func18, Try.ntmps18
  go_wp2
  refine bodyPost_ret (v := .tuple #[.agg #[.string S0, .string S1, .string S2, .string S3, .int .i64 a0, .int .i64 a1, .int .i64 a2, .int .i64 a3, .int .i64 l, .bool down], .bool true]) (resd_cell_tmp Try.results18 rfl rfl (rd_load (alloc_heap_two w _ _))) rfl ⟨rfl, below_alloc (below_alloc (Below.refl _ w) _) _⟩
/-- how many calls are left behind one -/
def rlF (l : Int) : Int := if l = 0 then -1 else if 0 < l then l - 1 else l
theorem rcall_any (S0 S1 S2 S3 : ByteArray) (a0 a1 a2 a3 : Int) (l : Int) (h : l ≤ 9223372036854775807) (down : Bool) (w : World) :
    Calls Try.prog 18 #[.agg #[.string S0, .string S1, .string S2, .string S3, .int .i64 a0, .int .i64 a1, .int .i64 a2, .int .i64 a3, .int .i64 l, .bool down]] w fun e w' => e = .returned (.tuple #[.agg #[.string S0, .string S1, .string S2, .string S3, .int .i64 a0, .int .i64 a1, .int .i64 a2, .int .i64 a3, .int .i64 (rlF l), .bool (down || decide (l = 0))], .bool (!decide (l = 0))]) ∧ Below w.heap.size w w' := by
  unfold rlF
  rcases (by omega : l = 0 ∨ 0 < l ∨ l < 0) with rfl | h1 | h1
  · simpa using rcall_zero S0 S1 S2 S3 a0 a1 a2 a3 down w
  · rw [if_neg (by omega), if_pos h1, decide_eq_false (show ¬ l = 0 by omega), Bool.or_false]
    exact rcall_pos S0 S1 S2 S3 a0 a1 a2 a3 l h1 h down w
  · rw [if_neg (by omega), if_neg (by omega), decide_eq_false (show ¬ l = 0 by omega), Bool.or_false]
    exact rcall_neg S0 S1 S2 S3 a0 a1 a2 a3 l h1 down w
end Go.Proofs.Ytemkjgohpihigaa
