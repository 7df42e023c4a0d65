/- A step compared with itself; what it is to the document; what a statement's `one` asks (layer 28). Conditions: the numbers fit; the errors' table. -/
import Derived.Test.YtdfkfcpkejjlnaaDoorMaj
import Derived.Test.YtdfkfcpkejjlnaaDoorMaa
import Derived.Test.YtdfkfcpkejjlnaaDoorMae
namespace Go.Proofs.YtdfkfcpkejjlnaaDoor
set_option linter.unusedVariables false
open Go.ChangeShapes Go.WideShapes Go.ChangeAt Go.RowKit Cs Rv
attribute [local go_sem ↓] Go.wp_at_zero Go.wp_at_succ comesTo_value_eq comesTo_skip_eq comesTo_enter_eq

theorem sizeI64b (w : World) : (sizeOf 2).run Tryd.prog w = .ok 1 w := by kernel_rfl
theorem sizeIb (w : World) : (sizeOf 3).run Tryd.prog w = .ok 1 w := by kernel_rfl
theorem eqin_a4 (D : Nat) (a b c d : Int) (w : World) : (Op.equalIn (D + 2) 27 (.agg #[.int .i64 a, .int .i64 b, .int .i64 c, .int .i64 d]) (.agg #[.int .i64 a, .int .i64 b, .int .i64 c, .int .i64 d])).run Tryd.prog w = .ok true w :=
  (run_equalIn_ints w D 27 3 4 .i64 .i64 Tryd.underlying27 Tryd.underlying3 sizeIb [a, b, c, d] [a, b, c, d] rfl rfl).trans (by simp)
theorem eqin_b4 (D : Nat) (a b c d : Int) (w : World) : (Op.equalIn (D + 2) 33 (.agg #[.int .i64 a, .int .i64 b, .int .i64 c, .int .i64 d]) (.agg #[.int .i64 a, .int .i64 b, .int .i64 c, .int .i64 d])).run Tryd.prog w = .ok true w :=
  (run_equalIn_ints w D 33 2 4 .i64 .i64 Tryd.underlying33 Tryd.underlying2 sizeI64b [a, b, c, d] [a, b, c, d] rfl rfl).trans (by simp)
theorem eqin_11 (D : Nat) (x1 x2 x3 x4 x5 x6 x7 x8 x9 x10 x11 : Int) (w : World) : (Op.equalIn (D + 2) 30 (.agg #[.int .i64 x1, .int .i64 x2, .int .i64 x3, .int .i64 x4, .int .i64 x5, .int .i64 x6, .int .i64 x7, .int .i64 x8, .int .i64 x9, .int .i64 x10, .int .i64 x11]) (.agg #[.int .i64 x1, .int .i64 x2, .int .i64 x3, .int .i64 x4, .int .i64 x5, .int .i64 x6, .int .i64 x7, .int .i64 x8, .int .i64 x9, .int .i64 x10, .int .i64 x11])).run Tryd.prog w = .ok true w :=
  (run_equalIn_ints w D 30 2 11 .i64 .i64 Tryd.underlying30 Tryd.underlying2 sizeI64b [x1, x2, x3, x4, x5, x6, x7, x8, x9, x10, x11] [x1, x2, x3, x4, x5, x6, x7, x8, x9, x10, x11] rfl rfl).trans (by simp)
set_option maxRecDepth 100000 in
theorem eqin_m (d : Nat) (x0 x1 x2 x3 x4 x5 x6 x7 x8 x9 x10 : Int) (hb : Bool) (w : World) : (Op.equalIn (d + 2) 26 (.agg #[.int .i64 x0, .int .i64 x1, .int .i64 x2, .int .i64 x3, .int .i64 x4, .int .i64 x5, .int .i64 x6, .int .i64 x7, .int .i64 x8, .int .i64 x9, .int .i64 x10, .bool hb]) (.agg #[.int .i64 x0, .int .i64 x1, .int .i64 x2, .int .i64 x3, .int .i64 x4, .int .i64 x5, .int .i64 x6, .int .i64 x7, .int .i64 x8, .int .i64 x9, .int .i64 x10, .bool hb])).run Tryd.prog w = .ok true w := by
  have hS : Tryd.prog.underlying 26 = some (.struct (Tryd.prog.fieldsOf 26)) := by kernel_rfl
  have hp : Tryd.prog.stoodInHeld 26 = false := by kernel_rfl
  have hm : (Tryd.prog.fieldsOf 26).toList.map (fun f => (f.name != "_", f.offset, f.type)) = [(true, 0, 3), (true, 1, 3), (true, 2, 3), (true, 3, 3), (true, 4, 3), (true, 5, 3), (true, 6, 3), (true, 7, 3), (true, 8, 3), (true, 9, 24), (true, 10, 24), (true, 11, 4)] := by kernel_rfl
  refine (run_equalIn_struct w _ _ _ _ hS hp).trans ?_
  rw [run_eqFields_all w (fun _ => true)]
  · simp
  · intro x hf
    have h1 : (x.name != "_", x.offset, x.type) ∈ (Tryd.prog.fieldsOf 26).toList.map (fun f => (f.name != "_", f.offset, f.type)) := List.mem_map.2 ⟨x, hf, rfl⟩
    rw [hm] at h1
    simp only [List.mem_cons, List.not_mem_nil, or_false, Prod.mk.injEq] at h1
    rcases h1 with ⟨h1, h2, h3⟩ | ⟨h1, h2, h3⟩ | ⟨h1, h2, h3⟩ | ⟨h1, h2, h3⟩ | ⟨h1, h2, h3⟩ | ⟨h1, h2, h3⟩ | ⟨h1, h2, h3⟩ | ⟨h1, h2, h3⟩ | ⟨h1, h2, h3⟩ | ⟨h1, h2, h3⟩ | ⟨h1, h2, h3⟩ | ⟨h1, h2, h3⟩
    · refine ⟨by simpa using h1, .int .i64 x0, .int .i64 x0, ?_, ?_, ?_⟩
      · rw [h2, h3]; go_simp; try rfl
      · rw [h2, h3]; go_simp; try rfl
      · rw [h3]; refine (run_equalIn_int w _ _ _ .i64 x0 x0 Tryd.underlying3).trans ?_; simp
    · refine ⟨by simpa using h1, .int .i64 x1, .int .i64 x1, ?_, ?_, ?_⟩
      · rw [h2, h3]; go_simp; try rfl
      · rw [h2, h3]; go_simp; try rfl
      · rw [h3]; refine (run_equalIn_int w _ _ _ .i64 x1 x1 Tryd.underlying3).trans ?_; simp
    · refine ⟨by simpa using h1, .int .i64 x2, .int .i64 x2, ?_, ?_, ?_⟩
      · rw [h2, h3]; go_simp; try rfl
      · rw [h2, h3]; go_simp; try rfl
      · rw [h3]; refine (run_equalIn_int w _ _ _ .i64 x2 x2 Tryd.underlying3).trans ?_; simp
    · refine ⟨by simpa using h1, .int .i64 x3, .int .i64 x3, ?_, ?_, ?_⟩
      · rw [h2, h3]; go_simp; try rfl
      · rw [h2, h3]; go_simp; try rfl
      · rw [h3]; refine (run_equalIn_int w _ _ _ .i64 x3 x3 Tryd.underlying3).trans ?_; simp
    · refine ⟨by simpa using h1, .int .i64 x4, .int .i64 x4, ?_, ?_, ?_⟩
      · rw [h2, h3]; go_simp; try rfl
      · rw [h2, h3]; go_simp; try rfl
      · rw [h3]; refine (run_equalIn_int w _ _ _ .i64 x4 x4 Tryd.underlying3).trans ?_; simp
    · refine ⟨by simpa using h1, .int .i64 x5, .int .i64 x5, ?_, ?_, ?_⟩
      · rw [h2, h3]; go_simp; try rfl
      · rw [h2, h3]; go_simp; try rfl
      · rw [h3]; refine (run_equalIn_int w _ _ _ .i64 x5 x5 Tryd.underlying3).trans ?_; simp
    · refine ⟨by simpa using h1, .int .i64 x6, .int .i64 x6, ?_, ?_, ?_⟩
      · rw [h2, h3]; go_simp; try rfl
      · rw [h2, h3]; go_simp; try rfl
      · rw [h3]; refine (run_equalIn_int w _ _ _ .i64 x6 x6 Tryd.underlying3).trans ?_; simp
    · refine ⟨by simpa using h1, .int .i64 x7, .int .i64 x7, ?_, ?_, ?_⟩
      · rw [h2, h3]; go_simp; try rfl
      · rw [h2, h3]; go_simp; try rfl
      · rw [h3]; refine (run_equalIn_int w _ _ _ .i64 x7 x7 Tryd.underlying3).trans ?_; simp
    · refine ⟨by simpa using h1, .int .i64 x8, .int .i64 x8, ?_, ?_, ?_⟩
      · rw [h2, h3]; go_simp; try rfl
      · rw [h2, h3]; go_simp; try rfl
      · rw [h3]; refine (run_equalIn_int w _ _ _ .i64 x8 x8 Tryd.underlying3).trans ?_; simp
    · refine ⟨by simpa using h1, .int .i64 x9, .int .i64 x9, ?_, ?_, ?_⟩
      · rw [h2, h3]; go_simp; try rfl
      · rw [h2, h3]; go_simp; try rfl
      · rw [h3]; refine (run_equalIn_int w _ _ _ .i64 x9 x9 Tryd.underlying24).trans ?_; simp
    · refine ⟨by simpa using h1, .int .i64 x10, .int .i64 x10, ?_, ?_, ?_⟩
      · rw [h2, h3]; go_simp; try rfl
      · rw [h2, h3]; go_simp; try rfl
      · rw [h3]; refine (run_equalIn_int w _ _ _ .i64 x10 x10 Tryd.underlying24).trans ?_; simp
    · refine ⟨by simpa using h1, .bool hb, .bool hb, ?_, ?_, ?_⟩
      · rw [h2, h3]; go_simp; try rfl
      · rw [h2, h3]; go_simp; try rfl
      · rw [h3]; refine (run_equalIn_bool w _ _ _ _ Tryd.underlying4).trans ?_; simp
set_option maxRecDepth 100000 in
theorem eqin_s (d : Nat) (k x0 x1 x2 x3 x4 x5 x6 x7 x8 x9 x10 n a b c e : Int) (hb : Bool) (s : ByteArray) (w : World) : (Op.equalIn (d + 3) 29 (.agg #[.int .i64 k, .int .i64 x0, .int .i64 x1, .int .i64 x2, .int .i64 x3, .int .i64 x4, .int .i64 x5, .int .i64 x6, .int .i64 x7, .int .i64 x8, .int .i64 x9, .int .i64 x10, .bool hb, .string s, .int .i64 n, .int .i64 a, .int .i64 b, .int .i64 c, .int .i64 e]) (.agg #[.int .i64 k, .int .i64 x0, .int .i64 x1, .int .i64 x2, .int .i64 x3, .int .i64 x4, .int .i64 x5, .int .i64 x6, .int .i64 x7, .int .i64 x8, .int .i64 x9, .int .i64 x10, .bool hb, .string s, .int .i64 n, .int .i64 a, .int .i64 b, .int .i64 c, .int .i64 e])).run Tryd.prog w = .ok true w := by
  have hS : Tryd.prog.underlying 29 = some (.struct (Tryd.prog.fieldsOf 29)) := by kernel_rfl
  have hp : Tryd.prog.stoodInHeld 29 = false := by kernel_rfl
  have hm : (Tryd.prog.fieldsOf 29).toList.map (fun f => (f.name != "_", f.offset, f.type)) = [(true, 0, 3), (true, 1, 26), (true, 13, 9), (true, 14, 3), (true, 15, 27)] := by kernel_rfl
  refine (run_equalIn_struct w _ _ _ _ hS hp).trans ?_
  rw [run_eqFields_all w (fun _ => true)]
  · simp
  · intro x hf
    have h1 : (x.name != "_", x.offset, x.type) ∈ (Tryd.prog.fieldsOf 29).toList.map (fun f => (f.name != "_", f.offset, f.type)) := List.mem_map.2 ⟨x, hf, rfl⟩
    rw [hm] at h1
    simp only [List.mem_cons, List.not_mem_nil, or_false, Prod.mk.injEq] at h1
    rcases h1 with ⟨h1, h2, h3⟩ | ⟨h1, h2, h3⟩ | ⟨h1, h2, h3⟩ | ⟨h1, h2, h3⟩ | ⟨h1, h2, h3⟩
    · refine ⟨by simpa using h1, .int .i64 k, .int .i64 k, ?_, ?_, ?_⟩
      · rw [h2, h3]; go_simp; try rfl
      · rw [h2, h3]; go_simp; try rfl
      · rw [h3]; refine (run_equalIn_int w _ _ _ .i64 k k Tryd.underlying3).trans ?_; simp
    · refine ⟨by simpa using h1, .agg #[.int .i64 x0, .int .i64 x1, .int .i64 x2, .int .i64 x3, .int .i64 x4, .int .i64 x5, .int .i64 x6, .int .i64 x7, .int .i64 x8, .int .i64 x9, .int .i64 x10, .bool hb], .agg #[.int .i64 x0, .int .i64 x1, .int .i64 x2, .int .i64 x3, .int .i64 x4, .int .i64 x5, .int .i64 x6, .int .i64 x7, .int .i64 x8, .int .i64 x9, .int .i64 x10, .bool hb], ?_, ?_, ?_⟩
      · rw [h2, h3]; go_simp; try rfl
      · rw [h2, h3]; go_simp; try rfl
      · rw [h3]; exact eqin_m _ x0 x1 x2 x3 x4 x5 x6 x7 x8 x9 x10 hb w
    · refine ⟨by simpa using h1, .string s, .string s, ?_, ?_, ?_⟩
      · rw [h2, h3]; go_simp; try rfl
      · rw [h2, h3]; go_simp; try rfl
      · rw [h3]; refine (run_equalIn_string w _ _ _ _ Tryd.underlying9).trans ?_; simp
    · refine ⟨by simpa using h1, .int .i64 n, .int .i64 n, ?_, ?_, ?_⟩
      · rw [h2, h3]; go_simp; try rfl
      · rw [h2, h3]; go_simp; try rfl
      · rw [h3]; refine (run_equalIn_int w _ _ _ .i64 n n Tryd.underlying3).trans ?_; simp
    · refine ⟨by simpa using h1, .agg #[.int .i64 a, .int .i64 b, .int .i64 c, .int .i64 e], .agg #[.int .i64 a, .int .i64 b, .int .i64 c, .int .i64 e], ?_, ?_, ?_⟩
      · rw [h2, h3]; go_simp; try rfl
      · rw [h2, h3]; go_simp; try rfl
      · rw [h3]; exact eqin_a4 _ a b c e w
set_option maxRecDepth 100000 in
theorem eqin_dm (d : Nat) (x0 x1 x2 x3 x4 x5 x6 x7 x8 x9 x10 x11 : Int) (w : World) : (Op.equalIn (d + 3) 32 (.agg #[.int .i64 x0, .int .i64 x1, .int .i64 x2, .int .i64 x3, .int .i64 x4, .int .i64 x5, .int .i64 x6, .int .i64 x7, .int .i64 x8, .int .i64 x9, .int .i64 x10, .int .i64 x11]) (.agg #[.int .i64 x0, .int .i64 x1, .int .i64 x2, .int .i64 x3, .int .i64 x4, .int .i64 x5, .int .i64 x6, .int .i64 x7, .int .i64 x8, .int .i64 x9, .int .i64 x10, .int .i64 x11])).run Tryd.prog w = .ok true w := by
  have hS : Tryd.prog.underlying 32 = some (.struct (Tryd.prog.fieldsOf 32)) := by kernel_rfl
  have hp : Tryd.prog.stoodInHeld 32 = false := by kernel_rfl
  have hm : (Tryd.prog.fieldsOf 32).toList.map (fun f => (f.name != "_", f.offset, f.type)) = [(true, 0, 3), (true, 1, 30)] := by kernel_rfl
  refine (run_equalIn_struct w _ _ _ _ hS hp).trans ?_
  rw [run_eqFields_all w (fun _ => true)]
  · simp
  · intro x hf
    have h1 : (x.name != "_", x.offset, x.type) ∈ (Tryd.prog.fieldsOf 32).toList.map (fun f => (f.name != "_", f.offset, f.type)) := List.mem_map.2 ⟨x, hf, rfl⟩
    rw [hm] at h1
    simp only [List.mem_cons, List.not_mem_nil, or_false, Prod.mk.injEq] at h1
    rcases h1 with ⟨h1, h2, h3⟩ | ⟨h1, h2, h3⟩
    · refine ⟨by simpa using h1, .int .i64 x0, .int .i64 x0, ?_, ?_, ?_⟩
      · rw [h2, h3]; go_simp; try rfl
      · rw [h2, h3]; go_simp; try rfl
      · rw [h3]; refine (run_equalIn_int w _ _ _ .i64 x0 x0 Tryd.underlying3).trans ?_; simp
    · refine ⟨by simpa using h1, .agg #[.int .i64 x1, .int .i64 x2, .int .i64 x3, .int .i64 x4, .int .i64 x5, .int .i64 x6, .int .i64 x7, .int .i64 x8, .int .i64 x9, .int .i64 x10, .int .i64 x11], .agg #[.int .i64 x1, .int .i64 x2, .int .i64 x3, .int .i64 x4, .int .i64 x5, .int .i64 x6, .int .i64 x7, .int .i64 x8, .int .i64 x9, .int .i64 x10, .int .i64 x11], ?_, ?_, ?_⟩
      · rw [h2, h3]; go_simp; try rfl
      · rw [h2, h3]; go_simp; try rfl
      · rw [h3]; exact eqin_11 _ x1 x2 x3 x4 x5 x6 x7 x8 x9 x10 x11 w
set_option maxRecDepth 100000 in
theorem eqin_d (d : Nat) (k x0 x1 x2 x3 x4 x5 x6 x7 x8 x9 x10 x11 a b c e : Int) (s : ByteArray) (w : World) : (Op.equalIn (d + 4) 35 (.agg #[.int .i64 k, .int .i64 x0, .int .i64 x1, .int .i64 x2, .int .i64 x3, .int .i64 x4, .int .i64 x5, .int .i64 x6, .int .i64 x7, .int .i64 x8, .int .i64 x9, .int .i64 x10, .int .i64 x11, .string s, .int .i64 a, .int .i64 b, .int .i64 c, .int .i64 e]) (.agg #[.int .i64 k, .int .i64 x0, .int .i64 x1, .int .i64 x2, .int .i64 x3, .int .i64 x4, .int .i64 x5, .int .i64 x6, .int .i64 x7, .int .i64 x8, .int .i64 x9, .int .i64 x10, .int .i64 x11, .string s, .int .i64 a, .int .i64 b, .int .i64 c, .int .i64 e])).run Tryd.prog w = .ok true w := by
  have hS : Tryd.prog.underlying 35 = some (.struct (Tryd.prog.fieldsOf 35)) := by kernel_rfl
  have hp : Tryd.prog.stoodInHeld 35 = false := by kernel_rfl
  have hm : (Tryd.prog.fieldsOf 35).toList.map (fun f => (f.name != "_", f.offset, f.type)) = [(true, 0, 3), (true, 1, 32), (true, 13, 9), (true, 14, 33)] := by kernel_rfl
  refine (run_equalIn_struct w _ _ _ _ hS hp).trans ?_
  rw [run_eqFields_all w (fun _ => true)]
  · simp
  · intro x hf
    have h1 : (x.name != "_", x.offset, x.type) ∈ (Tryd.prog.fieldsOf 35).toList.map (fun f => (f.name != "_", f.offset, f.type)) := List.mem_map.2 ⟨x, hf, rfl⟩
    rw [hm] at h1
    simp only [List.mem_cons, List.not_mem_nil, or_false, Prod.mk.injEq] at h1
    rcases h1 with ⟨h1, h2, h3⟩ | ⟨h1, h2, h3⟩ | ⟨h1, h2, h3⟩ | ⟨h1, h2, h3⟩
    · refine ⟨by simpa using h1, .int .i64 k, .int .i64 k, ?_, ?_, ?_⟩
      · rw [h2, h3]; go_simp; try rfl
      · rw [h2, h3]; go_simp; try rfl
      · rw [h3]; refine (run_equalIn_int w _ _ _ .i64 k k Tryd.underlying3).trans ?_; simp
    · refine ⟨by simpa using h1, .agg #[.int .i64 x0, .int .i64 x1, .int .i64 x2, .int .i64 x3, .int .i64 x4, .int .i64 x5, .int .i64 x6, .int .i64 x7, .int .i64 x8, .int .i64 x9, .int .i64 x10, .int .i64 x11], .agg #[.int .i64 x0, .int .i64 x1, .int .i64 x2, .int .i64 x3, .int .i64 x4, .int .i64 x5, .int .i64 x6, .int .i64 x7, .int .i64 x8, .int .i64 x9, .int .i64 x10, .int .i64 x11], ?_, ?_, ?_⟩
      · rw [h2, h3]; go_simp; try rfl
      · rw [h2, h3]; go_simp; try rfl
      · rw [h3]; exact eqin_dm _ x0 x1 x2 x3 x4 x5 x6 x7 x8 x9 x10 x11 w
    · refine ⟨by simpa using h1, .string s, .string s, ?_, ?_, ?_⟩
      · rw [h2, h3]; go_simp; try rfl
      · rw [h2, h3]; go_simp; try rfl
      · rw [h3]; refine (run_equalIn_string w _ _ _ _ Tryd.underlying9).trans ?_; simp
    · refine ⟨by simpa using h1, .agg #[.int .i64 a, .int .i64 b, .int .i64 c, .int .i64 e], .agg #[.int .i64 a, .int .i64 b, .int .i64 c, .int .i64 e], ?_, ?_, ?_⟩
      · rw [h2, h3]; go_simp; try rfl
      · rw [h2, h3]; go_simp; try rfl
      · rw [h3]; exact eqin_b4 _ a b c e w
theorem eqinS {v : SV} (g : GoodS v) (w : World) : (Op.equalIn 10000 29 (.agg (sC v).toArray) (.agg (sC v).toArray)).run Tryd.prog w = .ok true w := by
  obtain ⟨k, x0, x1, x2, x3, x4, x5, x6, x7, x8, x9, x10, x11, s, n, a, b, c, d, rfl⟩ := good_open g
  exact eqin_s 9997 k x0 x1 x2 x3 x4 x5 x6 x7 x8 x9 x10 n a b c d (x11 == 1) s w
theorem eqinD {v : DV} (g : GoodD v) (w : World) : (Op.equalIn 10000 35 (.agg (dC v).toArray) (.agg (dC v).toArray)).run Tryd.prog w = .ok true w := by
  obtain ⟨k, x0, x1, x2, x3, x4, x5, x6, x7, x8, x9, x10, x11, s, a, b, c, d, rfl⟩ := goodD_open g
  exact eqin_d 9996 k x0 x1 x2 x3 x4 x5 x6 x7 x8 x9 x10 x11 a b c d s w
theorem exec_neq {P : Program} {o : Oper} {ρ : Operand → Value} {W : World} (ty ty2 : TypeId) (x y : Operand) (ho : o.op = .binOp .neq ty x y ty2) (xs ys : Array Value) (hx : ρ x = .agg xs) (hy : ρ y = .agg ys) (hm : P.eqGuardType P.depth ty = false) {b : Bool}
    (he : (Op.equalIn 10000 ty (.agg xs) (.agg ys)).run P W = .ok b W) : (execOp ρ o).run P W = .ok (.value (.bool (!b))) W := by
  unfold execOp
  simp only [ho, hx, hy, Sem.run_bind, run_eqGuard_agg W .neq ty x y xs ys hm, Result.andThen_ok, run_neq_struct, he]
  rfl
theorem guardS : Tryd.prog.eqGuardType Tryd.prog.depth 29 = false := by kernel_rfl
theorem guardD : Tryd.prog.eqGuardType Tryd.prog.depth 35 = false := by kernel_rfl
/-- Own, the program's numbers written out -/
def own0L (v : SV) : DV := ⟨v.k, v.x, v.s, [v.n, 0, 0, 0]⟩
set_option maxRecDepth 100000 in
set_option maxHeartbeats 8000000 in
theorem own28 {v : SV} (g : GoodS v) (w : World) : Calls Tryd.prog 6 #[.agg (sC v).toArray] w fun e w' => e = .returned (.agg (dC (ownS v)).toArray) ∧ Below w.heap.size w w' := by
  have hmx : Tryd.prog.follows .mixedOrders = true := by kernel_rfl
  have HLL := Lib.hid (sC_len g)
  have ko := fun W => own_c g.x W
  obtain ⟨hp0, hp13, hp14, hp1, hp15⟩ := sC_parts g
  have HXL := Lib.hid (cmdC_len g.x.len)
  have hxl := g.x.len
  obtain ⟨qa, qb, qc, qd, hq⟩ := four g.q
  have HP15 := Lib.hid (show (sC v)[15]? = some (.int .i64 qa) ∧ (sC v)[16]? = some (.int .i64 qb) ∧ (sC v)[17]? = some (.int .i64 qc) ∧ (sC v)[18]? = some (.int .i64 qd) from by
    have h := hp15
    rw [hq] at h
    have e : ∀ i, i < 4 → (sC v)[15 + i]? = ([qa, qb, qc, qd].map (Value.int .i64))[i]? := fun i hi => by rw [← h, List.getElem?_take, if_pos hi, List.getElem?_drop]
    exact ⟨e 0 (by decide), e 1 (by decide), e 2 (by decide), e 3 (by decide)⟩)
  have hres : dC (ownS v) = if v.k = 3 then dC ⟨v.k, v.x, v.s, [qa, qb, qc, qd]⟩ else dC ⟨v.k, v.x, v.s, [v.n, 0, 0, 0]⟩ := by unfold ownS; rw [hq]; split <;> rfl
  obtain ⟨RR, hRR⟩ : ∃ RR, RR = dC (ownS v) := ⟨_, rfl⟩
  rw [← hRR] at hres ⊢
  clear hp15 hq hRR g
  generalize sC v = l at *
  obtain ⟨k, x, s, n, q⟩ := v
  dsimp only at *
  obtain ⟨x0, x1, x2, x3, x4, x5, x6, x7, x8, x9, x10, x11, rfl⟩ := twelve hxl
  generalize cmdC _ = xc at *
  have KO := Lib.hid (show ∀ W, Calls Tryd.prog 16 #[.agg xc.toArray] W fun e w' => e = .returned (.agg #[.int .i64 x0, .int .i64 x1, .int .i64 x2, .int .i64 x3, .int .i64 x4, .int .i64 x5, .int .i64 x6, .int .i64 x7, .int .i64 x8, .int .i64 x9, .int .i64 x10, .int .i64 x11]) ∧ Below W.heap.size W w' from ko)
  have HRES := Lib.hid (show RR = if k = 3 then ([.int .i64 k, .int .i64 x0, .int .i64 x1, .int .i64 x2, .int .i64 x3, .int .i64 x4, .int .i64 x5, .int .i64 x6, .int .i64 x7, .int .i64 x8, .int .i64 x9, .int .i64 x10, .int .i64 x11, .string s, .int .i64 qa, .int .i64 qb, .int .i64 qc, .int .i64 qd] : List Value) else ([.int .i64 k, .int .i64 x0, .int .i64 x1, .int .i64 x2, .int .i64 x3, .int .i64 x4, .int .i64 x5, .int .i64 x6, .int .i64 x7, .int .i64 x8, .int .i64 x9, .int .i64 x10, .int .i64 x11, .string s, .int .i64 n, .int .i64 0, .int .i64 0, .int .i64 0] : List Value) from hres)
  have HP0 := Lib.hid hp0
  have HP13 := Lib.hid hp13
  have HP14 := Lib.hid hp14
  have HM1 := Lib.hid hp1
  have hb1 := below_alloc (Below.refl _ w) (.cells l.toArray 29)
  have hn1 := World.alloc_heap_new w (.cells l.toArray 29)
  have hb2 := below_alloc (Below.refl _ (w.alloc (.cells l.toArray 29))) (.cells #[.int .i64 0, .int .i64 0, .int .i64 0, .int .i64 0, .int .i64 0, .int .i64 0, .int .i64 0, .int .i64 0, .int .i64 0, .int .i64 0, .int .i64 0, .int .i64 0, .int .i64 0, .string ⟨#[]⟩, .int .i64 0, .int .i64 0, .int .i64 0, .int .i64 0] 35)
  have hn2 := World.alloc_heap_new (w.alloc (.cells l.toArray 29)) (.cells #[.int .i64 0, .int .i64 0, .int .i64 0, .int .i64 0, .int .i64 0, .int .i64 0, .int .i64 0, .int .i64 0, .int .i64 0, .int .i64 0, .int .i64 0, .int .i64 0, .int .i64 0, .string ⟨#[]⟩, .int .i64 0, .int .i64 0, .int .i64 0, .int .i64 0] 35)
  have HB2 := Lib.hid (below_next hb1 hb2)
  have HPP := Lib.hid ((hb2.block _ (Array.getElem?_eq_some_iff.1 hn1).1).trans hn1)
  have hne : (w.alloc (.cells l.toArray 29)).heap.size = w.heap.size + 1 := by simp
  rw [hne] at hn2
  have HRP := Lib.hid hn2
  clear ko hres hp0 hp13 hp14 hp1 hb1 hn1 hb2 hn2 hne hxl
  go_enter Tryd.func6, Tryd.ntmps6
  go_upto_region 1 with fail
  generalize (w.alloc (.cells l.toArray 29)).alloc (.cells #[.int .i64 0, .int .i64 0, .int .i64 0, .int .i64 0, .int .i64 0, .int .i64 0, .int .i64 0, .int .i64 0, .int .i64 0, .int .i64 0, .int .i64 0, .int .i64 0, .int .i64 0, .string ⟨#[]⟩, .int .i64 0, .int .i64 0, .int .i64 0, .int .i64 0] 35) = W1 at *
  obtain ⟨p, hp⟩ : ∃ p, p = w.heap.size := ⟨_, rfl⟩
  have HPW := Lib.hid hp
  rw [← hp] at HPP HRP HB2 ⊢
  clear hp
  go_cut [3] (fun pv W => ∃ q, pv = .pointer (some ⟨q, 0, none⟩) ∧ W.heap[q]? = some (.cells ([.int .i64 k, .int .i64 x0, .int .i64 x1, .int .i64 x2, .int .i64 x3, .int .i64 x4, .int .i64 x5, .int .i64 x6, .int .i64 x7, .int .i64 x8, .int .i64 x9, .int .i64 x10, .int .i64 x11, .string s, .int .i64 n, .int .i64 0, .int .i64 0, .int .i64 0] : List Value).toArray 35 (0, 0)) ∧ W.heap[p]? = some (.cells l.toArray 29 (0, 0)) ∧ W.heap[p + 1]? = some (.cells #[.int .i64 0, .int .i64 0, .int .i64 0, .int .i64 0, .int .i64 0, .int .i64 0, .int .i64 0, .int .i64 0, .int .i64 0, .int .i64 0, .int .i64 0, .int .i64 0, .int .i64 0, .string ⟨#[]⟩, .int .i64 0, .int .i64 0, .int .i64 0, .int .i64 0] 35 (0, 0)) ∧ p + 1 < q ∧ Below p w W)
  case first =>
    refine wp_region_held (S := fun X => X.heap[p]? = some (.cells l.toArray 29 (0, 0))) hmx ?_
    change wpAnyH _ _ _ _ _ 13 _ _ W1.drew
    have hdr : Below W1.heap.size W1 W1.drew := (Below.refl _ _).drew
    have HPD := Lib.hid ((hdr.block p (Array.getElem?_eq_some_iff.1 HPP.out).1).trans HPP.out)
    have HRD := Lib.hid ((hdr.block (p + 1) (Array.getElem?_eq_some_iff.1 HRP.out).1).trans HRP.out)
    have HBD := Lib.hid (HB2.out.trans (hdr.mono (by have := (Array.getElem?_eq_some_iff.1 HPP.out).1; omega)))
    clear hdr HB2 HPP HRP
    generalize W1.drew = wd at *
    have hS := HPD.out
    refine wpAnyH_take (i := 0) (v := .pointer (some ⟨p, 0, none⟩)) rfl (by decide +kernel) (by decide +kernel) (by decide +kernel) (fun _ _ _ h => h) (.inl ⟨by first | rfl | (go_simp; done), fun X hX => by have hx := hX; clear hX; first | (go_simp; done) | (go_simp; rfl)⟩) hS ?_
    refine wpAnyH_take (i := 1) (v := .int .i64 k) rfl (by decide +kernel) (by decide +kernel) (by decide +kernel) (fun _ _ _ h => h) (.inl ⟨by first | rfl | (go_simp; done), fun X hX => by have hc := (show X.cell? ⟨p, 0, none⟩ = some (.int .i64 k) from cell_at hX HP0.out); clear hX; first | (go_simp; done) | (go_simp; rfl)⟩) hS ?_
    refine wpAnyH_take (i := 2) (v := .pointer (some ⟨p, 1, none⟩)) rfl (by decide +kernel) (by decide +kernel) (by decide +kernel) (fun _ _ _ h => h) (.inl ⟨by first | rfl | (go_simp; done), fun X hX => by have hx := hX; clear hX; first | (go_simp; done) | (go_simp; rfl)⟩) hS ?_
    refine wpAnyH_take (i := 3) (v := .agg xc.toArray) rfl (by decide +kernel) (by decide +kernel) (by decide +kernel) (fun _ _ _ h => h) (.inl ⟨by first | rfl | (go_simp; done), fun X hX => by exact exec_load_elt 26 _ rfl p 1 (by go_simp) xc _ (range_mid hX 1 12 HM1.out) Tryd.underlying26 rfl (by rw [HXL.out]; exact info_cmd)⟩) hS ?_
    refine wpAnyH_take (i := 5) (v := .pointer (some ⟨p, 13, none⟩)) rfl (by decide +kernel) (by decide +kernel) (by decide +kernel) (fun _ _ _ h => h) (.inl ⟨by first | rfl | (go_simp; done), fun X hX => by have hx := hX; clear hX; first | (go_simp; done) | (go_simp; rfl)⟩) hS ?_
    refine wpAnyH_take (i := 6) (v := .string s) rfl (by decide +kernel) (by decide +kernel) (by decide +kernel) (fun _ _ _ h => h) (.inl ⟨by first | rfl | (go_simp; done), fun X hX => by have hc := (show X.cell? ⟨p, 13, none⟩ = some (.string s) from cell_at hX HP13.out); clear hX; first | (go_simp; done) | (go_simp; rfl)⟩) hS ?_
    refine wpAnyH_take (i := 7) (v := .pointer (some ⟨p, 14, none⟩)) rfl (by decide +kernel) (by decide +kernel) (by decide +kernel) (fun _ _ _ h => h) (.inl ⟨by first | rfl | (go_simp; done), fun X hX => by have hx := hX; clear hX; first | (go_simp; done) | (go_simp; rfl)⟩) hS ?_
    refine wpAnyH_take (i := 8) (v := .int .i64 n) rfl (by decide +kernel) (by decide +kernel) (by decide +kernel) (fun _ _ _ h => h) (.inl ⟨by first | rfl | (go_simp; done), fun X hX => by have hc := (show X.cell? ⟨p, 14, none⟩ = some (.int .i64 n) from cell_at hX HP14.out); clear hX; first | (go_simp; done) | (go_simp; rfl)⟩) hS ?_
    refine wpAnyH_take (i := 9) (v := .agg #[.int .i64 n, .int .i64 0, .int .i64 0, .int .i64 0]) rfl (by decide +kernel) (by decide +kernel) (by decide +kernel) (fun _ _ _ h => h) (.inl ⟨by first | rfl | (go_simp; done), fun X hX => by have hx := hX; clear hX; first | (go_simp; done) | (go_simp; rfl)⟩) hS ?_
    refine anyH_two (i := 4) (j := 11) (by decide +kernel) ?_ ?_
    · refine opH_call (i := 4) rfl (by first | rfl | (go_simp; done)) (by go_simp) (KO.out wd) ?_
      rintro e W2 ⟨rfl, hb⟩
      have HP2 := Lib.hid ((hb.block p (Array.getElem?_eq_some_iff.1 HPD.out).1).trans HPD.out)
      have HR2 := Lib.hid ((hb.block (p + 1) (Array.getElem?_eq_some_iff.1 HRD.out).1).trans HRD.out)
      have HB3 := Lib.hid (HBD.out.trans (hb.mono (by have := (Array.getElem?_eq_some_iff.1 HPD.out).1; omega)))
      clear hb hS HPD HRD HBD
      have hS := HP2.out
      refine ⟨_, rfl, hS, ?_⟩
      refine wpAnyH_take (i := 10) (v := .agg #[.int .i64 k, .int .i64 x0, .int .i64 x1, .int .i64 x2, .int .i64 x3, .int .i64 x4, .int .i64 x5, .int .i64 x6, .int .i64 x7, .int .i64 x8, .int .i64 x9, .int .i64 x10, .int .i64 x11, .string s, .int .i64 n, .int .i64 0, .int .i64 0, .int .i64 0]) rfl (by decide +kernel) (by decide +kernel) (by decide +kernel) (fun _ _ _ h => h) (.inl ⟨by first | rfl | (go_simp; done), fun X hX => by have hx := hX; clear hX; first | (go_simp; done) | (go_simp; rfl)⟩) hS ?_
      refine anyH_one (i := 11) (by decide +kernel) ?_
      refine opH_val (i := 11) (v := .pointer (some ⟨W2.heap.size, 0, none⟩)) (w' := W2.alloc (.cells #[.int .i64 0, .int .i64 0, .int .i64 0, .int .i64 0, .int .i64 0, .int .i64 0, .int .i64 0, .int .i64 0, .int .i64 0, .int .i64 0, .int .i64 0, .int .i64 0, .int .i64 0, .string ⟨#[]⟩, .int .i64 0, .int .i64 0, .int .i64 0, .int .i64 0] 35)) rfl (by first | rfl | (go_simp; done)) (by first | (go_simp; done) | (go_simp; rfl)) ?_
      have hal := below_alloc (Below.refl _ W2) (.cells #[.int .i64 0, .int .i64 0, .int .i64 0, .int .i64 0, .int .i64 0, .int .i64 0, .int .i64 0, .int .i64 0, .int .i64 0, .int .i64 0, .int .i64 0, .int .i64 0, .int .i64 0, .string ⟨#[]⟩, .int .i64 0, .int .i64 0, .int .i64 0, .int .i64 0] 35)
      have HQ3 := Lib.hid (World.alloc_heap_new W2 (.cells #[.int .i64 0, .int .i64 0, .int .i64 0, .int .i64 0, .int .i64 0, .int .i64 0, .int .i64 0, .int .i64 0, .int .i64 0, .int .i64 0, .int .i64 0, .int .i64 0, .int .i64 0, .string ⟨#[]⟩, .int .i64 0, .int .i64 0, .int .i64 0, .int .i64 0] 35))
      have HP3 := Lib.hid ((hal.block p (Array.getElem?_eq_some_iff.1 HP2.out).1).trans HP2.out)
      have HR3 := Lib.hid ((hal.block (p + 1) (Array.getElem?_eq_some_iff.1 HR2.out).1).trans HR2.out)
      have HB4 := Lib.hid (HB3.out.trans (hal.mono (by have := (Array.getElem?_eq_some_iff.1 HP2.out).1; omega)))
      have HLTQ := Lib.hid (show p + 1 < W2.heap.size from (Array.getElem?_eq_some_iff.1 HR2.out).1)
      clear hal hS
      generalize W2.alloc (.cells #[.int .i64 0, .int .i64 0, .int .i64 0, .int .i64 0, .int .i64 0, .int .i64 0, .int .i64 0, .int .i64 0, .int .i64 0, .int .i64 0, .int .i64 0, .int .i64 0, .int .i64 0, .string ⟨#[]⟩, .int .i64 0, .int .i64 0, .int .i64 0, .int .i64 0] 35) = W3 at *
      refine ⟨HP3.out, ?_⟩
      have hw := wrote_all (l := ([.int .i64 k, .int .i64 x0, .int .i64 x1, .int .i64 x2, .int .i64 x3, .int .i64 x4, .int .i64 x5, .int .i64 x6, .int .i64 x7, .int .i64 x8, .int .i64 x9, .int .i64 x10, .int .i64 x11, .string s, .int .i64 n, .int .i64 0, .int .i64 0, .int .i64 0] : List Value)) HQ3.out rfl
      have HPx := Lib.hid ((hw.rest p (by have := HLTQ.out; omega)).trans HP3.out)
      have HRx := Lib.hid ((hw.rest (p + 1) (by have := HLTQ.out; omega)).trans HR3.out)
      have HBx := Lib.hid (hw.below HB4.out (by have := HLTQ.out; omega))
      have HQx := Lib.hid hw.there
      clear hw
      refine anyH_store (i := 12) (by decide +kernel) rfl (by first | rfl | (go_simp; done)) (exec_store_allH 35 _ _ rfl W2.heap.size ([.int .i64 k, .int .i64 x0, .int .i64 x1, .int .i64 x2, .int .i64 x3, .int .i64 x4, .int .i64 x5, .int .i64 x6, .int .i64 x7, .int .i64 x8, .int .i64 x9, .int .i64 x10, .int .i64 x11, .string s, .int .i64 n, .int .i64 0, .int .i64 0, .int .i64 0] : List Value) (by go_simp) (by go_simp) HQ3.out rfl info_dstep rfl) HPx.out ?_
      generalize W3.setCells W2.heap.size 0 ([.int .i64 k, .int .i64 x0, .int .i64 x1, .int .i64 x2, .int .i64 x3, .int .i64 x4, .int .i64 x5, .int .i64 x6, .int .i64 x7, .int .i64 x8, .int .i64 x9, .int .i64 x10, .int .i64 x11, .string s, .int .i64 n, .int .i64 0, .int .i64 0, .int .i64 0] : List Value) = W99 at *
      refine wpAnyH_done (by decide +kernel) ?_ _
      go_simp
      go_wp2_with fail
      go_meet
      exact ⟨_, rfl, HQx.out, HPx.out, HRx.out, HLTQ.out, HBx.out⟩
    · refine opH_val (i := 11) (v := .pointer (some ⟨wd.heap.size, 0, none⟩)) (w' := wd.alloc (.cells #[.int .i64 0, .int .i64 0, .int .i64 0, .int .i64 0, .int .i64 0, .int .i64 0, .int .i64 0, .int .i64 0, .int .i64 0, .int .i64 0, .int .i64 0, .int .i64 0, .int .i64 0, .string ⟨#[]⟩, .int .i64 0, .int .i64 0, .int .i64 0, .int .i64 0] 35)) rfl (by first | rfl | (go_simp; done)) (by first | (go_simp; done) | (go_simp; rfl)) ?_
      have hal := below_alloc (Below.refl _ wd) (.cells #[.int .i64 0, .int .i64 0, .int .i64 0, .int .i64 0, .int .i64 0, .int .i64 0, .int .i64 0, .int .i64 0, .int .i64 0, .int .i64 0, .int .i64 0, .int .i64 0, .int .i64 0, .string ⟨#[]⟩, .int .i64 0, .int .i64 0, .int .i64 0, .int .i64 0] 35)
      have HQ2 := Lib.hid (World.alloc_heap_new wd (.cells #[.int .i64 0, .int .i64 0, .int .i64 0, .int .i64 0, .int .i64 0, .int .i64 0, .int .i64 0, .int .i64 0, .int .i64 0, .int .i64 0, .int .i64 0, .int .i64 0, .int .i64 0, .string ⟨#[]⟩, .int .i64 0, .int .i64 0, .int .i64 0, .int .i64 0] 35))
      have HP2 := Lib.hid ((hal.block p (Array.getElem?_eq_some_iff.1 HPD.out).1).trans HPD.out)
      have HR2 := Lib.hid ((hal.block (p + 1) (Array.getElem?_eq_some_iff.1 HRD.out).1).trans HRD.out)
      have HB3 := Lib.hid (HBD.out.trans (hal.mono (by have := (Array.getElem?_eq_some_iff.1 HPD.out).1; omega)))
      have HLTQ := Lib.hid (show p + 1 < wd.heap.size from (Array.getElem?_eq_some_iff.1 HRD.out).1)
      clear hal hS HPD HRD HBD
      generalize wd.alloc (.cells #[.int .i64 0, .int .i64 0, .int .i64 0, .int .i64 0, .int .i64 0, .int .i64 0, .int .i64 0, .int .i64 0, .int .i64 0, .int .i64 0, .int .i64 0, .int .i64 0, .int .i64 0, .string ⟨#[]⟩, .int .i64 0, .int .i64 0, .int .i64 0, .int .i64 0] 35) = W2 at *
      generalize wd.heap.size = q at *
      refine ⟨HP2.out, ?_⟩
      refine anyH_one (i := 4) (by decide +kernel) ?_
      refine opH_call (i := 4) rfl (by first | rfl | (go_simp; done)) (by go_simp) (KO.out W2) ?_
      rintro e W3 ⟨rfl, hb⟩
      have HP3 := Lib.hid ((hb.block p (Array.getElem?_eq_some_iff.1 HP2.out).1).trans HP2.out)
      have HR3 := Lib.hid ((hb.block (p + 1) (Array.getElem?_eq_some_iff.1 HR2.out).1).trans HR2.out)
      have HQ3 := Lib.hid ((hb.block q (Array.getElem?_eq_some_iff.1 HQ2.out).1).trans HQ2.out)
      have HB4 := Lib.hid (HB3.out.trans (hb.mono (by have := (Array.getElem?_eq_some_iff.1 HP2.out).1; omega)))
      clear hb
      have hS := HP3.out
      refine ⟨_, rfl, hS, ?_⟩
      refine wpAnyH_take (i := 10) (v := .agg #[.int .i64 k, .int .i64 x0, .int .i64 x1, .int .i64 x2, .int .i64 x3, .int .i64 x4, .int .i64 x5, .int .i64 x6, .int .i64 x7, .int .i64 x8, .int .i64 x9, .int .i64 x10, .int .i64 x11, .string s, .int .i64 n, .int .i64 0, .int .i64 0, .int .i64 0]) rfl (by decide +kernel) (by decide +kernel) (by decide +kernel) (fun _ _ _ h => h) (.inl ⟨by first | rfl | (go_simp; done), fun X hX => by have hx := hX; clear hX; first | (go_simp; done) | (go_simp; rfl)⟩) hS ?_
      clear hS
      have hw := wrote_all (l := ([.int .i64 k, .int .i64 x0, .int .i64 x1, .int .i64 x2, .int .i64 x3, .int .i64 x4, .int .i64 x5, .int .i64 x6, .int .i64 x7, .int .i64 x8, .int .i64 x9, .int .i64 x10, .int .i64 x11, .string s, .int .i64 n, .int .i64 0, .int .i64 0, .int .i64 0] : List Value)) HQ3.out rfl
      have HPx := Lib.hid ((hw.rest p (by have := HLTQ.out; omega)).trans HP3.out)
      have HRx := Lib.hid ((hw.rest (p + 1) (by have := HLTQ.out; omega)).trans HR3.out)
      have HBx := Lib.hid (hw.below HB4.out (by have := HLTQ.out; omega))
      have HQx := Lib.hid hw.there
      clear hw
      refine anyH_store (i := 12) (by decide +kernel) rfl (by first | rfl | (go_simp; done)) (exec_store_allH 35 _ _ rfl q ([.int .i64 k, .int .i64 x0, .int .i64 x1, .int .i64 x2, .int .i64 x3, .int .i64 x4, .int .i64 x5, .int .i64 x6, .int .i64 x7, .int .i64 x8, .int .i64 x9, .int .i64 x10, .int .i64 x11, .string s, .int .i64 n, .int .i64 0, .int .i64 0, .int .i64 0] : List Value) (by go_simp) (by go_simp) HQ3.out rfl info_dstep rfl) HPx.out ?_
      generalize W3.setCells q 0 ([.int .i64 k, .int .i64 x0, .int .i64 x1, .int .i64 x2, .int .i64 x3, .int .i64 x4, .int .i64 x5, .int .i64 x6, .int .i64 x7, .int .i64 x8, .int .i64 x9, .int .i64 x10, .int .i64 x11, .string s, .int .i64 n, .int .i64 0, .int .i64 0, .int .i64 0] : List Value) = W99 at *
      refine wpAnyH_done (by decide +kernel) ?_ _
      go_simp
      go_wp2_with fail
      go_meet
      exact ⟨_, rfl, HQx.out, HPx.out, HRx.out, HLTQ.out, HBx.out⟩
  case rest =>
    obtain ⟨q, rfl, hq, hp, hr, hlt, hb⟩ := hcut
    have HQa := Lib.hid hq
    have HPa := Lib.hid hp
    have HRa := Lib.hid hr
    have HLTQ := Lib.hid hlt
    have HBa := Lib.hid hb
    clear hq hp hr hlt hb HB2 HPP HRP
    have c0 : wc.cell? ⟨p, 0, none⟩ = some (.int .i64 k) := cell_at HPa.out HP0.out
    by_cases h3 : k = 3
    · subst h3
      rw [if_pos rfl] at HRES
      go_wp2_with fail
      clear c0
      go_loopw [4] (fun i W => ∃ m : Nat, m ≤ 4 ∧ i = .int .i64 m ∧ W.heap[q]? = some (.cells (dC ⟨3, [x0, x1, x2, x3, x4, x5, x6, x7, x8, x9, x10, x11], s, [if 0 < m then qa else n, if 1 < m then qb else 0, if 2 < m then qc else 0, if 3 < m then qd else 0]⟩).toArray 35 (0, 0)) ∧ W.heap[p]? = some (.cells l.toArray 29 (0, 0)) ∧ W.heap[p + 1]? = some (.cells #[.int .i64 0, .int .i64 0, .int .i64 0, .int .i64 0, .int .i64 0, .int .i64 0, .int .i64 0, .int .i64 0, .int .i64 0, .int .i64 0, .int .i64 0, .int .i64 0, .int .i64 0, .string ⟨#[]⟩, .int .i64 0, .int .i64 0, .int .i64 0, .int .i64 0] 35 (0, 0)) ∧ Below p w W) (fun i _ => 4 - (intOf i).toNat)
      case atStart => exact ⟨0, Nat.zero_le _, rfl, HQa.out, HPa.out, HRa.out, HBa.out⟩
      case round =>
        obtain ⟨m, hm, rfl, hq, hp, hr, hb⟩ := hrel
        clear HQa HPa HRa HBa
        rcases (by omega : m = 0 ∨ m = 1 ∨ m = 2 ∨ m = 3 ∨ m = 4) with rfl | rfl | rfl | rfl | rfl
        · have HQm := Lib.hid (show wr.heap[q]? = some (.cells ([.int .i64 3, .int .i64 x0, .int .i64 x1, .int .i64 x2, .int .i64 x3, .int .i64 x4, .int .i64 x5, .int .i64 x6, .int .i64 x7, .int .i64 x8, .int .i64 x9, .int .i64 x10, .int .i64 x11, .string s, .int .i64 n, .int .i64 0, .int .i64 0, .int .i64 0] : List Value).toArray 35 (0, 0)) from hq)
          have HPm := Lib.hid hp
          have HRm := Lib.hid hr
          have HBm := Lib.hid hb
          clear hq hp hr hb hm
          have cp : wr.cell? ⟨p, 15, none⟩ = some (.int .i64 qa) := cell_at HPm.out HP15.out.1
          have cq : wr.cell? ⟨q, 14, none⟩ = some (.int .i64 n) := cell_at HQm.out rfl
          have fz := free_of_block 14 HQm.out
          have hw := (wrote_refl HQm.out).set 14 (.int .i64 qa)
          have HQn := Lib.hid (show (wr.setCell ⟨q, 14, none⟩ (.int .i64 qa)).heap[q]? = some (.cells ([.int .i64 3, .int .i64 x0, .int .i64 x1, .int .i64 x2, .int .i64 x3, .int .i64 x4, .int .i64 x5, .int .i64 x6, .int .i64 x7, .int .i64 x8, .int .i64 x9, .int .i64 x10, .int .i64 x11, .string s, .int .i64 qa, .int .i64 0, .int .i64 0, .int .i64 0] : List Value).toArray 35 (0, 0)) from hw.there)
          have HPn := Lib.hid ((hw.rest p (by have := HLTQ.out; omega)).trans HPm.out)
          have HRn := Lib.hid ((hw.rest (p + 1) (by have := HLTQ.out; omega)).trans HRm.out)
          have HBn := Lib.hid (hw.below HBm.out (by have := HLTQ.out; omega))
          clear hw HQm HPm HRm HBm
          go_wp2_with fail
          go_roundw
          case rel => exact ⟨1, by omega, by rfl, HQn.out, HPn.out, HRn.out, HBn.out⟩
          case measure => simp [intOf]
        · have HQm := Lib.hid (show wr.heap[q]? = some (.cells ([.int .i64 3, .int .i64 x0, .int .i64 x1, .int .i64 x2, .int .i64 x3, .int .i64 x4, .int .i64 x5, .int .i64 x6, .int .i64 x7, .int .i64 x8, .int .i64 x9, .int .i64 x10, .int .i64 x11, .string s, .int .i64 qa, .int .i64 0, .int .i64 0, .int .i64 0] : List Value).toArray 35 (0, 0)) from hq)
          have HPm := Lib.hid hp
          have HRm := Lib.hid hr
          have HBm := Lib.hid hb
          clear hq hp hr hb hm
          have cp : wr.cell? ⟨p, 16, none⟩ = some (.int .i64 qb) := cell_at HPm.out HP15.out.2.1
          have cq : wr.cell? ⟨q, 15, none⟩ = some (.int .i64 0) := cell_at HQm.out rfl
          have fz := free_of_block 15 HQm.out
          have hw := (wrote_refl HQm.out).set 15 (.int .i64 qb)
          have HQn := Lib.hid (show (wr.setCell ⟨q, 15, none⟩ (.int .i64 qb)).heap[q]? = some (.cells ([.int .i64 3, .int .i64 x0, .int .i64 x1, .int .i64 x2, .int .i64 x3, .int .i64 x4, .int .i64 x5, .int .i64 x6, .int .i64 x7, .int .i64 x8, .int .i64 x9, .int .i64 x10, .int .i64 x11, .string s, .int .i64 qa, .int .i64 qb, .int .i64 0, .int .i64 0] : List Value).toArray 35 (0, 0)) from hw.there)
          have HPn := Lib.hid ((hw.rest p (by have := HLTQ.out; omega)).trans HPm.out)
          have HRn := Lib.hid ((hw.rest (p + 1) (by have := HLTQ.out; omega)).trans HRm.out)
          have HBn := Lib.hid (hw.below HBm.out (by have := HLTQ.out; omega))
          clear hw HQm HPm HRm HBm
          go_wp2_with fail
          go_roundw
          case rel => exact ⟨2, by omega, by rfl, HQn.out, HPn.out, HRn.out, HBn.out⟩
          case measure => simp [intOf]
        · have HQm := Lib.hid (show wr.heap[q]? = some (.cells ([.int .i64 3, .int .i64 x0, .int .i64 x1, .int .i64 x2, .int .i64 x3, .int .i64 x4, .int .i64 x5, .int .i64 x6, .int .i64 x7, .int .i64 x8, .int .i64 x9, .int .i64 x10, .int .i64 x11, .string s, .int .i64 qa, .int .i64 qb, .int .i64 0, .int .i64 0] : List Value).toArray 35 (0, 0)) from hq)
          have HPm := Lib.hid hp
          have HRm := Lib.hid hr
          have HBm := Lib.hid hb
          clear hq hp hr hb hm
          have cp : wr.cell? ⟨p, 17, none⟩ = some (.int .i64 qc) := cell_at HPm.out HP15.out.2.2.1
          have cq : wr.cell? ⟨q, 16, none⟩ = some (.int .i64 0) := cell_at HQm.out rfl
          have fz := free_of_block 16 HQm.out
          have hw := (wrote_refl HQm.out).set 16 (.int .i64 qc)
          have HQn := Lib.hid (show (wr.setCell ⟨q, 16, none⟩ (.int .i64 qc)).heap[q]? = some (.cells ([.int .i64 3, .int .i64 x0, .int .i64 x1, .int .i64 x2, .int .i64 x3, .int .i64 x4, .int .i64 x5, .int .i64 x6, .int .i64 x7, .int .i64 x8, .int .i64 x9, .int .i64 x10, .int .i64 x11, .string s, .int .i64 qa, .int .i64 qb, .int .i64 qc, .int .i64 0] : List Value).toArray 35 (0, 0)) from hw.there)
          have HPn := Lib.hid ((hw.rest p (by have := HLTQ.out; omega)).trans HPm.out)
          have HRn := Lib.hid ((hw.rest (p + 1) (by have := HLTQ.out; omega)).trans HRm.out)
          have HBn := Lib.hid (hw.below HBm.out (by have := HLTQ.out; omega))
          clear hw HQm HPm HRm HBm
          go_wp2_with fail
          go_roundw
          case rel => exact ⟨3, by omega, by rfl, HQn.out, HPn.out, HRn.out, HBn.out⟩
          case measure => simp [intOf]
        · have HQm := Lib.hid (show wr.heap[q]? = some (.cells ([.int .i64 3, .int .i64 x0, .int .i64 x1, .int .i64 x2, .int .i64 x3, .int .i64 x4, .int .i64 x5, .int .i64 x6, .int .i64 x7, .int .i64 x8, .int .i64 x9, .int .i64 x10, .int .i64 x11, .string s, .int .i64 qa, .int .i64 qb, .int .i64 qc, .int .i64 0] : List Value).toArray 35 (0, 0)) from hq)
          have HPm := Lib.hid hp
          have HRm := Lib.hid hr
          have HBm := Lib.hid hb
          clear hq hp hr hb hm
          have cp : wr.cell? ⟨p, 18, none⟩ = some (.int .i64 qd) := cell_at HPm.out HP15.out.2.2.2
          have cq : wr.cell? ⟨q, 17, none⟩ = some (.int .i64 0) := cell_at HQm.out rfl
          have fz := free_of_block 17 HQm.out
          have hw := (wrote_refl HQm.out).set 17 (.int .i64 qd)
          have HQn := Lib.hid (show (wr.setCell ⟨q, 17, none⟩ (.int .i64 qd)).heap[q]? = some (.cells ([.int .i64 3, .int .i64 x0, .int .i64 x1, .int .i64 x2, .int .i64 x3, .int .i64 x4, .int .i64 x5, .int .i64 x6, .int .i64 x7, .int .i64 x8, .int .i64 x9, .int .i64 x10, .int .i64 x11, .string s, .int .i64 qa, .int .i64 qb, .int .i64 qc, .int .i64 qd] : List Value).toArray 35 (0, 0)) from hw.there)
          have HPn := Lib.hid ((hw.rest p (by have := HLTQ.out; omega)).trans HPm.out)
          have HRn := Lib.hid ((hw.rest (p + 1) (by have := HLTQ.out; omega)).trans HRm.out)
          have HBn := Lib.hid (hw.below HBm.out (by have := HLTQ.out; omega))
          clear hw HQm HPm HRm HBm
          go_wp2_with fail
          go_roundw
          case rel => exact ⟨4, by omega, by rfl, HQn.out, HPn.out, HRn.out, HBn.out⟩
          case measure => simp [intOf]
        · have HQa := Lib.hid (show wr.heap[q]? = some (.cells ([.int .i64 3, .int .i64 x0, .int .i64 x1, .int .i64 x2, .int .i64 x3, .int .i64 x4, .int .i64 x5, .int .i64 x6, .int .i64 x7, .int .i64 x8, .int .i64 x9, .int .i64 x10, .int .i64 x11, .string s, .int .i64 qa, .int .i64 qb, .int .i64 qc, .int .i64 qd] : List Value).toArray 35 (0, 0)) from hq)
          have HRa := Lib.hid hr
          have HBa := Lib.hid hb
          clear hq hp hr hb hm
          go_upto_region 7 with fail
          refine wp_region_lit (WL.out ?_)
          refine WL.yield (w' := wr) (v := .agg ([.int .i64 3, .int .i64 x0, .int .i64 x1, .int .i64 x2, .int .i64 x3, .int .i64 x4, .int .i64 x5, .int .i64 x6, .int .i64 x7, .int .i64 x8, .int .i64 x9, .int .i64 x10, .int .i64 x11, .string s, .int .i64 qa, .int .i64 qb, .int .i64 qc, .int .i64 qd] : List Value).toArray) rfl (exec_load_elt 35 _ rfl q 0 (by go_simp) ([.int .i64 3, .int .i64 x0, .int .i64 x1, .int .i64 x2, .int .i64 x3, .int .i64 x4, .int .i64 x5, .int .i64 x6, .int .i64 x7, .int .i64 x8, .int .i64 x9, .int .i64 x10, .int .i64 x11, .string s, .int .i64 qa, .int .i64 qb, .int .i64 qc, .int .i64 qd] : List Value) _ (range_of_block HQa.out) Tryd.underlying35 rfl info_dstep) ?_
          try go_simp
          refine WL_store_part rfl 35 _ _ rfl (p + 1) 0 ([.int .i64 3, .int .i64 x0, .int .i64 x1, .int .i64 x2, .int .i64 x3, .int .i64 x4, .int .i64 x5, .int .i64 x6, .int .i64 x7, .int .i64 x8, .int .i64 x9, .int .i64 x10, .int .i64 x11, .string s, .int .i64 qa, .int .i64 qb, .int .i64 qc, .int .i64 qd] : List Value) (by go_simp) (by go_simp) HRa.out (Nat.le_of_eq rfl) info_dstep rfl ?_
          intro wz hz
          rw [show setAll #[.int .i64 0, .int .i64 0, .int .i64 0, .int .i64 0, .int .i64 0, .int .i64 0, .int .i64 0, .int .i64 0, .int .i64 0, .int .i64 0, .int .i64 0, .int .i64 0, .int .i64 0, .string ⟨#[]⟩, .int .i64 0, .int .i64 0, .int .i64 0, .int .i64 0] 0 ([.int .i64 3, .int .i64 x0, .int .i64 x1, .int .i64 x2, .int .i64 x3, .int .i64 x4, .int .i64 x5, .int .i64 x6, .int .i64 x7, .int .i64 x8, .int .i64 x9, .int .i64 x10, .int .i64 x11, .string s, .int .i64 qa, .int .i64 qb, .int .i64 qc, .int .i64 qd] : List Value) = ([.int .i64 3, .int .i64 x0, .int .i64 x1, .int .i64 x2, .int .i64 x3, .int .i64 x4, .int .i64 x5, .int .i64 x6, .int .i64 x7, .int .i64 x8, .int .i64 x9, .int .i64 x10, .int .i64 x11, .string s, .int .i64 qa, .int .i64 qb, .int .i64 qc, .int .i64 qd] : List Value).toArray from setAll_full rfl] at hz
          have HZ := Lib.hid hz.there
          have HBZ := Lib.hid (hz.below HBa.out (Nat.le_succ _))
          clear hz
          refine WL.nil ?_
          go_simp
          go_wp2_with fail
          exact bodyPost_ret (results_all ([.int .i64 3, .int .i64 x0, .int .i64 x1, .int .i64 x2, .int .i64 x3, .int .i64 x4, .int .i64 x5, .int .i64 x6, .int .i64 x7, .int .i64 x8, .int .i64 x9, .int .i64 x10, .int .i64 x11, .string s, .int .i64 qa, .int .i64 qb, .int .i64 qc, .int .i64 qd] : List Value) _ Tryd.results6 (by go_simp) HZ.out Tryd.underlying35 rfl info_dstep) rfl ⟨by rw [HRES.out], by rw [← HPW.out]; exact HBZ.out⟩
    · have e3 : (k == 3) = false := by simpa using h3
      rw [if_neg h3] at HRES
      clear h3
      go_upto_region 7 with fail
      refine wp_region_lit (WL.out ?_)
      refine WL.yield (w' := wc) (v := .agg ([.int .i64 k, .int .i64 x0, .int .i64 x1, .int .i64 x2, .int .i64 x3, .int .i64 x4, .int .i64 x5, .int .i64 x6, .int .i64 x7, .int .i64 x8, .int .i64 x9, .int .i64 x10, .int .i64 x11, .string s, .int .i64 n, .int .i64 0, .int .i64 0, .int .i64 0] : List Value).toArray) rfl (exec_load_elt 35 _ rfl q 0 (by go_simp) ([.int .i64 k, .int .i64 x0, .int .i64 x1, .int .i64 x2, .int .i64 x3, .int .i64 x4, .int .i64 x5, .int .i64 x6, .int .i64 x7, .int .i64 x8, .int .i64 x9, .int .i64 x10, .int .i64 x11, .string s, .int .i64 n, .int .i64 0, .int .i64 0, .int .i64 0] : List Value) _ (range_of_block HQa.out) Tryd.underlying35 rfl info_dstep) ?_
      try go_simp
      refine WL_store_part rfl 35 _ _ rfl (p + 1) 0 ([.int .i64 k, .int .i64 x0, .int .i64 x1, .int .i64 x2, .int .i64 x3, .int .i64 x4, .int .i64 x5, .int .i64 x6, .int .i64 x7, .int .i64 x8, .int .i64 x9, .int .i64 x10, .int .i64 x11, .string s, .int .i64 n, .int .i64 0, .int .i64 0, .int .i64 0] : List Value) (by go_simp) (by go_simp) HRa.out (Nat.le_of_eq rfl) info_dstep rfl ?_
      intro wz hz
      rw [show setAll #[.int .i64 0, .int .i64 0, .int .i64 0, .int .i64 0, .int .i64 0, .int .i64 0, .int .i64 0, .int .i64 0, .int .i64 0, .int .i64 0, .int .i64 0, .int .i64 0, .int .i64 0, .string ⟨#[]⟩, .int .i64 0, .int .i64 0, .int .i64 0, .int .i64 0] 0 ([.int .i64 k, .int .i64 x0, .int .i64 x1, .int .i64 x2, .int .i64 x3, .int .i64 x4, .int .i64 x5, .int .i64 x6, .int .i64 x7, .int .i64 x8, .int .i64 x9, .int .i64 x10, .int .i64 x11, .string s, .int .i64 n, .int .i64 0, .int .i64 0, .int .i64 0] : List Value) = ([.int .i64 k, .int .i64 x0, .int .i64 x1, .int .i64 x2, .int .i64 x3, .int .i64 x4, .int .i64 x5, .int .i64 x6, .int .i64 x7, .int .i64 x8, .int .i64 x9, .int .i64 x10, .int .i64 x11, .string s, .int .i64 n, .int .i64 0, .int .i64 0, .int .i64 0] : List Value).toArray from setAll_full rfl] at hz
      have HZ := Lib.hid hz.there
      have HBZ := Lib.hid (hz.below HBa.out (Nat.le_succ _))
      clear hz
      refine WL.nil ?_
      go_simp
      go_wp2_with fail
      exact bodyPost_ret (results_all ([.int .i64 k, .int .i64 x0, .int .i64 x1, .int .i64 x2, .int .i64 x3, .int .i64 x4, .int .i64 x5, .int .i64 x6, .int .i64 x7, .int .i64 x8, .int .i64 x9, .int .i64 x10, .int .i64 x11, .string s, .int .i64 n, .int .i64 0, .int .i64 0, .int .i64 0] : List Value) _ Tryd.results6 (by go_simp) HZ.out Tryd.underlying35 rfl info_dstep) rfl ⟨by rw [HRES.out], by rw [← HPW.out]; exact HBZ.out⟩
end Go.Proofs.YtdfkfcpkejjlnaaDoor
