/- Laws that belong together: ResvReads walked, at any bytes (layer 18). The door's type of errors; a list as the document has it; is it the document's.; ResvReads walked, at any bytes (layer 18), behind RvR: is a list the document's; the law. The door's type of errors. -/
import Derived.Test.YtddoknkmmchkmaaDoorMap
import Derived.Test.YtddoknkmmchkmaaDoorMaf
import Derived.Test.YtddoknkmmchkmaaDoorMac
import Derived.Test.YtddoknkmmchkmaaDoorMad
namespace Go.Proofs.YtddoknkmmchkmaaDoor
set_option linter.unusedVariables false
open Go.ChangeShapes Go.WideShapes Go.ChangeAt Go.RowKit
attribute [local go_sem ↓] Go.wp_at_zero Go.wp_at_succ comesTo_value_eq comesTo_skip_eq comesTo_enter_eq

theorem own_formR {W : World} {B : Nat} {e : TypeId} {size n : Nat} {v : Value} {xs : List Value} (h : W.ownsRow B e size v n xs) : ∃ a c, v = .slice a n c := by
  rcases h.2 with ⟨rfl, h0⟩ | ⟨g, cap, cur, hv, _⟩
  · exact ⟨none, 0, by rw [h0]⟩
  · exact ⟨_, _, hv⟩
set_option maxRecDepth 100000 in
set_option maxHeartbeats 4000000 in
theorem own18_pos {w : World} {g n c : Nat} {l : List RV} (hn : l.length = n) (hr : RowR w g l) (hg : g < w.heap.size) (hl : n ≤ 8) :
    Calls Tryd.prog 29 #[.slice (some ⟨g, 0, none⟩) n c] w fun e w' => ∃ v', e = .returned v' ∧ w'.ownsRow w.heap.size 78 4 v' n (flatR l) ∧ Below w.heap.size w w' := by
  have hmx : Tryd.prog.follows .mixedOrders = true := by kernel_rfl
  have HR := Lib.hid (fun (X : World) (hX : X.heap[g]? = w.heap[g]?) => hr.mono hX)
  have HG := Lib.hid hg
  have HL := Lib.hid hl
  have HN := Lib.hid hn
  clear hr hg hl hn
  go_enter Tryd.func29, Tryd.ntmps29
  go_wp2_with fail
  go_loopw [3, 4] (fun s i wr => ∃ k : Nat, k ≤ n ∧ i = .int .i64 k ∧ wr.ownsRow w.heap.size 78 4 s k (flatR (l.take k)) ∧ Below w.heap.size w wr) (fun _ i _ => n - (intOf i).toNat)
  case atStart => exact ⟨0, Nat.zero_le _, rfl, World.ownsRow_nil _ _ _ _, Below.refl _ _⟩
  case round =>
    obtain ⟨k, hk, rfl, ho, hb⟩ := hrel
    obtain ⟨aS, cS, rfl⟩ := own_formR ho
    by_cases hlt : k < n
    case pos =>
      have hd : decide (k < n) = true := decide_eq_true hlt
      have hd2 : decide ((k : Int) < (n : Int)) = true := decide_eq_true (by omega)
      have hkl : (k : Int) < (n : Int) := by omega
      have hw1 : IntKind.i64.wrap ((k : Int) + 1) = (k : Int) + 1 := by have := HL.out; rw [IntKind.wrap_i64]; omega
      have HK := Lib.hid hlt
      have hkl' : k < l.length := by rw [HN.out]; exact hlt
      obtain ⟨x0, x1, x2, x3⟩ := HR.out wr (hb.block g HG.out) k hkl'
      have HTK := Lib.hid (show l.take (k + 1) = l.take k ++ [l.getD k zR] by
        rw [List.take_succ_eq_append_getElem hkl']
        simp [List.getD, List.getElem?_eq_getElem hkl'])
      have HCE := Lib.hid (fun (X : World) (hX : X.heap[g]? = w.heap[g]?) => HR.out X hX k hkl')
      have HO := Lib.hid ho
      have HB := Lib.hid hb
      clear ho hb hkl' hk
      generalize l.getD k zR = r at *
      obtain ⟨r1, r2, r3, r4⟩ := r
      dsimp only at x0 x1 x2 x3 HCE
      have KO := Lib.hid (fun X => own01_any r2 r3 X)
      go_upto_region 5 with fail
      clear x0 x1 x2 x3
      refine wp_region_held (S := fun X => X.cell? ⟨g, k * 4, none⟩ = some (.int .i64 r1) ∧ X.cell? ⟨g, k * 4 + 1, none⟩ = some (.int .i64 r2) ∧ X.cell? ⟨g, k * 4 + 2, none⟩ = some (.int .i64 r3) ∧ X.cell? ⟨g, k * 4 + 3, none⟩ = some (.int .i64 r4)) hmx ?_
      have HBd := Lib.hid (show Below w.heap.size w wr.drew from HB.out.drew)
      have HOd := Lib.hid (Ap.own_below HO.out (show Below wr.heap.size wr wr.drew from (Below.refl _ _).drew))
      clear HB HO
      change wpAnyH _ _ _ _ _ 21 _ _ wr.drew
      generalize wr.drew = W0 at *
      have hS := HCE.out W0 (HBd.out.block g HG.out)
      (refine wpAnyH_take (i := 0) (v := .slice aS k cS) rfl (by decide +kernel) (by decide +kernel) (by decide +kernel) (fun _ _ _ h => h) (.inl ⟨by first | rfl | (go_simp; done), fun X hX => by obtain ⟨hx0, hx1, hx2, hx3⟩ := hX; first | (go_simp; done) | (go_simp; rfl)⟩) hS ?_)
      (refine wpAnyH_take (i := 1) (v := .slice (some ⟨g, 0, none⟩) n c) rfl (by decide +kernel) (by decide +kernel) (by decide +kernel) (fun _ _ _ h => h) (.inl ⟨by first | rfl | (go_simp; done), fun X hX => by obtain ⟨hx0, hx1, hx2, hx3⟩ := hX; first | (go_simp; done) | (go_simp; rfl)⟩) hS ?_)
      (refine wpAnyH_take (i := 2) (v := .int .i64 k) rfl (by decide +kernel) (by decide +kernel) (by decide +kernel) (fun _ _ _ h => h) (.inl ⟨by first | rfl | (go_simp; done), fun X hX => by obtain ⟨hx0, hx1, hx2, hx3⟩ := hX; first | (go_simp; done) | (go_simp; rfl)⟩) hS ?_)
      (refine wpAnyH_take (i := 3) (v := .pointer (some ⟨g, k * 4, none⟩)) rfl (by decide +kernel) (by decide +kernel) (by decide +kernel) (fun _ _ _ h => h) (.inl ⟨by first | rfl | (go_simp; done), fun X hX => by obtain ⟨hx0, hx1, hx2, hx3⟩ := hX; first | (go_simp; done) | (go_simp; rfl)⟩) hS ?_)
      (refine wpAnyH_take (i := 4) (v := .pointer (some ⟨g, k * 4, none⟩)) rfl (by decide +kernel) (by decide +kernel) (by decide +kernel) (fun _ _ _ h => h) (.inl ⟨by first | rfl | (go_simp; done), fun X hX => by obtain ⟨hx0, hx1, hx2, hx3⟩ := hX; first | (go_simp; done) | (go_simp; rfl)⟩) hS ?_)
      (refine wpAnyH_take (i := 5) (v := .int .i64 r1) rfl (by decide +kernel) (by decide +kernel) (by decide +kernel) (fun _ _ _ h => h) (.inl ⟨by first | rfl | (go_simp; done), fun X hX => by obtain ⟨hx0, hx1, hx2, hx3⟩ := hX; first | (go_simp; done) | (go_simp; rfl)⟩) hS ?_)
      (refine wpAnyH_take (i := 6) (v := .slice (some ⟨g, 0, none⟩) n c) rfl (by decide +kernel) (by decide +kernel) (by decide +kernel) (fun _ _ _ h => h) (.inl ⟨by first | rfl | (go_simp; done), fun X hX => by obtain ⟨hx0, hx1, hx2, hx3⟩ := hX; first | (go_simp; done) | (go_simp; rfl)⟩) hS ?_)
      (refine wpAnyH_take (i := 7) (v := .int .i64 k) rfl (by decide +kernel) (by decide +kernel) (by decide +kernel) (fun _ _ _ h => h) (.inl ⟨by first | rfl | (go_simp; done), fun X hX => by obtain ⟨hx0, hx1, hx2, hx3⟩ := hX; first | (go_simp; done) | (go_simp; rfl)⟩) hS ?_)
      (refine wpAnyH_take (i := 8) (v := .pointer (some ⟨g, k * 4, none⟩)) rfl (by decide +kernel) (by decide +kernel) (by decide +kernel) (fun _ _ _ h => h) (.inl ⟨by first | rfl | (go_simp; done), fun X hX => by obtain ⟨hx0, hx1, hx2, hx3⟩ := hX; first | (go_simp; done) | (go_simp; rfl)⟩) hS ?_)
      (refine wpAnyH_take (i := 9) (v := .pointer (some ⟨g, k * 4 + 1, none⟩)) rfl (by decide +kernel) (by decide +kernel) (by decide +kernel) (fun _ _ _ h => h) (.inl ⟨by first | rfl | (go_simp; done), fun X hX => by obtain ⟨hx0, hx1, hx2, hx3⟩ := hX; first | (go_simp; done) | (go_simp; rfl)⟩) hS ?_)
      (refine wpAnyH_take (i := 10) (v := .agg #[.int .i64 r2, .int .i64 r3]) rfl (by decide +kernel) (by decide +kernel) (by decide +kernel) (fun _ _ _ h => h) (.inl ⟨by first | rfl | (go_simp; done), fun X hX => by obtain ⟨hx0, hx1, hx2, hx3⟩ := hX; first | (go_simp; done) | (go_simp; rfl)⟩) hS ?_)
      (refine wpAnyH_take (i := 12) (v := .slice (some ⟨g, 0, none⟩) n c) rfl (by decide +kernel) (by decide +kernel) (by decide +kernel) (fun _ _ _ h => h) (.inl ⟨by first | rfl | (go_simp; done), fun X hX => by obtain ⟨hx0, hx1, hx2, hx3⟩ := hX; first | (go_simp; done) | (go_simp; rfl)⟩) hS ?_)
      (refine wpAnyH_take (i := 13) (v := .int .i64 k) rfl (by decide +kernel) (by decide +kernel) (by decide +kernel) (fun _ _ _ h => h) (.inl ⟨by first | rfl | (go_simp; done), fun X hX => by obtain ⟨hx0, hx1, hx2, hx3⟩ := hX; first | (go_simp; done) | (go_simp; rfl)⟩) hS ?_)
      (refine wpAnyH_take (i := 14) (v := .pointer (some ⟨g, k * 4, none⟩)) rfl (by decide +kernel) (by decide +kernel) (by decide +kernel) (fun _ _ _ h => h) (.inl ⟨by first | rfl | (go_simp; done), fun X hX => by obtain ⟨hx0, hx1, hx2, hx3⟩ := hX; first | (go_simp; done) | (go_simp; rfl)⟩) hS ?_)
      (refine wpAnyH_take (i := 15) (v := .pointer (some ⟨g, k * 4 + 3, none⟩)) rfl (by decide +kernel) (by decide +kernel) (by decide +kernel) (fun _ _ _ h => h) (.inl ⟨by first | rfl | (go_simp; done), fun X hX => by obtain ⟨hx0, hx1, hx2, hx3⟩ := hX; first | (go_simp; done) | (go_simp; rfl)⟩) hS ?_)
      (refine wpAnyH_take (i := 16) (v := .int .i64 r4) rfl (by decide +kernel) (by decide +kernel) (by decide +kernel) (fun _ _ _ h => h) (.inl ⟨by first | rfl | (go_simp; done), fun X hX => by obtain ⟨hx0, hx1, hx2, hx3⟩ := hX; first | (go_simp; done) | (go_simp; rfl)⟩) hS ?_)
      clear hS
      refine anyH_call (i := 11) (by decide +kernel) rfl (by first | rfl | (go_simp; done)) (by go_simp) (KO.out W0) ?_
      rintro e W1 ⟨rfl, hb1⟩
      have HB1 := Lib.hid (below_next HBd.out hb1)
      have HO1 := Lib.hid (Ap.own_below HOd.out hb1)
      clear hb1 HBd HOd
      have hS := HCE.out W1 (HB1.out.block g HG.out)
      refine ⟨_, rfl, hS, ?_⟩
      (refine wpAnyH_take (i := 17) (v := .agg #[.int .i64 r1, .int .i64 r2, .int .i64 r3, .int .i64 r4]) rfl (by decide +kernel) (by decide +kernel) (by decide +kernel) (fun _ _ _ h => h) (.inl ⟨by first | rfl | (go_simp; done), fun X hX => by obtain ⟨hx0, hx1, hx2, hx3⟩ := hX; first | (go_simp; done) | (go_simp; rfl)⟩) hS ?_)
      clear hS
      refine anyH_one (i := 18) (by decide +kernel) ?_
      refine opH_val (i := 18) (v := .slice (some ⟨W1.heap.size, 0, none⟩) 1 1) (w' := W1.alloc (.cells #[.int .i64 r1, .int .i64 r2, .int .i64 r3, .int .i64 r4] 78)) rfl (by first | rfl | (go_simp; done)) (by first | (go_simp; done) | (go_simp; rfl)) ?_
      obtain ⟨v4, w4, g0, g1, g2, g3, g4, g5⟩ := Ao.app_one eltR18 27 HO1.out (cellR (r1, r2, r3, r4)) rfl (cellR_one _) (by have := HL.out; have := HK.out; omega) (by decide) (HB1.out.size)
      have hform : ∃ a c, v4 = .slice a (k + 1) c := by
        rcases g1.2 with ⟨_, h0⟩ | ⟨g, cap, cur, hv, _⟩
        · omega
        · exact ⟨_, _, hv⟩
      obtain ⟨a4, c4, rfl⟩ := hform
      refine ⟨HCE.out _ ((below_alloc HB1.out _).block g HG.out), ?_⟩
      refine anyH_one (i := 19) (by decide +kernel) ?_
      refine opH_val (i := 19) (v := .slice a4 (k + 1) c4) (w' := w4) rfl (by first | rfl | (go_simp; done)) (Ap.exec_app rfl (by go_simp) (by go_simp) g0) ?_
      have HB4 := Lib.hid (show Below w.heap.size w w4 from HB1.out.trans g5)
      have HO4 := Lib.hid (show w4.ownsRow w.heap.size 78 4 (.slice a4 (k + 1) c4) (k + 1) (flatR (l.take (k + 1))) from by
        rw [HTK.out, flatR_snoc]
        exact g1)
      clear g0 g1 g2 g3 g4 g5 HB1 HO1
      have hS := HCE.out w4 (HB4.out.block g HG.out)
      refine ⟨hS, ?_⟩
      (refine wpAnyH_take (i := 20) (v := .slice a4 (k + 1) c4) rfl (by decide +kernel) (by decide +kernel) (by decide +kernel) (fun _ _ _ h => h) (.inl ⟨by first | rfl | (go_simp; done), fun X hX => by obtain ⟨hx0, hx1, hx2, hx3⟩ := hX; first | (go_simp; done) | (go_simp; rfl)⟩) hS ?_)
      clear hS
      refine wpAnyH_done (by decide +kernel) ?_ _
      go_simp
      go_wp2_with fail
      go_roundw
      case rel => exact ⟨k + 1, by have := HK.out; omega, by go_num, HO4.out, HB4.out⟩
      case measure => have := HK.out; simp [intOf]; omega
    case neg =>
      obtain rfl : k = n := by omega
      have hd : decide (k < k) = false := decide_eq_false (by omega)
      have hd2 : decide ((k : Int) < (k : Int)) = false := decide_eq_false (by omega)
      have HO := Lib.hid (show wr.ownsRow w.heap.size 78 4 (.slice aS k cS) k (flatR l) from by
        rw [List.take_of_length_le (by rw [HN.out]; exact Nat.le_refl _)] at ho
        exact ho)
      have HB := Lib.hid hb
      clear ho hb hlt hk
      go_wp2_with fail
      go_ret
      exact ⟨_, rfl, HO.out, HB.out⟩
theorem own18_any {w : World} {v : Value} {l : List RV} (h : RdR w v l) (hl : l.length ≤ 8) :
    Calls Tryd.prog 29 #[v] w fun e w' => ∃ v', e = .returned v' ∧ w'.ownsRow w.heap.size 78 4 v' l.length (flatR l) ∧ Below w.heap.size w w' := by
  obtain ⟨ad, c, rfl, h2, h3, h4⟩ := h
  by_cases h0 : 0 < l.length
  · obtain ⟨g, rfl, h6, h7⟩ := h4 h0
    exact own18_pos rfl h7 h6 hl
  · obtain rfl : l = [] := List.eq_nil_of_length_eq_zero (by omega)
    clear h2 h3 h4 h0 hl
    show Calls Tryd.prog 29 #[.slice ad 0 c] w _
    go_enter Tryd.func29, Tryd.ntmps29
    go_wp2_with fail
    go_loopw [3, 4] (fun s i wr => s = .slice none 0 0 ∧ i = .int .i64 0 ∧ wr = w) (fun _ _ _ => 0)
    case atStart => exact ⟨rfl, rfl, rfl⟩
    case round =>
      obtain ⟨rfl, rfl, rfl⟩ := hrel
      go_wp2_with fail
      go_ret
      exact ⟨_, rfl, World.ownsRow_nil _ _ _ _, Below.refl _ _⟩
theorem eqin75 (f t : Int) (d : Nat) (w : World) : (Op.equalIn (d + 2) 75 (.agg #[.int .i64 f, .int .i64 t]) (.agg #[.int .i64 f, .int .i64 t])).run Tryd.prog w = .ok true w := by
  have hS : Tryd.prog.underlying 75 = some (.struct (Tryd.prog.fieldsOf 75)) := by kernel_rfl
  have hp : Tryd.prog.stoodInHeld 75 = false := by kernel_rfl
  have hm : (Tryd.prog.fieldsOf 75).toList.map (fun f => (f.name != "_", f.offset, f.type)) = [(true, 0, 2), (true, 1, 2)] := by kernel_rfl
  refine (run_equalIn_struct w (d + 1) _ _ _ hS hp).trans ?_
  rw [run_eqFields_all w (fun _ => true)]
  · simp
  · intro x hf
    have h1 : (x.name != "_", x.offset, x.type) ∈ (Tryd.prog.fieldsOf 75).toList.map (fun f => (f.name != "_", f.offset, f.type)) := List.mem_map.2 ⟨x, hf, rfl⟩
    rw [hm] at h1
    simp only [List.mem_cons, List.not_mem_nil, or_false, Prod.mk.injEq] at h1
    rcases h1 with ⟨h1, h2, h3⟩ | ⟨h1, h2, h3⟩
    · refine ⟨by simpa using h1, .int .i64 f, .int .i64 f, ?_, ?_, ?_⟩
      · rw [h2, h3]; simp [part, isAgg, run_underlying Tryd.underlying2]
      · rw [h2, h3]; simp [part, isAgg, run_underlying Tryd.underlying2]
      · rw [h3]; refine (run_equalIn_int w d _ _ .i64 f f Tryd.underlying2).trans ?_; simp
    · refine ⟨by simpa using h1, .int .i64 t, .int .i64 t, ?_, ?_, ?_⟩
      · rw [h2, h3]; simp [part, isAgg, run_underlying Tryd.underlying2]
      · rw [h2, h3]; simp [part, isAgg, run_underlying Tryd.underlying2]
      · rw [h3]; refine (run_equalIn_int w d _ _ .i64 t t Tryd.underlying2).trans ?_; simp
/-- a reservation is as it is -/
theorem eqin18 (a f t W : Int) (w : World) : (Op.equalIn 10000 78 (.agg #[.int .i64 a, .int .i64 f, .int .i64 t, .int .i64 W]) (.agg #[.int .i64 a, .int .i64 f, .int .i64 t, .int .i64 W])).run Tryd.prog w = .ok true w := by
  have hS : Tryd.prog.underlying 78 = some (.struct (Tryd.prog.fieldsOf 78)) := by kernel_rfl
  have hp : Tryd.prog.stoodInHeld 78 = false := by kernel_rfl
  have hm : (Tryd.prog.fieldsOf 78).toList.map (fun f => (f.name != "_", f.offset, f.type)) = [(true, 0, 3), (true, 1, 75), (true, 3, 3)] := by kernel_rfl
  refine (run_equalIn_struct w 9999 _ _ _ hS hp).trans ?_
  rw [run_eqFields_all w (fun _ => true)]
  · simp
  · intro x hf
    have h1 : (x.name != "_", x.offset, x.type) ∈ (Tryd.prog.fieldsOf 78).toList.map (fun f => (f.name != "_", f.offset, f.type)) := List.mem_map.2 ⟨x, hf, rfl⟩
    rw [hm] at h1
    simp only [List.mem_cons, List.not_mem_nil, or_false, Prod.mk.injEq] at h1
    rcases h1 with ⟨h1, h2, h3⟩ | ⟨h1, h2, h3⟩ | ⟨h1, h2, h3⟩
    · refine ⟨by simpa using h1, .int .i64 a, .int .i64 a, ?_, ?_, ?_⟩
      · rw [h2, h3]; simp [part, isAgg, run_underlying Tryd.underlying3]
      · rw [h2, h3]; simp [part, isAgg, run_underlying Tryd.underlying3]
      · rw [h3]; refine (run_equalIn_int w 9998 _ _ .i64 a a Tryd.underlying3).trans ?_; simp
    · refine ⟨by simpa using h1, .agg #[.int .i64 f, .int .i64 t], .agg #[.int .i64 f, .int .i64 t], ?_, ?_, ?_⟩
      · rw [h2, h3]; go_simp; try rfl
      · rw [h2, h3]; go_simp; try rfl
      · rw [h3]; exact eqin75 f t 9997 w
    · refine ⟨by simpa using h1, .int .i64 W, .int .i64 W, ?_, ?_, ?_⟩
      · rw [h2, h3]; simp [part, isAgg, run_underlying Tryd.underlying3]
      · rw [h2, h3]; simp [part, isAgg, run_underlying Tryd.underlying3]
      · rw [h3]; refine (run_equalIn_int w 9998 _ _ .i64 W W Tryd.underlying3).trans ?_; simp
theorem comesToR_load4 {o : Oper} {a : Act} {W : World} {S : Rl.Rel} (x : Operand) (ho : o.op = .load 78 x) {b off : Nat} (hx : a.eval x = .pointer (some ⟨b, off, none⟩)) {r1 r2 r3 r4 : Int}
    (x0 : W.cell? ⟨b, off, none⟩ = some (.int .i64 r1)) (x1 : W.cell? ⟨b, off + 1, none⟩ = some (.int .i64 r2)) (x2 : W.cell? ⟨b, off + 2, none⟩ = some (.int .i64 r3)) (x3 : W.cell? ⟨b, off + 3, none⟩ = some (.int .i64 r4))
    (h : S (.agg #[.int .i64 r1, .int .i64 r2, .int .i64 r3, .int .i64 r4]) W) : Rl.comesToR Tryd.prog S ((execOp a.eval o).run Tryd.prog W) := by
  refine Rl.comesToR_ok (v := .agg #[.int .i64 r1, .int .i64 r2, .int .i64 r3, .int .i64 r4]) ?_ h
  unfold execOp
  simp only [ho, hx]
  go_simp
end Go.Proofs.YtddoknkmmchkmaaDoor
namespace Go.Proofs.YtddoknkmmchkmaaDoor
set_option linter.unusedVariables false
open Go.ChangeShapes Go.WideShapes Go.ChangeAt Go.RowKit
attribute [local go_sem ↓] Go.wp_at_zero Go.wp_at_succ comesTo_value_eq comesTo_skip_eq comesTo_enter_eq Rl.comesToR_value_eq Rl.comesToR_skip_eq Rl.comesToR_enter_eq

set_option maxRecDepth 100000 in
set_option maxHeartbeats 4000000 in
theorem like18_any {w : World} {B F : Nat} {l : List RV} {n : Int} (h : Rs w B F l n) {v : Value} (hv : RdR w v l) :
    Calls Tryd.prog 7 #[.pointer (some ⟨F, 0, none⟩), .agg #[.int .i64 n, v]] w fun e w' => e = .returned (.int .i64 1) ∧ Below w.heap.size w w' := by
  have hmx : Tryd.prog.follows .mixedOrders = true := by kernel_rfl
  have hl8 := h.len
  obtain ⟨aV, cV, rfl, hv2, hv3, hv4⟩ := hv
  have hA := below_alloc (Below.refl _ w) (.cells #[.int .i64 n, .slice aV l.length cV] 29)
  have HA := Lib.hid hA
  have HN := Lib.hid (World.alloc_heap_new w (.cells #[.int .i64 n, .slice aV l.length cV] 29))
  have HR := Lib.hid (h.below hA)
  have HV4 := Lib.hid hv4
  have HL8 := Lib.hid hl8
  clear h hv2 hv3 hv4 hA hl8
  obtain ⟨len, hlen⟩ : ∃ x, x = l.length := ⟨_, rfl⟩
  rw [← hlen] at HN HV4 HL8 ⊢
  have HLEN := Lib.hid hlen
  go_enter Tryd.func7, Tryd.ntmps7
  rw [← hlen] at HA HR
  clear hlen
  go_upto_region 1 with fail
  generalize w.alloc (.cells #[.int .i64 n, .slice aV len cV] 29) = W1 at *
  obtain ⟨q, hq⟩ : ∃ x, x = w.heap.size := ⟨_, rfl⟩
  rw [← hq] at HN ⊢
  clear hq
  go_wp2_with fail
  refine (all_rs HR.out).mono ?_
  rintro e W2 ⟨v2, rfl, ho2, hb2⟩
  have HB2 := Lib.hid (below_next HA.out hb2)
  have HR2 := Lib.hid (HR.out.below hb2)
  have HN2 := Lib.hid ((hb2.block _ (Array.getElem?_eq_some_iff.1 HN.out).1).trans HN.out)
  have KO := Lib.hid (own18_any ho2.rd HR2.out.len)
  clear ho2 hb2 HA HR HN
  go_wp2_with fail
  refine KO.out.mono ?_
  rintro e W3 ⟨v3, rfl, ho3, hb3⟩
  have HB3 := Lib.hid (below_next HB2.out hb3)
  have HR3 := Lib.hid (HR2.out.below hb3)
  have HN3 := Lib.hid ((hb3.block _ (Array.getElem?_eq_some_iff.1 HN2.out).1).trans HN2.out)
  have hrd := own_rdR rfl ho3
  clear ho3 hb3 HB2 HR2 HN2 KO
  obtain ⟨aO, cO, rfl, _, _, hr4⟩ := hrd
  rw [← HLEN.out] at hr4 ⊢
  have HR4 := Lib.hid hr4
  clear hr4
  go_upto_region 2 with fail
  have NN := Lib.hid (fun (X : World) (hX : Below W3.heap.size W3 X) => (hX.block _ (Array.getElem?_eq_some_iff.1 HN3.out).1).trans HN3.out)
  have b0 := Lib.hid (fun X hX => cell_of_block (o := 0) (NN.out X hX) rfl)
  have b1 := Lib.hid (fun X hX => cell_of_block (o := 1) (NN.out X hX) rfl)
  have KN := Lib.hid (fun (X : World) (hX : Below W3.heap.size W3 X) => next_rs (HR3.out.below hX))
  have hw0 : Below w.heap.size w W3 := HB3.out
  refine Rl.wp_region_rel (fun a b => Below a.heap.size a b) W3 (fun a b c h h' => below_next h h') (fun a => Below.refl _ _) hmx (by kernel_rfl) (Below.refl _ _).drew ?_
  iterate 3 (refine Rl.textR_run ?_ (fun ρ => ?_) (fun ρ W hS hd => ?_) ?_; rotate_left; (focus go_simp); (focus (obtain ⟨hc, hf⟩ := bcell hS; go_simp; first | exact ⟨rfl, Below.refl _ _⟩ | (refine ⟨?_, Below.refl _ _⟩; rfl))); (try go_simp))
  (refine Rl.textR_run ?_ (fun ρ => ?_) (fun ρ W hS hd => ?_) ?_; rotate_left; (focus go_simp); (focus (have hfact := b1.out W hS; go_simp; first | exact ⟨rfl, Below.refl _ _⟩ | (refine ⟨?_, Below.refl _ _⟩; rfl))); (try go_simp))
  iterate 4 (refine Rl.textR_run ?_ (fun ρ => ?_) (fun ρ W hS hd => ?_) ?_; rotate_left; (focus go_simp); (focus (obtain ⟨hc, hf⟩ := bcell hS; go_simp; first | exact ⟨rfl, Below.refl _ _⟩ | (refine ⟨?_, Below.refl _ _⟩; rfl))); (try go_simp))
  (refine Rl.textR_run ?_ (fun ρ => ?_) (fun ρ W hS hd => ?_) ?_; rotate_left; (focus go_simp); (focus (obtain ⟨hc, hf⟩ := bcell hS; go_simp; refine (KN.out W hS).mono ?_; rintro e w1 ⟨rfl, rfl⟩; refine ⟨_, rfl, ?_, Below.refl _ _⟩; rfl)); (try go_simp))
  (refine Rl.textR_run ?_ (fun ρ => ?_) (fun ρ W hS hd => ?_) ?_; rotate_left; (focus go_simp); (focus (obtain ⟨hc, hf⟩ := bcell hS; go_simp; first | exact ⟨rfl, Below.refl _ _⟩ | (refine ⟨?_, Below.refl _ _⟩; rfl))); (try go_simp))
  (refine Rl.textR_run ?_ (fun ρ => ?_) (fun ρ W hS hd => ?_) ?_; rotate_left; (focus go_simp); (focus (have hfact := b0.out W hS; go_simp; first | exact ⟨rfl, Below.refl _ _⟩ | (refine ⟨?_, Below.refl _ _⟩; rfl))); (try go_simp))
  iterate 2 (refine Rl.textR_run ?_ (fun ρ => ?_) (fun ρ W hS hd => ?_) ?_; rotate_left; (focus go_simp); (focus (obtain ⟨hc, hf⟩ := bcell hS; go_simp; first | exact ⟨rfl, Below.refl _ _⟩ | (refine ⟨?_, Below.refl _ _⟩; rfl))); (try go_simp))
  refine Rl.textR_nil ?_
  intro ρ wA hgA hkA
  dsimp only
  have HB4 := Lib.hid (below_next hw0 hgA)
  have NN4 := Lib.hid (NN.out wA hgA)
  have HRW := Lib.hid (fun (h0 : 0 < len) => (show (∃ g, aO = some ⟨g, 0, none⟩ ∧ g < wA.heap.size ∧ RowR wA g l) ∧ (∃ g, aV = some ⟨g, 0, none⟩ ∧ g < wA.heap.size ∧ RowR wA g l) from by
    obtain ⟨g, e1, e2, e3⟩ := HR4.out h0
    obtain ⟨g', f1, f2, f3⟩ := HV4.out h0
    have hsz := hgA.size
    have hsz2 := hw0.size
    exact ⟨⟨g, e1, by omega, e3.mono (hgA.block g e2)⟩, ⟨g', f1, by omega, f3.mono ((hgA.block g' (by omega)).trans (hw0.block g' f2))⟩⟩))
  clear hgA hkA hw0 NN b0 b1 KN HR3 HN3 HR4 HV4 HB3
  go_simp
  by_cases h0 : 0 < len
  case neg =>
    obtain rfl : len = 0 := by omega
    clear h0 HRW
    go_wp2_with fail
    go_loopw [6] (fun i wr => i = .int .i64 0 ∧ wr = wA) (fun _ _ => 0)
    case atStart => exact ⟨rfl, rfl⟩
    case round =>
      obtain ⟨rfl, rfl⟩ := hrel
      go_wp2_with fail
      go_ret
      exact ⟨rfl, HB4.out⟩
  case pos =>
  obtain ⟨⟨gO, rfl, gO1, gO2⟩, ⟨gV, rfl, gV1, gV2⟩⟩ := HRW.out h0
  have HGO := Lib.hid (fun (X : World) (hX : Below wA.heap.size wA X) => gO2.mono (hX.block gO gO1))
  have HGV := Lib.hid (fun (X : World) (hX : Below wA.heap.size wA X) => gV2.mono (hX.block gV gV1))
  clear HRW gO1 gO2 gV1 gV2 h0
  go_wp2_with fail
  go_loopw [6] (fun i wr => ∃ k : Nat, k ≤ len ∧ i = .int .i64 k ∧ Below wA.heap.size wA wr) (fun i _ => len - (intOf i).toNat)
  case atStart => exact ⟨0, Nat.zero_le _, rfl, Below.refl _ _⟩
  case round =>
    obtain ⟨k, hk, rfl, hbr⟩ := hrel
    by_cases hlt : k < len
    case pos =>
      have hd : decide (k < len) = true := decide_eq_true hlt
      have hd2 : decide ((k : Int) < (len : Int)) = true := decide_eq_true (by omega)
      have hkl : (k : Int) < (len : Int) := by omega
      have hw1 : IntKind.i64.wrap ((k : Int) + 1) = (k : Int) + 1 := by have := HL8.out; rw [IntKind.wrap_i64]; omega
      have HK := Lib.hid hlt
      have hkL : k < l.length := by rw [← HLEN.out]; exact hlt
      have XO := Lib.hid (fun (X : World) (hX : Below wr.heap.size wr X) => HGO.out X (below_next hbr hX) k hkL)
      have XV := Lib.hid (fun (X : World) (hX : Below wr.heap.size wr X) => HGV.out X (below_next hbr hX) k hkL)
      have B1 := Lib.hid (fun (X : World) (hX : Below wr.heap.size wr X) => cell_of_block (o := 1) (((below_next hbr hX).block _ (Array.getElem?_eq_some_iff.1 NN4.out).1).trans NN4.out) rfl)
      have HBR := Lib.hid hbr
      clear hbr hkL hk
      generalize l.getD k zR = r at *
      obtain ⟨r1, r2, r3, r4⟩ := r
      dsimp only at XO XV
      have KEQ := Lib.hid (fun (W : World) => eqin18 r1 r2 r3 r4 W)
      go_upto_region 7 with fail
      refine Rl.wp_region_rel (fun a b => Below a.heap.size a b) wr (fun a b c h h' => below_next h h') (fun a => Below.refl _ _) hmx (by kernel_rfl) (Below.refl _ _).drew ?_
      iterate 3 (refine Rl.textR_run ?_ (fun ρ => ?_) (fun ρ W hS hd => ?_) ?_; rotate_left; (focus go_simp); (focus (obtain ⟨hc, hf⟩ := bcell hS; go_simp; first | exact ⟨rfl, Below.refl _ _⟩ | (refine ⟨?_, Below.refl _ _⟩; rfl))); (try go_simp))
      refine Rl.textR_run (.agg #[.int .i64 r1, .int .i64 r2, .int .i64 r3, .int .i64 r4]) (fun ρ => ?_) (fun ρ W hS hd => ?_) ?_
      · go_simp
      · obtain ⟨x0, x1, x2, x3⟩ := XO.out W hS
        exact comesToR_load4 _ rfl (b := gO) (off := k * 4) (by go_simp) x0 x1 x2 x3 ⟨rfl, Below.refl _ _⟩
      (try go_simp)
      (refine Rl.textR_run ?_ (fun ρ => ?_) (fun ρ W hS hd => ?_) ?_; rotate_left; (focus go_simp); (focus (obtain ⟨hc, hf⟩ := bcell hS; go_simp; first | exact ⟨rfl, Below.refl _ _⟩ | (refine ⟨?_, Below.refl _ _⟩; rfl))); (try go_simp))
      (refine Rl.textR_run ?_ (fun ρ => ?_) (fun ρ W hS hd => ?_) ?_; rotate_left; (focus go_simp); (focus (have hfact := B1.out W hS; go_simp; first | exact ⟨rfl, Below.refl _ _⟩ | (refine ⟨?_, Below.refl _ _⟩; rfl))); (try go_simp))
      iterate 2 (refine Rl.textR_run ?_ (fun ρ => ?_) (fun ρ W hS hd => ?_) ?_; rotate_left; (focus go_simp); (focus (obtain ⟨hc, hf⟩ := bcell hS; go_simp; first | exact ⟨rfl, Below.refl _ _⟩ | (refine ⟨?_, Below.refl _ _⟩; rfl))); (try go_simp))
      refine Rl.textR_run (.agg #[.int .i64 r1, .int .i64 r2, .int .i64 r3, .int .i64 r4]) (fun ρ => ?_) (fun ρ W hS hd => ?_) ?_
      · go_simp
      · obtain ⟨x0, x1, x2, x3⟩ := XV.out W hS
        exact comesToR_load4 _ rfl (b := gV) (off := k * 4) (by go_simp) x0 x1 x2 x3 ⟨rfl, Below.refl _ _⟩
      (try go_simp)
      refine Rl.textR_run (.bool false) (fun ρ => ?_) (fun ρ W hS hd => ?_) ?_
      · go_simp
      · exact Rl.comesToR_neq 78 _ _ _ rfl _ _ (by go_simp) (by go_simp) (by kernel_rfl) (KEQ.out W) ⟨rfl, Below.refl _ _⟩
      (try go_simp)
      refine Rl.textR_nil ?_
      intro ρ wd hg hk
      dsimp only
      have HBd := Lib.hid (below_next HBR.out hg)
      clear hg hk XO XV B1 HBR KEQ
      go_simp
      go_wp2_with fail
      go_roundw
      case rel => exact ⟨k + 1, by have := HK.out; omega, by go_num, HBd.out⟩
      case measure => have := HK.out; simp [intOf]; omega
    case neg =>
      obtain rfl : k = len := by omega
      have hd : decide (k < k) = false := decide_eq_false (by omega)
      have hd2 : decide ((k : Int) < (k : Int)) = false := decide_eq_false (by omega)
      have HBR := Lib.hid (below_next HB4.out hbr)
      clear hbr hlt hk
      go_wp2_with fail
      go_ret
      exact ⟨rfl, HBR.out⟩
theorem rread_no {w : World} {bs : List Int} {e : Ending} {w' : World} (h : RdREnd w bs e w') (ho : okRd bs = false) : e = .returned (.tuple #[.pointer none, .int .i64 0, .int .i64 11]) ∧ Below w.heap.size w w' := by
  rcases h with h | h
  · exact h.2
  · rw [ho] at h; cases h.1
theorem rread_yes {w : World} {bs : List Int} {e : Ending} {w' : World} (h : RdREnd w bs e w') (ho : okRd bs = true) : ∃ F, e = .returned (.tuple #[.pointer (some ⟨F, 0, none⟩), .int .i64 ((bs.length : Int) - ((rdL bs (cntR bs)).1.xs.length : Int)), .int .i64 0]) ∧ Rs w' w.heap.size F (rdL bs (cntR bs)).2 (rd0 bs).2 ∧ Below w.heap.size w w' := by
  rcases h with h | ⟨_, F, h1, _, h3, h4⟩
  · rw [ho] at h; cases h.1
  · exact ⟨F, h1, h3, h4⟩
theorem rdoc18_no {w : World} {bs : List Int} {e : Ending} {w' : World} (h : RDoc18 w bs e w') (ho : okDd bs = false) : e = .returned (.tuple #[.agg #[.int .i64 0, .slice none 0 0], .int .i64 0, .int .i64 11]) ∧ Below w.heap.size w w' := by
  rcases h with h | h
  · exact h.2
  · rw [ho] at h; cases h.1
theorem rdoc18_yes {w : World} {bs : List Int} {e : Ending} {w' : World} (h : RDoc18 w bs e w') (ho : okDd bs = true) : ∃ v, e = .returned (.tuple #[.agg #[.int .i64 (dd0 bs).2, v], .int .i64 ((bs.length : Int) - ((dL bs (cntD bs)).1.xs.length : Int)), .int .i64 0]) ∧ RdR w' v (dL bs (cntD bs)).2 ∧ Below w.heap.size w w' := by
  rcases h with h | ⟨_, v, h1, h2, h3⟩
  · rw [ho] at h; cases h.1
  · exact ⟨v, h1, h2, h3⟩
set_option maxRecDepth 100000 in
set_option maxHeartbeats 8000000 in
theorem resvreads_yes (ad : Option Addr) (n c : Nat) (bs : List Int) (hn : n ≤ 1000) (w : World) (ht : TxtAt w (.slice ad n c) bs) (hE : ErrAt w) :
    Calls Tryd.prog 3 #[.slice ad n c] w fun e w' => e = .returned (.bool true) ∧ Below w.heap.size w w' := by
  have hd0 : decide ((n : Int) > 1000) = false := decide_eq_false (by omega)
  have hd1 : decide (1000 < (n : Int)) = false := decide_eq_false (by omega)
  have hd2 : decide (1000 < n) = false := decide_eq_false (by omega)
  have hnb : n = bs.length := ht.form.1
  have hbb : ∀ x ∈ bs, 0 ≤ x ∧ x ≤ 255 := by
    intro x hx
    obtain ⟨i, hi, rfl⟩ := List.getElem_of_mem hx
    have h1 := ht.bytes.1 i hi
    have h2 := ht.bytes.2 i hi
    simp only [List.getD, List.getElem?_eq_getElem hi, Option.getD_some] at h1 h2
    omega
  have HCV := Lib.hid (fun W (hb : Below w.heap.size w W) => txt_conv ht W hb)
  have KJ := Lib.hid (resvread_any ht (by omega) hE)
  have KR := Lib.hid (fun (X : World) => rread18_any bs hbb (by omega) X)
  have K1 := Lib.hid (fun (X : World) => rone X)
  obtain ⟨hok, hv⟩ := okD18 bs
  clear ht hE hn hnb hbb
  cases ho : okRd bs with
  | false =>
    rw [ho] at hok
    have KJ2 := Lib.hid (KJ.out.mono (fun e w' h => rread_no h ho))
    have KR2 := Lib.hid (fun X => (KR.out X).mono (fun e w' h => rdoc18_no h hok))
    clear KJ KR hv ho hok
    generalize hS : strOfNums bs = S at *
    clear hS
    go_enter Tryd.func3, Tryd.ntmps3
    go_wp2_with fail
    refine KJ2.out.mono ?_
    rintro e W1 ⟨rfl, hb1⟩
    have hcv := HCV.out W1 hb1
    have HB1 := Lib.hid hb1
    clear hb1
    go_wp2_with fail
    refine (KR2.out W1).mono ?_
    rintro e W2 ⟨rfl, hb2⟩
    have HB2 := Lib.hid (below_next (below_next HB1.out hb2) (below_alloc (Below.refl _ W2) (.cells #[.int .i64 0, .slice none 0 0] 29)))
    clear hb2 hcv
    go_upto_region 5 with fail
    generalize W2.alloc (.cells #[.int .i64 0, .slice none 0 0] 29) = W3 at *
    go_wp2_with fail
    refine (K1.out W3).mono ?_
    rintro e W4 ⟨rfl, hb⟩
    have HB4 := Lib.hid (below_next HB2.out hb)
    clear hb
    go_wp2_with fail
    go_ret
    exact ⟨rfl, HB4.out⟩
  | true =>
    rw [ho] at hok
    obtain ⟨hv1, hv2, hv3⟩ := hv hok
    have KJ2 := Lib.hid (KJ.out.mono (fun e w' h => rread_yes h ho))
    have KR2 := Lib.hid (fun X => (KR.out X).mono (fun e w' h => rdoc18_yes h hok))
    rw [hv1, hv2] at KR2
    clear KJ KR ho hok hv hv1 hv2 hv3
    generalize rdL bs (cntR bs) = rl at *
    obtain ⟨st, l⟩ := rl
    dsimp only at KJ2 KR2
    generalize (rd0 bs).2 = nx at *
    generalize (bs.length : Int) - (st.xs.length : Int) = cnt at *
    generalize hS : strOfNums bs = S at *
    clear hS
    go_enter Tryd.func3, Tryd.ntmps3
    go_wp2_with fail
    refine KJ2.out.mono ?_
    rintro e W1 ⟨F, rfl, hrs, hb1⟩
    have hcv := HCV.out W1 hb1
    have HB1 := Lib.hid hb1
    have HF := Lib.hid hrs
    clear hb1 hrs
    go_wp2_with fail
    refine (KR2.out W1).mono ?_
    rintro e W2 ⟨v, rfl, hrd, hb2⟩
    have ba := below_alloc (Below.refl _ W2) (.cells #[.int .i64 nx, v] 29)
    have HB2 := Lib.hid (below_next (below_next HB1.out hb2) ba)
    have HF2 := Lib.hid ((HF.out.below hb2).below ba)
    have HRD := Lib.hid (hrd.below ba)
    have HN := Lib.hid (World.alloc_heap_new W2 (.cells #[.int .i64 nx, v] 29))
    obtain ⟨aV, cV, hv, _⟩ := hrd
    clear hb2 hcv ba HF HB1
    subst hv
    go_upto_region 5 with fail
    generalize W2.alloc (.cells #[.int .i64 nx, .slice aV l.length cV] 29) = W3 at *
    have KL := Lib.hid (like18_any HF2.out HRD.out)
    generalize W2.heap.size = q at *
    generalize l.length = len at *
    have q0 : W3.cell? ⟨q, 0, none⟩ = some (.int .i64 nx) := cell_of_block (o := 0) HN.out rfl
    have q1 : W3.cell? ⟨q, 1, none⟩ = some (.slice aV len cV) := cell_of_block (o := 1) HN.out rfl
    go_wp2_with fail
    refine KL.out.mono ?_
    rintro e W4 ⟨rfl, hb⟩
    have HB4 := Lib.hid (below_next HB2.out hb)
    clear hb q0 q1
    go_wp2_with fail
    refine (K1.out W4).mono ?_
    rintro e W5 ⟨rfl, hb⟩
    have HB5 := Lib.hid (below_next HB4.out hb)
    clear hb
    go_wp2_with fail
    go_ret
    exact ⟨rfl, HB5.out⟩
set_option maxRecDepth 100000 in
theorem resvreads_any (ad : Option Addr) (n c : Nat) (bs : List Int) (w : World) (ht : TxtAt w (.slice ad n c) bs) (h : ErrAt w) :
    Calls Tryd.prog 3 #[.slice ad n c] w fun e w' => e = .returned (.bool true) ∧ Below w.heap.size w w' := by
  by_cases hn : n ≤ 1000
  · exact resvreads_yes ad n c bs hn w ht h
  · have hd0 : decide ((n : Int) > 1000) = true := decide_eq_true (by omega)
    have hd1 : decide (1000 < (n : Int)) = true := decide_eq_true (by omega)
    have hd2 : decide (1000 < n) = true := decide_eq_true (by omega)
    clear ht h hn
    go_enter Tryd.func3, Tryd.ntmps3
    go_wp2_with fail
    go_ret
    exact ⟨rfl, Below.refl _ _⟩
end Go.Proofs.YtddoknkmmchkmaaDoor
