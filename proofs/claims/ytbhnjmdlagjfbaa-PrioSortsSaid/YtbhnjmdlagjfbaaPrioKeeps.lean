/- PrioKeeps walked, at any items and any item (layer 13). No condition. -/
import Derived.Test.YtbhnjmdlagjfbaaPrioAll
namespace Go.Proofs.Ytbhnjmdlagjfbaa
set_option linter.unusedVariables false
open Go.ChangeShapes Go.WideShapes Go.ChangeAt Go.RowKit Go.Sort Go.Shelf
attribute [local go_sem ↓] Go.wp_at_zero Go.wp_at_succ comesTo_value_eq comesTo_skip_eq comesTo_enter_eq Rl.comesToR_value_eq Rl.comesToR_skip_eq Rl.comesToR_enter_eq

theorem eqinI (p1 p2 x1 x2 : Int) (w : World) : (Op.equalIn 10000 97 (.agg #[.int .i64 p1, .int .i64 p2]) (.agg #[.int .i64 x1, .int .i64 x2])).run Try.prog w = .ok (p1 == x1 && p2 == x2) w := by
  have hS : Try.prog.underlying 97 = some (.struct (Try.prog.fieldsOf 97)) := by kernel_rfl
  have hp : Try.prog.stoodInHeld 97 = false := by kernel_rfl
  have hm : (Try.prog.fieldsOf 97).toList.map (fun f => (f.name != "_", f.offset, f.type)) = [(true, 0, 3), (true, 1, 3)] := by kernel_rfl
  refine (run_equalIn_struct w 9999 _ _ _ hS hp).trans ?_
  rw [run_eqFields_all w (fun f => if f.offset = 0 then p1 == x1 else p2 == x2)]
  · have : (Try.prog.fieldsOf 97).toList.all (fun f => if f.offset = 0 then p1 == x1 else p2 == x2) = ((Try.prog.fieldsOf 97).toList.map (fun f => (f.name != "_", f.offset, f.type))).all (fun q => if q.2.1 = 0 then p1 == x1 else p2 == x2) := by rw [List.all_map]; rfl
    rw [this, hm]
    simp
  · intro x hf
    have h1 : (x.name != "_", x.offset, x.type) ∈ (Try.prog.fieldsOf 97).toList.map (fun f => (f.name != "_", f.offset, f.type)) := List.mem_map.2 ⟨x, hf, rfl⟩
    rw [hm] at h1
    simp only [List.mem_cons, List.not_mem_nil, or_false, Prod.mk.injEq] at h1
    rcases h1 with ⟨h1, h2, h3⟩ | ⟨h1, h2, h3⟩
    · refine ⟨by simpa using h1, .int .i64 p1, .int .i64 x1, ?_, ?_, ?_⟩
      · rw [h2, h3]; simp [part, isAgg, run_underlying Try.underlying3]
      · rw [h2, h3]; simp [part, isAgg, run_underlying Try.underlying3]
      · rw [h2, h3]; exact run_equalIn_int w _ _ _ _ _ _ Try.underlying3
    · refine ⟨by simpa using h1, .int .i64 p2, .int .i64 x2, ?_, ?_, ?_⟩
      · rw [h2, h3]; simp [part, isAgg, run_underlying Try.underlying3]
      · rw [h2, h3]; simp [part, isAgg, run_underlying Try.underlying3]
      · rw [h2, h3]; exact run_equalIn_int w _ _ _ _ _ _ Try.underlying3
theorem comesToR_load2 {o : Oper} {a : Act} {W : World} {S : Rl.Rel} (x : Operand) (ho : o.op = .load 97 x) {b off : Nat} (hx : a.eval x = .pointer (some ⟨b, off, none⟩)) {r1 r2 : Int}
    (x0 : W.cell? ⟨b, off, none⟩ = some (.int .i64 r1)) (x1 : W.cell? ⟨b, off + 1, none⟩ = some (.int .i64 r2))
    (h : S (.agg #[.int .i64 r1, .int .i64 r2]) W) : Rl.comesToR Try.prog S ((execOp a.eval o).run Try.prog W) := by
  refine Rl.comesToR_ok (v := .agg #[.int .i64 r1, .int .i64 r2]) ?_ h
  unfold execOp
  simp only [ho, hx]
  go_simp
/-- how often x stands among the first i -/
def cntP (l : List (Int × Int)) (x : Int × Int) (i : Nat) : Nat := (l.take i).countP (fun y => y.1 == x.1 && y.2 == x.2)
theorem cntP_succ (l : List (Int × Int)) (x : Int × Int) {i : Nat} (hi : i < l.length) : cntP l x (i + 1) = cntP l x i + if ((l.getD i (0, 0)).1 == x.1 && (l.getD i (0, 0)).2 == x.2) = true then 1 else 0 := by
  unfold cntP
  rw [List.take_add_one, List.countP_append, List.getElem?_eq_getElem hi]
  simp [List.getD, List.getElem?_eq_getElem hi, List.countP_cons]
theorem cntP_le (l : List (Int × Int)) (x : Int × Int) (i : Nat) : cntP l x i ≤ i := by
  unfold cntP
  exact Nat.le_trans List.countP_le_length (by simp; omega)
theorem cntP_perm {l m : List (Int × Int)} (h : m.Perm l) (x : Int × Int) {n : Nat} (hl : n = l.length) : cntP m x n = cntP l x n := by
  unfold cntP
  rw [List.take_of_length_le (by rw [h.length_eq]; omega), List.take_of_length_le (by omega)]
  exact h.countP_eq _
theorem less_below (x1 x2 y1 y2 : Int) (r : Bool) (h : lessB (x1, x2) (y1, y2) = r) (W : World) : Calls Try.prog 49 #[.agg #[.int .i64 x1, .int .i64 x2], .agg #[.int .i64 y1, .int .i64 y2]] W fun e w' => e = .returned (.bool r) ∧ Below W.heap.size W w' :=
  Calls.mono (less_is x1 x2 y1 y2 r h W) fun _ _ ⟨h1, h2⟩ => ⟨h1, h2.below⟩
/-- the rows of a round -/
structure RowAt2 (X : World) (b off : Nat) (i : Nat) (p1 p2 : Int) : Prop where
  c0 : X.cell? ⟨b, off + i * 2, none⟩ = some (.int .i64 p1)
  c1 : X.cell? ⟨b, off + i * 2 + 1, none⟩ = some (.int .i64 p2)
theorem RowP.at {w : World} {a : Option Addr} {n c : Nat} {l : List (Int × Int)} (h : RowP w (.slice a n c) l) {i : Nat} (hi : i < l.length) : ∃ b off, a = some ⟨b, off, none⟩ ∧ b < w.heap.size ∧ ∀ k, k < l.length → RowAt2 w b off k (l.getD k (0, 0)).1 (l.getD k (0, 0)).2 := by
  obtain ⟨a', c', h1, h2, h3⟩ := h
  injection h1 with e1 e2 e3
  subst e1
  obtain ⟨b, off, e, hc⟩ := h3 (by omega)
  exact ⟨b, off, e, World.block_lt_of_cell? w _ (hc i hi).1, fun k hk => ⟨(hc k hk).1, (hc k hk).2⟩⟩
theorem RowAt2.below {w w' : World} {b off i : Nat} {p1 p2 : Int} (h : RowAt2 w b off i p1 p2) (hb : Below w.heap.size w w') : RowAt2 w' b off i p1 p2 :=
  ⟨(hb.cell (World.block_lt_of_cell? w _ h.c0)).trans h.c0, (hb.cell (World.block_lt_of_cell? w _ h.c1)).trans h.c1⟩
set_option maxRecDepth 100000 in
set_option maxHeartbeats 16000000 in
theorem keeps_walk (a : Option Addr) (n0 c : Nat) (zs : List (Int × Int)) (x1 x2 : Int) (w : World) (hr0 : RowP w (.slice a n0 c) zs) (hn0 : zs.length = n0) :
    Calls Try.prog 10 #[.slice a n0 c, .agg #[.int .i64 x1, .int .i64 x2]] w fun e w' => e = .returned (.bool true) ∧ Below w.heap.size w w' := by
  have hmx : Try.prog.follows .mixedOrders = true := by kernel_rfl
  obtain ⟨l, hl⟩ : ∃ l, l = zs.take 100 := ⟨_, rfl⟩
  obtain ⟨n, hn⟩ : ∃ n, n = l.length := ⟨_, rfl⟩
  have hn100 : n ≤ 100 := by rw [hn, hl]; simp; omega
  have hbx := below_alloc (Below.refl _ w) (.cells #[.int .i64 x1, .int .i64 x2] 97)
  have HX := Lib.hid (World.alloc_heap_new w (.cells #[.int .i64 x1, .int .i64 x2] 97))
  have HR := Lib.hid (show RowP w (.slice a n c) l from by
    by_cases h : zs.length ≤ 100
    · have e : l = zs := by rw [hl, List.take_of_length_le h]
      rw [hn, e, hn0]; exact hr0
    · have e : n = 100 := by rw [hn, hl]; simp; omega
      rw [e, hl]; exact hr0.take 100 (by omega))
  have HN := Lib.hid (show (if 100 < n0 then 100 else n0) = n from by rw [hn, hl, ← hn0]; simp only [List.length_take]; split <;> omega)
  have HC := Lib.hid (show n0 ≤ c from by obtain ⟨a', c', h1, h2, _⟩ := hr0; injection h1 with _ _ e3; rw [← hn0, e3]; exact h2)
  have HNL := Lib.hid hn
  clear hr0 hl hn
  go_enter Try.func10, Try.ntmps10
  go_upto_region 1 with fail
  have HB0 := Lib.hid hbx
  generalize w.alloc (.cells #[.int .i64 x1, .int .i64 x2] 97) = W0 at *
  obtain ⟨X, hX⟩ : ∃ X, X = w.heap.size := ⟨_, rfl⟩
  rw [← hX] at HX ⊢
  have HXX := Lib.hid hX
  clear hX hbx
  obtain ⟨ba, hba⟩ : ∃ ba, ba = decide (100 < n0) := ⟨_, rfl⟩
  have hd1 : decide ((n0 : Int) > 100) = ba := by rw [hba]; exact decide_eq_decide.2 (by omega)
  have hd2 : decide ((100 : Int) < (n0 : Int)) = ba := by rw [hba]; exact decide_eq_decide.2 (by omega)
  have hd3 : decide (100 < n0) = ba := hba.symm
  have HBA := Lib.hid hba
  clear hba
  go_upto_if 12 with fail
  clear hd1 hd2 hd3
  go_cut [0] (fun s wx => s = .slice a n c ∧ wx = W0)
  case first =>
    cases ba with
    | true =>
      have hgt : 100 < n0 := by simpa using HBA.out.symm
      have hn1 : n = 100 := by rw [← HN.out, if_pos hgt]
      subst hn1
      have hc1 : ((100 : Nat) : Int) ≤ (c : Int) := by have := HC.out; omega
      have hc2 : (100 : Int) ≤ (c : Int) := by have := HC.out; omega
      have hc3 : 100 ≤ c := by have := HC.out; omega
      go_wp2_with fail
      go_meet
      exact ⟨rfl, rfl⟩
    | false =>
      have hgt : ¬ 100 < n0 := by simpa using HBA.out.symm
      have hn1 : n = n0 := by rw [← HN.out, if_neg hgt]
      subst hn1
      go_wp2_with fail
      go_meet
      exact ⟨rfl, rfl⟩
  case rest =>
  obtain ⟨rfl, rfl⟩ := hcut
  clear HBA HC HN
  have HR0 := Lib.hid (HR.out.below HB0.out)
  have hlm : l.length ≤ 1000000 := by have := HNL.out; omega
  have K1 := Lib.hid (psort_any HR0.out hlm)
  obtain ⟨M, hM⟩ : ∃ M, M = Ss.isort lessB l := ⟨_, rfl⟩
  have HMP := Lib.hid (show M.Perm l from by rw [hM]; exact Ss.isort_perm _ _)
  have HMS := Lib.hid (show Ss.Srt lessB M from by rw [hM]; exact Ss.isort_srt swoP _)
  have HML := Lib.hid (show M.length = n from by rw [HNL.out, hM]; exact Ss.isort_length _ _)
  rw [← hM] at K1
  have HMI := Lib.hid (show Ss.isort lessB M = M from Ss.isort_id HMS.out)
  clear hM hlm
  go_wp2_with fail
  refine K1.out.mono ?_
  rintro e W1 ⟨vm, rfl, hom, hb1⟩
  have HM1 := Lib.hid hom.rowP
  have HB1 := Lib.hid hb1
  have K2 := Lib.hid (psort_any hom.rowP (by have := HML.out; omega))
  rw [HMI.out] at K2
  obtain ⟨am, cm, rfl⟩ : ∃ am cm, vm = .slice am n cm := by obtain ⟨am, cm, h1, _⟩ := hom.rowP; rw [HML.out] at h1; exact ⟨am, cm, h1⟩
  clear hom hb1 K1
  go_wp2_with fail
  refine K2.out.mono ?_
  rintro e W2 ⟨vk, rfl, hok, hb2⟩
  have HK2 := Lib.hid hok.rowP
  obtain ⟨ak, ck, rfl⟩ : ∃ ak ck, vk = .slice ak n ck := by obtain ⟨am, cm, h1, _⟩ := hok.rowP; rw [HML.out] at h1; exact ⟨am, cm, h1⟩
  have HM2 := Lib.hid (HM1.out.below hb2)
  have HR2 := Lib.hid ((HR0.out.below HB1.out).below hb2)
  have HX2 := Lib.hid (show W2.heap[X]? = some (.cells #[.int .i64 x1, .int .i64 x2] 97 (0, 0)) from by
    have hlt := (Array.getElem?_eq_some_iff.1 HX.out).1
    exact (hb2.block X (Nat.lt_of_lt_of_le hlt HB1.out.size)).trans ((HB1.out.block X hlt).trans HX.out))
  have HB2 := Lib.hid (below_next (below_next HB0.out HB1.out) hb2)
  clear hok hb2 K2 HM1 HB1 HR0 HX
  have ne0 : ((n : Int) != (n : Int)) = false := by simp
  go_wp2_with fail
  clear ne0
  go_loopw [7, 8, 9] (fun sm sw si wr => ∃ i : Nat, i ≤ n ∧ sm = .int .i64 (cntP M (x1, x2) i) ∧ sw = .int .i64 (cntP l (x1, x2) i) ∧ si = .int .i64 i ∧ Below W2.heap.size W2 wr) (fun _ _ si _ => n - (intOf si).toNat)
  case atStart => exact ⟨0, Nat.zero_le _, rfl, rfl, rfl, Below.refl _ _⟩
  case round =>
    obtain ⟨i, hin, rfl, rfl, rfl, hbr⟩ := hrel
    have HBR := Lib.hid hbr
    clear hbr
    by_cases hlt : i < n
    case pos =>
      obtain ⟨bl, ol, rfl, hll, hLc⟩ := HR2.out.at (i := i) (by have := HNL.out; omega)
      obtain ⟨bm, om, rfl, hml, hMc⟩ := HM2.out.at (i := i) (by have := HML.out; omega)
      obtain ⟨bk, ok, rfl, hkl, hKc⟩ := HK2.out.at (i := i) (by have := HML.out; omega)
      have C1 := Lib.hid (cntP_succ l (x1, x2) (i := i) (by have := HNL.out; omega))
      have C2 := Lib.hid (cntP_succ M (x1, x2) (i := i) (by have := HML.out; omega))
      have hcl := cntP_le l (x1, x2) i
      have hcm := cntP_le M (x1, x2) i
      have XL := Lib.hid (fun (Y : World) (hY : Below W2.heap.size W2 Y) => (hLc i (by have := HNL.out; omega)).below hY)
      have XM := Lib.hid (fun (Y : World) (hY : Below W2.heap.size W2 Y) => (hMc i (by have := HML.out; omega)).below hY)
      have XK := Lib.hid (fun (Y : World) (hY : Below W2.heap.size W2 Y) => (hKc i (by have := HML.out; omega)).below hY)
      have XX := Lib.hid (fun (Y : World) (hY : Below W2.heap.size W2 Y) => (show Y.cell? ⟨X, 0, none⟩ = some (.int .i64 x1) ∧ Y.cell? ⟨X, 1, none⟩ = some (.int .i64 x2) from by
        have hb := (hY.block X (Array.getElem?_eq_some_iff.1 HX2.out).1).trans HX2.out
        exact ⟨cell_of_block (o := 0) hb rfl, cell_of_block (o := 1) hb rfl⟩))
      have XP := Lib.hid (fun (h0 : 0 < i) (Y : World) (hY : Below W2.heap.size W2 Y) => (hMc (i - 1) (by have := HML.out; omega)).below hY)
      have HLE := Lib.hid (fun (h0 : 0 < i) => (show lessB (M.getD i (0, 0)) (M.getD (i - 1) (0, 0)) = false from by
        have h1 : i < M.length := by have := HML.out; omega
        have h2 : i - 1 < M.length := by omega
        have := List.pairwise_iff_getElem.1 HMS.out (i - 1) i h2 h1 (by omega)
        simpa [List.getD, h1, h2] using this))
      clear hLc hMc hKc hll hml hkl
      generalize M.getD i (0, 0) = q at *
      generalize M.getD (i - 1) (0, 0) = q0 at *
      generalize l.getD i (0, 0) = p at *
      obtain ⟨p1, p2⟩ := p
      obtain ⟨q1, q2⟩ := q
      obtain ⟨r1, r2⟩ := q0
      dsimp only at C1 C2 XL XM XK XP
      obtain ⟨ep, hep⟩ : ∃ e, e = (p1 == x1 && p2 == x2) := ⟨_, rfl⟩
      obtain ⟨eq_, heq⟩ : ∃ e, e = (q1 == x1 && q2 == x2) := ⟨_, rfl⟩
      rw [← hep] at C1
      rw [← heq] at C2
      have KEP := Lib.hid (fun (Y : World) => eqinI p1 p2 x1 x2 Y)
      have KEQ := Lib.hid (fun (Y : World) => eqinI q1 q2 x1 x2 Y)
      have KEK := Lib.hid (fun (Y : World) => (show (Op.equalIn 10000 97 (.agg #[.int .i64 q1, .int .i64 q2]) (.agg #[.int .i64 q1, .int .i64 q2])).run Try.prog Y = .ok true Y from by rw [eqinI]; simp))
      rw [← hep] at KEP
      rw [← heq] at KEQ
      have HEP := Lib.hid hep
      clear hep heq
      generalize hu : cntP l (x1, x2) i = u at *
      generalize hv : cntP M (x1, x2) i = v at *
      clear hu hv
      have hltI : (i : Int) < (n : Int) := by omega
      have hw1 : IntKind.i64.wrap ((i : Int) + 1) = (i : Int) + 1 := by rw [IntKind.wrap_i64]; omega
      have hwu : IntKind.i64.wrap ((u : Int) + 1) = (u : Int) + 1 := by rw [IntKind.wrap_i64]; omega
      have hwv : IntKind.i64.wrap ((v : Int) + 1) = (v : Int) + 1 := by rw [IntKind.wrap_i64]; omega
      have HLT := Lib.hid hlt
      have HCU := Lib.hid (And.intro hcl hcm)
      clear hlt hin hcl hcm
      go_upto_region 11 with fail
      refine Rl.wp_region_rel (fun a b => Below a.heap.size a b) wr (fun a b c h h' => below_next h h') (fun a => Below.refl _ _) hmx (by kernel_rfl) (Below.refl _ _).drew ?_
      iterate 3 (refine Rl.textR_run ?_ (fun ρ => ?_) (fun ρ W hS hd => ?_) ?_; rotate_left; (focus go_simp); (focus (obtain ⟨hc, hf⟩ := bcell hS; go_simp; first | exact ⟨rfl, Below.refl _ _⟩ | (refine ⟨?_, Below.refl _ _⟩; rfl))); (try go_simp))
      refine Rl.textR_run (.agg #[.int .i64 p1, .int .i64 p2]) (fun ρ => ?_) (fun ρ W hS hd => ?_) ?_
      · go_simp
      · exact comesToR_load2 _ rfl (b := bl) (off := ol + i * 2) (by go_simp) (XL.out W (below_next HBR.out hS)).c0 (XL.out W (below_next HBR.out hS)).c1 ⟨rfl, Below.refl _ _⟩
      (try go_simp)
      refine Rl.textR_run (.agg #[.int .i64 x1, .int .i64 x2]) (fun ρ => ?_) (fun ρ W hS hd => ?_) ?_
      · go_simp
      · exact comesToR_load2 _ rfl (b := X) (off := 0) (by go_simp) (XX.out W (below_next HBR.out hS)).1 (XX.out W (below_next HBR.out hS)).2 ⟨rfl, Below.refl _ _⟩
      (try go_simp)
      refine Rl.textR_run (.bool ep) (fun ρ => ?_) (fun ρ W hS hd => ?_) ?_
      · go_simp
      · exact Rl.comesToR_eql 97 _ _ _ rfl _ _ (by go_simp) (by go_simp) (by kernel_rfl) (KEP.out W) ⟨rfl, Below.refl _ _⟩
      (try go_simp)
      refine Rl.textR_nil ?_
      intro ρ wz hg hk
      dsimp only
      have HBS := Lib.hid (below_next HBR.out hg)
      clear hg hk
      go_simp
      obtain ⟨wy, hwy⟩ : ∃ wy, wy = wz := ⟨_, rfl⟩
      subst hwy
      go_upto_if 42 with fail
      go_cut [8] (fun s wx => s = .int .i64 (if ep = true then (u : Int) + 1 else (u : Int)) ∧ wx = wy)
      case first =>
        cases ep with
        | true =>
          go_wp2_with fail
          go_meet
          exact ⟨by simp, rfl⟩
        | false =>
          go_wp2_with fail
          go_meet
          exact ⟨by simp, rfl⟩
      case rest =>
      obtain ⟨rfl, rfl⟩ := hcut
      obtain ⟨u2, hu2⟩ : ∃ z : Int, z = if ep = true then (u : Int) + 1 else (u : Int) := ⟨_, rfl⟩
      rw [← hu2]
      have HU2 := Lib.hid hu2
      clear hu2
      go_upto_region 13 with fail
      refine Rl.wp_region_rel (fun a b => Below a.heap.size a b) wc (fun a b c h h' => below_next h h') (fun a => Below.refl _ _) hmx (by kernel_rfl) (Below.refl _ _).drew ?_
      iterate 3 (refine Rl.textR_run ?_ (fun ρ => ?_) (fun ρ W hS hd => ?_) ?_; rotate_left; (focus go_simp); (focus (obtain ⟨hc, hf⟩ := bcell hS; go_simp; first | exact ⟨rfl, Below.refl _ _⟩ | (refine ⟨?_, Below.refl _ _⟩; rfl))); (try go_simp))
      refine Rl.textR_run (.agg #[.int .i64 q1, .int .i64 q2]) (fun ρ => ?_) (fun ρ W hS hd => ?_) ?_
      · go_simp
      · exact comesToR_load2 _ rfl (b := bm) (off := om + i * 2) (by go_simp) (XM.out W (below_next HBS.out hS)).c0 (XM.out W (below_next HBS.out hS)).c1 ⟨rfl, Below.refl _ _⟩
      (try go_simp)
      refine Rl.textR_run (.agg #[.int .i64 x1, .int .i64 x2]) (fun ρ => ?_) (fun ρ W hS hd => ?_) ?_
      · go_simp
      · exact comesToR_load2 _ rfl (b := X) (off := 0) (by go_simp) (XX.out W (below_next HBS.out hS)).1 (XX.out W (below_next HBS.out hS)).2 ⟨rfl, Below.refl _ _⟩
      (try go_simp)
      refine Rl.textR_run (.bool eq_) (fun ρ => ?_) (fun ρ W hS hd => ?_) ?_
      · go_simp
      · exact Rl.comesToR_eql 97 _ _ _ rfl _ _ (by go_simp) (by go_simp) (by kernel_rfl) (KEQ.out W) ⟨rfl, Below.refl _ _⟩
      (try go_simp)
      refine Rl.textR_nil ?_
      intro ρ wz hg hk
      dsimp only
      have HBT := Lib.hid (below_next HBS.out hg)
      clear hg hk
      go_simp
      go_upto_if 50 with fail
      go_cut [7] (fun s wx => s = .int .i64 (if eq_ = true then (v : Int) + 1 else (v : Int)) ∧ wx = wz)
      case first =>
        cases eq_ with
        | true =>
          go_wp2_with fail
          go_meet
          exact ⟨by simp, rfl⟩
        | false =>
          go_wp2_with fail
          go_meet
          exact ⟨by simp, rfl⟩
      case rest =>
      obtain ⟨rfl, rfl⟩ := hcut
      obtain ⟨v2, hv2⟩ : ∃ z : Int, z = if eq_ = true then (v : Int) + 1 else (v : Int) := ⟨_, rfl⟩
      rw [← hv2]
      have HV2 := Lib.hid hv2
      clear hv2
      go_upto_region 15 with fail
      go_cut [77] (fun s wx => s = .bool false ∧ Below W2.heap.size W2 wx)
      case first =>
        by_cases hi0 : 0 < i
        case pos =>
          obtain ⟨i1, hi1⟩ : ∃ z, z = i - 1 := ⟨_, rfl⟩
          have ei1 : (i : Int) - 1 = (i1 : Int) := by omega
          have ri1 : IntKind.i64.wrap (i1 : Int) = (i1 : Int) := by have := HLT.out; rw [IntKind.wrap_i64]; omega
          have hin1 : (i1 : Int) < (n : Int) := by have := HLT.out; omega
          have XPi := Lib.hid (XP.out hi0)
          rw [← hi1] at XPi
          have KLE := Lib.hid (fun (Y : World) => less_below q1 q2 r1 r2 false (HLE.out hi0) Y)
          have hgi : decide ((i : Int) > 0) = true := decide_eq_true (by omega)
          have hgi2 : decide ((0 : Int) < (i : Int)) = true := decide_eq_true (by omega)
          have hgi3 : decide (0 < i) = true := decide_eq_true hi0
          have hgi4 : (0 : Int) < (i : Int) := by omega
          clear hi1
          refine Rl.wp_region_rel (fun a b => Below a.heap.size a b) wc (fun a b c h h' => below_next h h') (fun a => Below.refl _ _) hmx (by kernel_rfl) (Below.refl _ _).drew ?_
          iterate 3 (refine Rl.textR_run ?_ (fun ρ => ?_) (fun ρ W hS hd => ?_) ?_; rotate_left; (focus go_simp); (focus (obtain ⟨hc, hf⟩ := bcell hS; go_simp; first | exact ⟨rfl, Below.refl _ _⟩ | (refine ⟨?_, Below.refl _ _⟩; rfl))); (try go_simp))
          refine Rl.textR_run (.agg #[.int .i64 q1, .int .i64 q2]) (fun ρ => ?_) (fun ρ W hS hd => ?_) ?_
          · go_simp
          · exact comesToR_load2 _ rfl (b := bk) (off := ok + i * 2) (by go_simp) (XK.out W (below_next HBT.out hS)).c0 (XK.out W (below_next HBT.out hS)).c1 ⟨rfl, Below.refl _ _⟩
          (try go_simp)
          iterate 3 (refine Rl.textR_run ?_ (fun ρ => ?_) (fun ρ W hS hd => ?_) ?_; rotate_left; (focus go_simp); (focus (obtain ⟨hc, hf⟩ := bcell hS; go_simp; first | exact ⟨rfl, Below.refl _ _⟩ | (refine ⟨?_, Below.refl _ _⟩; rfl))); (try go_simp))
          refine Rl.textR_run (.agg #[.int .i64 q1, .int .i64 q2]) (fun ρ => ?_) (fun ρ W hS hd => ?_) ?_
          · go_simp
          · exact comesToR_load2 _ rfl (b := bm) (off := om + i * 2) (by go_simp) (XM.out W (below_next HBT.out hS)).c0 (XM.out W (below_next HBT.out hS)).c1 ⟨rfl, Below.refl _ _⟩
          (try go_simp)
          refine Rl.textR_run (.bool false) (fun ρ => ?_) (fun ρ W hS hd => ?_) ?_
          · go_simp
          · exact Rl.comesToR_neq 97 _ _ _ rfl _ _ (by go_simp) (by go_simp) (by kernel_rfl) (KEK.out W) ⟨rfl, Below.refl _ _⟩
          (try go_simp)
          iterate 7 (refine Rl.textR_run ?_ (fun ρ => ?_) (fun ρ W hS hd => ?_) ?_; rotate_left; (focus go_simp); (focus (obtain ⟨hc, hf⟩ := bcell hS; go_simp; first | exact ⟨rfl, Below.refl _ _⟩ | (refine ⟨?_, Below.refl _ _⟩; rfl))); (try go_simp))
          refine Rl.textR_run (.agg #[.int .i64 q1, .int .i64 q2]) (fun ρ => ?_) (fun ρ W hS hd => ?_) ?_
          · go_simp
          · exact comesToR_load2 _ rfl (b := bm) (off := om + i * 2) (by go_simp) (XM.out W (below_next HBT.out hS)).c0 (XM.out W (below_next HBT.out hS)).c1 ⟨rfl, Below.refl _ _⟩
          (try go_simp)
          iterate 4 (refine Rl.textR_run ?_ (fun ρ => ?_) (fun ρ W hS hd => ?_) ?_; rotate_left; (focus go_simp); (focus (obtain ⟨hc, hf⟩ := bcell hS; go_simp; first | exact ⟨rfl, Below.refl _ _⟩ | (refine ⟨?_, Below.refl _ _⟩; rfl))); (try go_simp))
          refine Rl.textR_run (.agg #[.int .i64 r1, .int .i64 r2]) (fun ρ => ?_) (fun ρ W hS hd => ?_) ?_
          · go_simp
          · exact comesToR_load2 _ rfl (b := bm) (off := om + i1 * 2) (by go_simp) (XPi.out W (below_next HBT.out hS)).c0 (XPi.out W (below_next HBT.out hS)).c1 ⟨rfl, Below.refl _ _⟩
          (try go_simp)
          (refine Rl.textR_run ?_ (fun ρ => ?_) (fun ρ W hS hd => ?_) ?_; rotate_left; (focus go_simp); (focus (obtain ⟨hc, hf⟩ := bcell hS; go_simp; refine (KLE.out W).mono ?_; rintro e w1 ⟨rfl, hb⟩; refine ⟨_, rfl, ?_, hb⟩; rfl)); (try go_simp))
          iterate 2 (refine Rl.textR_run ?_ (fun ρ => ?_) (fun ρ W hS hd => ?_) ?_; rotate_left; (focus go_simp); (focus (obtain ⟨hc, hf⟩ := bcell hS; go_simp; first | exact ⟨rfl, Below.refl _ _⟩ | (refine ⟨?_, Below.refl _ _⟩; rfl))); (try go_simp))
          refine Rl.textR_nil ?_
          intro ρ wz hg hk
          dsimp only
          have HBU := Lib.hid (below_next HBT.out hg)
          clear hg hk
          go_simp
          go_wp2_with fail
          go_meet
          exact ⟨rfl, HBU.out⟩
        case neg =>
          obtain rfl : i = 0 := by omega
          have h0n : (0 : Int) < (n : Int) := by have := HLT.out; omega
          have h0n2 : 0 < n := HLT.out
          refine Rl.wp_region_rel (fun a b => Below a.heap.size a b) wc (fun a b c h h' => below_next h h') (fun a => Below.refl _ _) hmx (by kernel_rfl) (Below.refl _ _).drew ?_
          iterate 3 (refine Rl.textR_run ?_ (fun ρ => ?_) (fun ρ W hS hd => ?_) ?_; rotate_left; (focus go_simp); (focus (obtain ⟨hc, hf⟩ := bcell hS; go_simp; first | exact ⟨rfl, Below.refl _ _⟩ | (refine ⟨?_, Below.refl _ _⟩; rfl))); (try go_simp))
          refine Rl.textR_run (.agg #[.int .i64 q1, .int .i64 q2]) (fun ρ => ?_) (fun ρ W hS hd => ?_) ?_
          · go_simp
          · exact comesToR_load2 _ rfl (b := bk) (off := ok) (by go_simp) (by simpa using (XK.out W (below_next HBT.out hS)).c0) (by simpa using (XK.out W (below_next HBT.out hS)).c1) ⟨rfl, Below.refl _ _⟩
          (try go_simp)
          iterate 3 (refine Rl.textR_run ?_ (fun ρ => ?_) (fun ρ W hS hd => ?_) ?_; rotate_left; (focus go_simp); (focus (obtain ⟨hc, hf⟩ := bcell hS; go_simp; first | exact ⟨rfl, Below.refl _ _⟩ | (refine ⟨?_, Below.refl _ _⟩; rfl))); (try go_simp))
          refine Rl.textR_run (.agg #[.int .i64 q1, .int .i64 q2]) (fun ρ => ?_) (fun ρ W hS hd => ?_) ?_
          · go_simp
          · exact comesToR_load2 _ rfl (b := bm) (off := om) (by go_simp) (by simpa using (XM.out W (below_next HBT.out hS)).c0) (by simpa using (XM.out W (below_next HBT.out hS)).c1) ⟨rfl, Below.refl _ _⟩
          (try go_simp)
          refine Rl.textR_run (.bool false) (fun ρ => ?_) (fun ρ W hS hd => ?_) ?_
          · go_simp
          · exact Rl.comesToR_neq 97 _ _ _ rfl _ _ (by go_simp) (by go_simp) (by kernel_rfl) (KEK.out W) ⟨rfl, Below.refl _ _⟩
          (try go_simp)
          iterate 4 (refine Rl.textR_run ?_ (fun ρ => ?_) (fun ρ W hS hd => ?_) ?_; rotate_left; (focus go_simp); (focus (obtain ⟨hc, hf⟩ := bcell hS; go_simp; first | exact ⟨rfl, Below.refl _ _⟩ | (refine ⟨?_, Below.refl _ _⟩; rfl))); (try go_simp))
          iterate 10 (refine Rl.textR_skip (fun ρ => ?_) ?_; (focus (first | rfl | (go_simp; done) | (go_simp; rfl))); (try go_simp))
          iterate 2 (refine Rl.textR_run ?_ (fun ρ => ?_) (fun ρ W hS hd => ?_) ?_; rotate_left; (focus go_simp); (focus (obtain ⟨hc, hf⟩ := bcell hS; go_simp; first | exact ⟨rfl, Below.refl _ _⟩ | (refine ⟨?_, Below.refl _ _⟩; rfl))); (try go_simp))
          refine Rl.textR_nil ?_
          intro ρ wz hg hk
          dsimp only
          have HBU := Lib.hid (below_next HBT.out hg)
          clear hg hk
          go_simp
          go_wp2_with fail
          go_meet
          exact ⟨rfl, HBU.out⟩
      case rest =>
      obtain ⟨rfl, hbu⟩ := hcut
      have HBV := Lib.hid hbu
      clear hbu XP HLE KEK HBT HBS
      go_upto_region 17 with fail
      go_cut [117] (fun s wx => s = .bool false ∧ Below W2.heap.size W2 wx)
      case first =>
        cases hpx : lessB (p1, p2) (x1, x2) with
        | true =>
          have hxp : lessB (x1, x2) (p1, p2) = false := Ss.SWO.asymm swoP hpx
          have KA := Lib.hid (fun (Y : World) => less_below p1 p2 x1 x2 true hpx Y)
          have KB := Lib.hid (fun (Y : World) => less_below x1 x2 p1 p2 false hxp Y)
          clear hpx hxp
          refine Rl.wp_region_rel (fun a b => Below a.heap.size a b) wc (fun a b c h h' => below_next h h') (fun a => Below.refl _ _) hmx (by kernel_rfl) (Below.refl _ _).drew ?_
          iterate 3 (refine Rl.textR_run ?_ (fun ρ => ?_) (fun ρ W hS hd => ?_) ?_; rotate_left; (focus go_simp); (focus (obtain ⟨hc, hf⟩ := bcell hS; go_simp; first | exact ⟨rfl, Below.refl _ _⟩ | (refine ⟨?_, Below.refl _ _⟩; rfl))); (try go_simp))
          refine Rl.textR_run (.agg #[.int .i64 p1, .int .i64 p2]) (fun ρ => ?_) (fun ρ W hS hd => ?_) ?_
          · go_simp
          · exact comesToR_load2 _ rfl (b := bl) (off := ol + i * 2) (by go_simp) (XL.out W (below_next HBV.out hS)).c0 (XL.out W (below_next HBV.out hS)).c1 ⟨rfl, Below.refl _ _⟩
          (try go_simp)
          refine Rl.textR_run (.agg #[.int .i64 x1, .int .i64 x2]) (fun ρ => ?_) (fun ρ W hS hd => ?_) ?_
          · go_simp
          · exact comesToR_load2 _ rfl (b := X) (off := 0) (by go_simp) (XX.out W (below_next HBV.out hS)).1 (XX.out W (below_next HBV.out hS)).2 ⟨rfl, Below.refl _ _⟩
          (try go_simp)
          (refine Rl.textR_run ?_ (fun ρ => ?_) (fun ρ W hS hd => ?_) ?_; rotate_left; (focus go_simp); (focus (obtain ⟨hc, hf⟩ := bcell hS; go_simp; refine (KA.out W).mono ?_; rintro e w1 ⟨rfl, hb⟩; refine ⟨_, rfl, ?_, hb⟩; rfl)); (try go_simp))
          (refine Rl.textR_run ?_ (fun ρ => ?_) (fun ρ W hS hd => ?_) ?_; rotate_left; (focus go_simp); (focus (obtain ⟨hc, hf⟩ := bcell hS; go_simp; first | exact ⟨rfl, Below.refl _ _⟩ | (refine ⟨?_, Below.refl _ _⟩; rfl))); (try go_simp))
          refine Rl.textR_run (.agg #[.int .i64 x1, .int .i64 x2]) (fun ρ => ?_) (fun ρ W hS hd => ?_) ?_
          · go_simp
          · exact comesToR_load2 _ rfl (b := X) (off := 0) (by go_simp) (XX.out W (below_next HBV.out hS)).1 (XX.out W (below_next HBV.out hS)).2 ⟨rfl, Below.refl _ _⟩
          (try go_simp)
          iterate 3 (refine Rl.textR_run ?_ (fun ρ => ?_) (fun ρ W hS hd => ?_) ?_; rotate_left; (focus go_simp); (focus (obtain ⟨hc, hf⟩ := bcell hS; go_simp; first | exact ⟨rfl, Below.refl _ _⟩ | (refine ⟨?_, Below.refl _ _⟩; rfl))); (try go_simp))
          refine Rl.textR_run (.agg #[.int .i64 p1, .int .i64 p2]) (fun ρ => ?_) (fun ρ W hS hd => ?_) ?_
          · go_simp
          · exact comesToR_load2 _ rfl (b := bl) (off := ol + i * 2) (by go_simp) (XL.out W (below_next HBV.out hS)).c0 (XL.out W (below_next HBV.out hS)).c1 ⟨rfl, Below.refl _ _⟩
          (try go_simp)
          (refine Rl.textR_run ?_ (fun ρ => ?_) (fun ρ W hS hd => ?_) ?_; rotate_left; (focus go_simp); (focus (obtain ⟨hc, hf⟩ := bcell hS; go_simp; refine (KB.out W).mono ?_; rintro e w1 ⟨rfl, hb⟩; refine ⟨_, rfl, ?_, hb⟩; rfl)); (try go_simp))
          iterate 2 (refine Rl.textR_run ?_ (fun ρ => ?_) (fun ρ W hS hd => ?_) ?_; rotate_left; (focus go_simp); (focus (obtain ⟨hc, hf⟩ := bcell hS; go_simp; first | exact ⟨rfl, Below.refl _ _⟩ | (refine ⟨?_, Below.refl _ _⟩; rfl))); (try go_simp))
          iterate 3 (refine Rl.textR_run ?_ (fun ρ => ?_) (fun ρ W hS hd => ?_) ?_; rotate_left; (focus go_simp); (focus (obtain ⟨hc, hf⟩ := bcell hS; go_simp; first | exact ⟨rfl, Below.refl _ _⟩ | (refine ⟨?_, Below.refl _ _⟩; rfl))); (try go_simp))
          refine Rl.textR_run (.agg #[.int .i64 p1, .int .i64 p2]) (fun ρ => ?_) (fun ρ W hS hd => ?_) ?_
          · go_simp
          · exact comesToR_load2 _ rfl (b := bl) (off := ol + i * 2) (by go_simp) (XL.out W (below_next HBV.out hS)).c0 (XL.out W (below_next HBV.out hS)).c1 ⟨rfl, Below.refl _ _⟩
          (try go_simp)
          refine Rl.textR_run (.agg #[.int .i64 x1, .int .i64 x2]) (fun ρ => ?_) (fun ρ W hS hd => ?_) ?_
          · go_simp
          · exact comesToR_load2 _ rfl (b := X) (off := 0) (by go_simp) (XX.out W (below_next HBV.out hS)).1 (XX.out W (below_next HBV.out hS)).2 ⟨rfl, Below.refl _ _⟩
          (try go_simp)
          (refine Rl.textR_run ?_ (fun ρ => ?_) (fun ρ W hS hd => ?_) ?_; rotate_left; (focus go_simp); (focus (obtain ⟨hc, hf⟩ := bcell hS; go_simp; refine (KA.out W).mono ?_; rintro e w1 ⟨rfl, hb⟩; refine ⟨_, rfl, ?_, hb⟩; rfl)); (try go_simp))
          iterate 2 (refine Rl.textR_run ?_ (fun ρ => ?_) (fun ρ W hS hd => ?_) ?_; rotate_left; (focus go_simp); (focus (obtain ⟨hc, hf⟩ := bcell hS; go_simp; first | exact ⟨rfl, Below.refl _ _⟩ | (refine ⟨?_, Below.refl _ _⟩; rfl))); (try go_simp))
          iterate 7 (refine Rl.textR_skip (fun ρ => ?_) ?_; (focus (first | rfl | (go_simp; done) | (go_simp; rfl))); (try go_simp))
          iterate 2 (refine Rl.textR_run ?_ (fun ρ => ?_) (fun ρ W hS hd => ?_) ?_; rotate_left; (focus go_simp); (focus (obtain ⟨hc, hf⟩ := bcell hS; go_simp; first | exact ⟨rfl, Below.refl _ _⟩ | (refine ⟨?_, Below.refl _ _⟩; rfl))); (try go_simp))
          iterate 6 (refine Rl.textR_skip (fun ρ => ?_) ?_; (focus (first | rfl | (go_simp; done) | (go_simp; rfl))); (try go_simp))
          iterate 2 (refine Rl.textR_run ?_ (fun ρ => ?_) (fun ρ W hS hd => ?_) ?_; rotate_left; (focus go_simp); (focus (obtain ⟨hc, hf⟩ := bcell hS; go_simp; first | exact ⟨rfl, Below.refl _ _⟩ | (refine ⟨?_, Below.refl _ _⟩; rfl))); (try go_simp))
          refine Rl.textR_nil ?_
          intro ρ wz hg hk
          dsimp only
          have HBW := Lib.hid (below_next HBV.out hg)
          clear hg hk
          go_simp
          go_wp2_with fail
          go_meet
          exact ⟨rfl, HBW.out⟩
        | false =>
          cases hxp : lessB (x1, x2) (p1, p2) with
          | true =>
            have KA := Lib.hid (fun (Y : World) => less_below p1 p2 x1 x2 false hpx Y)
            have KB := Lib.hid (fun (Y : World) => less_below x1 x2 p1 p2 true hxp Y)
            clear hpx hxp
            refine Rl.wp_region_rel (fun a b => Below a.heap.size a b) wc (fun a b c h h' => below_next h h') (fun a => Below.refl _ _) hmx (by kernel_rfl) (Below.refl _ _).drew ?_
            iterate 3 (refine Rl.textR_run ?_ (fun ρ => ?_) (fun ρ W hS hd => ?_) ?_; rotate_left; (focus go_simp); (focus (obtain ⟨hc, hf⟩ := bcell hS; go_simp; first | exact ⟨rfl, Below.refl _ _⟩ | (refine ⟨?_, Below.refl _ _⟩; rfl))); (try go_simp))
            refine Rl.textR_run (.agg #[.int .i64 p1, .int .i64 p2]) (fun ρ => ?_) (fun ρ W hS hd => ?_) ?_
            · go_simp
            · exact comesToR_load2 _ rfl (b := bl) (off := ol + i * 2) (by go_simp) (XL.out W (below_next HBV.out hS)).c0 (XL.out W (below_next HBV.out hS)).c1 ⟨rfl, Below.refl _ _⟩
            (try go_simp)
            refine Rl.textR_run (.agg #[.int .i64 x1, .int .i64 x2]) (fun ρ => ?_) (fun ρ W hS hd => ?_) ?_
            · go_simp
            · exact comesToR_load2 _ rfl (b := X) (off := 0) (by go_simp) (XX.out W (below_next HBV.out hS)).1 (XX.out W (below_next HBV.out hS)).2 ⟨rfl, Below.refl _ _⟩
            (try go_simp)
            (refine Rl.textR_run ?_ (fun ρ => ?_) (fun ρ W hS hd => ?_) ?_; rotate_left; (focus go_simp); (focus (obtain ⟨hc, hf⟩ := bcell hS; go_simp; refine (KA.out W).mono ?_; rintro e w1 ⟨rfl, hb⟩; refine ⟨_, rfl, ?_, hb⟩; rfl)); (try go_simp))
            (refine Rl.textR_run ?_ (fun ρ => ?_) (fun ρ W hS hd => ?_) ?_; rotate_left; (focus go_simp); (focus (obtain ⟨hc, hf⟩ := bcell hS; go_simp; first | exact ⟨rfl, Below.refl _ _⟩ | (refine ⟨?_, Below.refl _ _⟩; rfl))); (try go_simp))
            iterate 6 (refine Rl.textR_skip (fun ρ => ?_) ?_; (focus (first | rfl | (go_simp; done) | (go_simp; rfl))); (try go_simp))
            iterate 2 (refine Rl.textR_run ?_ (fun ρ => ?_) (fun ρ W hS hd => ?_) ?_; rotate_left; (focus go_simp); (focus (obtain ⟨hc, hf⟩ := bcell hS; go_simp; first | exact ⟨rfl, Below.refl _ _⟩ | (refine ⟨?_, Below.refl _ _⟩; rfl))); (try go_simp))
            iterate 3 (refine Rl.textR_run ?_ (fun ρ => ?_) (fun ρ W hS hd => ?_) ?_; rotate_left; (focus go_simp); (focus (obtain ⟨hc, hf⟩ := bcell hS; go_simp; first | exact ⟨rfl, Below.refl _ _⟩ | (refine ⟨?_, Below.refl _ _⟩; rfl))); (try go_simp))
            refine Rl.textR_run (.agg #[.int .i64 p1, .int .i64 p2]) (fun ρ => ?_) (fun ρ W hS hd => ?_) ?_
            · go_simp
            · exact comesToR_load2 _ rfl (b := bl) (off := ol + i * 2) (by go_simp) (XL.out W (below_next HBV.out hS)).c0 (XL.out W (below_next HBV.out hS)).c1 ⟨rfl, Below.refl _ _⟩
            (try go_simp)
            refine Rl.textR_run (.agg #[.int .i64 x1, .int .i64 x2]) (fun ρ => ?_) (fun ρ W hS hd => ?_) ?_
            · go_simp
            · exact comesToR_load2 _ rfl (b := X) (off := 0) (by go_simp) (XX.out W (below_next HBV.out hS)).1 (XX.out W (below_next HBV.out hS)).2 ⟨rfl, Below.refl _ _⟩
            (try go_simp)
            (refine Rl.textR_run ?_ (fun ρ => ?_) (fun ρ W hS hd => ?_) ?_; rotate_left; (focus go_simp); (focus (obtain ⟨hc, hf⟩ := bcell hS; go_simp; refine (KA.out W).mono ?_; rintro e w1 ⟨rfl, hb⟩; refine ⟨_, rfl, ?_, hb⟩; rfl)); (try go_simp))
            iterate 2 (refine Rl.textR_run ?_ (fun ρ => ?_) (fun ρ W hS hd => ?_) ?_; rotate_left; (focus go_simp); (focus (obtain ⟨hc, hf⟩ := bcell hS; go_simp; first | exact ⟨rfl, Below.refl _ _⟩ | (refine ⟨?_, Below.refl _ _⟩; rfl))); (try go_simp))
            refine Rl.textR_run (.agg #[.int .i64 x1, .int .i64 x2]) (fun ρ => ?_) (fun ρ W hS hd => ?_) ?_
            · go_simp
            · exact comesToR_load2 _ rfl (b := X) (off := 0) (by go_simp) (XX.out W (below_next HBV.out hS)).1 (XX.out W (below_next HBV.out hS)).2 ⟨rfl, Below.refl _ _⟩
            (try go_simp)
            iterate 3 (refine Rl.textR_run ?_ (fun ρ => ?_) (fun ρ W hS hd => ?_) ?_; rotate_left; (focus go_simp); (focus (obtain ⟨hc, hf⟩ := bcell hS; go_simp; first | exact ⟨rfl, Below.refl _ _⟩ | (refine ⟨?_, Below.refl _ _⟩; rfl))); (try go_simp))
            refine Rl.textR_run (.agg #[.int .i64 p1, .int .i64 p2]) (fun ρ => ?_) (fun ρ W hS hd => ?_) ?_
            · go_simp
            · exact comesToR_load2 _ rfl (b := bl) (off := ol + i * 2) (by go_simp) (XL.out W (below_next HBV.out hS)).c0 (XL.out W (below_next HBV.out hS)).c1 ⟨rfl, Below.refl _ _⟩
            (try go_simp)
            (refine Rl.textR_run ?_ (fun ρ => ?_) (fun ρ W hS hd => ?_) ?_; rotate_left; (focus go_simp); (focus (obtain ⟨hc, hf⟩ := bcell hS; go_simp; refine (KB.out W).mono ?_; rintro e w1 ⟨rfl, hb⟩; refine ⟨_, rfl, ?_, hb⟩; rfl)); (try go_simp))
            iterate 3 (refine Rl.textR_run ?_ (fun ρ => ?_) (fun ρ W hS hd => ?_) ?_; rotate_left; (focus go_simp); (focus (obtain ⟨hc, hf⟩ := bcell hS; go_simp; first | exact ⟨rfl, Below.refl _ _⟩ | (refine ⟨?_, Below.refl _ _⟩; rfl))); (try go_simp))
            iterate 6 (refine Rl.textR_skip (fun ρ => ?_) ?_; (focus (first | rfl | (go_simp; done) | (go_simp; rfl))); (try go_simp))
            iterate 2 (refine Rl.textR_run ?_ (fun ρ => ?_) (fun ρ W hS hd => ?_) ?_; rotate_left; (focus go_simp); (focus (obtain ⟨hc, hf⟩ := bcell hS; go_simp; first | exact ⟨rfl, Below.refl _ _⟩ | (refine ⟨?_, Below.refl _ _⟩; rfl))); (try go_simp))
            refine Rl.textR_nil ?_
            intro ρ wz hg hk
            dsimp only
            have HBW := Lib.hid (below_next HBV.out hg)
            clear hg hk
            go_simp
            go_wp2_with fail
            go_meet
            exact ⟨rfl, HBW.out⟩
          | false =>
            have he := lessB_total _ _ hpx hxp
            simp only [Prod.mk.injEq] at he
            have KEN := Lib.hid (fun (Y : World) => (show (Op.equalIn 10000 97 (.agg #[.int .i64 p1, .int .i64 p2]) (.agg #[.int .i64 x1, .int .i64 x2])).run Try.prog Y = .ok true Y from by rw [eqinI, he.1, he.2]; simp))
            have KA := Lib.hid (fun (Y : World) => less_below p1 p2 x1 x2 false hpx Y)
            have KB := Lib.hid (fun (Y : World) => less_below x1 x2 p1 p2 false hxp Y)
            clear hpx hxp he
            refine Rl.wp_region_rel (fun a b => Below a.heap.size a b) wc (fun a b c h h' => below_next h h') (fun a => Below.refl _ _) hmx (by kernel_rfl) (Below.refl _ _).drew ?_
            iterate 3 (refine Rl.textR_run ?_ (fun ρ => ?_) (fun ρ W hS hd => ?_) ?_; rotate_left; (focus go_simp); (focus (obtain ⟨hc, hf⟩ := bcell hS; go_simp; first | exact ⟨rfl, Below.refl _ _⟩ | (refine ⟨?_, Below.refl _ _⟩; rfl))); (try go_simp))
            refine Rl.textR_run (.agg #[.int .i64 p1, .int .i64 p2]) (fun ρ => ?_) (fun ρ W hS hd => ?_) ?_
            · go_simp
            · exact comesToR_load2 _ rfl (b := bl) (off := ol + i * 2) (by go_simp) (XL.out W (below_next HBV.out hS)).c0 (XL.out W (below_next HBV.out hS)).c1 ⟨rfl, Below.refl _ _⟩
            (try go_simp)
            refine Rl.textR_run (.agg #[.int .i64 x1, .int .i64 x2]) (fun ρ => ?_) (fun ρ W hS hd => ?_) ?_
            · go_simp
            · exact comesToR_load2 _ rfl (b := X) (off := 0) (by go_simp) (XX.out W (below_next HBV.out hS)).1 (XX.out W (below_next HBV.out hS)).2 ⟨rfl, Below.refl _ _⟩
            (try go_simp)
            (refine Rl.textR_run ?_ (fun ρ => ?_) (fun ρ W hS hd => ?_) ?_; rotate_left; (focus go_simp); (focus (obtain ⟨hc, hf⟩ := bcell hS; go_simp; refine (KA.out W).mono ?_; rintro e w1 ⟨rfl, hb⟩; refine ⟨_, rfl, ?_, hb⟩; rfl)); (try go_simp))
            (refine Rl.textR_run ?_ (fun ρ => ?_) (fun ρ W hS hd => ?_) ?_; rotate_left; (focus go_simp); (focus (obtain ⟨hc, hf⟩ := bcell hS; go_simp; first | exact ⟨rfl, Below.refl _ _⟩ | (refine ⟨?_, Below.refl _ _⟩; rfl))); (try go_simp))
            iterate 6 (refine Rl.textR_skip (fun ρ => ?_) ?_; (focus (first | rfl | (go_simp; done) | (go_simp; rfl))); (try go_simp))
            iterate 2 (refine Rl.textR_run ?_ (fun ρ => ?_) (fun ρ W hS hd => ?_) ?_; rotate_left; (focus go_simp); (focus (obtain ⟨hc, hf⟩ := bcell hS; go_simp; first | exact ⟨rfl, Below.refl _ _⟩ | (refine ⟨?_, Below.refl _ _⟩; rfl))); (try go_simp))
            iterate 3 (refine Rl.textR_run ?_ (fun ρ => ?_) (fun ρ W hS hd => ?_) ?_; rotate_left; (focus go_simp); (focus (obtain ⟨hc, hf⟩ := bcell hS; go_simp; first | exact ⟨rfl, Below.refl _ _⟩ | (refine ⟨?_, Below.refl _ _⟩; rfl))); (try go_simp))
            refine Rl.textR_run (.agg #[.int .i64 p1, .int .i64 p2]) (fun ρ => ?_) (fun ρ W hS hd => ?_) ?_
            · go_simp
            · exact comesToR_load2 _ rfl (b := bl) (off := ol + i * 2) (by go_simp) (XL.out W (below_next HBV.out hS)).c0 (XL.out W (below_next HBV.out hS)).c1 ⟨rfl, Below.refl _ _⟩
            (try go_simp)
            refine Rl.textR_run (.agg #[.int .i64 x1, .int .i64 x2]) (fun ρ => ?_) (fun ρ W hS hd => ?_) ?_
            · go_simp
            · exact comesToR_load2 _ rfl (b := X) (off := 0) (by go_simp) (XX.out W (below_next HBV.out hS)).1 (XX.out W (below_next HBV.out hS)).2 ⟨rfl, Below.refl _ _⟩
            (try go_simp)
            (refine Rl.textR_run ?_ (fun ρ => ?_) (fun ρ W hS hd => ?_) ?_; rotate_left; (focus go_simp); (focus (obtain ⟨hc, hf⟩ := bcell hS; go_simp; refine (KA.out W).mono ?_; rintro e w1 ⟨rfl, hb⟩; refine ⟨_, rfl, ?_, hb⟩; rfl)); (try go_simp))
            iterate 2 (refine Rl.textR_run ?_ (fun ρ => ?_) (fun ρ W hS hd => ?_) ?_; rotate_left; (focus go_simp); (focus (obtain ⟨hc, hf⟩ := bcell hS; go_simp; first | exact ⟨rfl, Below.refl _ _⟩ | (refine ⟨?_, Below.refl _ _⟩; rfl))); (try go_simp))
            refine Rl.textR_run (.agg #[.int .i64 x1, .int .i64 x2]) (fun ρ => ?_) (fun ρ W hS hd => ?_) ?_
            · go_simp
            · exact comesToR_load2 _ rfl (b := X) (off := 0) (by go_simp) (XX.out W (below_next HBV.out hS)).1 (XX.out W (below_next HBV.out hS)).2 ⟨rfl, Below.refl _ _⟩
            (try go_simp)
            iterate 3 (refine Rl.textR_run ?_ (fun ρ => ?_) (fun ρ W hS hd => ?_) ?_; rotate_left; (focus go_simp); (focus (obtain ⟨hc, hf⟩ := bcell hS; go_simp; first | exact ⟨rfl, Below.refl _ _⟩ | (refine ⟨?_, Below.refl _ _⟩; rfl))); (try go_simp))
            refine Rl.textR_run (.agg #[.int .i64 p1, .int .i64 p2]) (fun ρ => ?_) (fun ρ W hS hd => ?_) ?_
            · go_simp
            · exact comesToR_load2 _ rfl (b := bl) (off := ol + i * 2) (by go_simp) (XL.out W (below_next HBV.out hS)).c0 (XL.out W (below_next HBV.out hS)).c1 ⟨rfl, Below.refl _ _⟩
            (try go_simp)
            (refine Rl.textR_run ?_ (fun ρ => ?_) (fun ρ W hS hd => ?_) ?_; rotate_left; (focus go_simp); (focus (obtain ⟨hc, hf⟩ := bcell hS; go_simp; refine (KB.out W).mono ?_; rintro e w1 ⟨rfl, hb⟩; refine ⟨_, rfl, ?_, hb⟩; rfl)); (try go_simp))
            iterate 3 (refine Rl.textR_run ?_ (fun ρ => ?_) (fun ρ W hS hd => ?_) ?_; rotate_left; (focus go_simp); (focus (obtain ⟨hc, hf⟩ := bcell hS; go_simp; first | exact ⟨rfl, Below.refl _ _⟩ | (refine ⟨?_, Below.refl _ _⟩; rfl))); (try go_simp))
            iterate 3 (refine Rl.textR_run ?_ (fun ρ => ?_) (fun ρ W hS hd => ?_) ?_; rotate_left; (focus go_simp); (focus (obtain ⟨hc, hf⟩ := bcell hS; go_simp; first | exact ⟨rfl, Below.refl _ _⟩ | (refine ⟨?_, Below.refl _ _⟩; rfl))); (try go_simp))
            refine Rl.textR_run (.agg #[.int .i64 p1, .int .i64 p2]) (fun ρ => ?_) (fun ρ W hS hd => ?_) ?_
            · go_simp
            · exact comesToR_load2 _ rfl (b := bl) (off := ol + i * 2) (by go_simp) (XL.out W (below_next HBV.out hS)).c0 (XL.out W (below_next HBV.out hS)).c1 ⟨rfl, Below.refl _ _⟩
            (try go_simp)
            refine Rl.textR_run (.agg #[.int .i64 x1, .int .i64 x2]) (fun ρ => ?_) (fun ρ W hS hd => ?_) ?_
            · go_simp
            · exact comesToR_load2 _ rfl (b := X) (off := 0) (by go_simp) (XX.out W (below_next HBV.out hS)).1 (XX.out W (below_next HBV.out hS)).2 ⟨rfl, Below.refl _ _⟩
            (try go_simp)
            refine Rl.textR_run (.bool false) (fun ρ => ?_) (fun ρ W hS hd => ?_) ?_
            · go_simp
            · exact Rl.comesToR_neq 97 _ _ _ rfl _ _ (by go_simp) (by go_simp) (by kernel_rfl) (KEN.out W) ⟨rfl, Below.refl _ _⟩
            (try go_simp)
            iterate 2 (refine Rl.textR_run ?_ (fun ρ => ?_) (fun ρ W hS hd => ?_) ?_; rotate_left; (focus go_simp); (focus (obtain ⟨hc, hf⟩ := bcell hS; go_simp; first | exact ⟨rfl, Below.refl _ _⟩ | (refine ⟨?_, Below.refl _ _⟩; rfl))); (try go_simp))
            refine Rl.textR_nil ?_
            intro ρ wz hg hk
            dsimp only
            have HBW := Lib.hid (below_next HBV.out hg)
            clear hg hk
            go_simp
            go_wp2_with fail
            go_meet
            exact ⟨rfl, HBW.out⟩
      case rest =>
      obtain ⟨rfl, hbu⟩ := hcut
      have HBX := Lib.hid hbu
      clear hbu
      go_wp2_with fail
      go_roundw
      case rel => exact ⟨i + 1, by have := HLT.out; omega, by rw [HV2.out, C2.out]; cases eq_ <;> simp, by rw [HU2.out, C1.out]; cases ep <;> simp, by go_num, HBX.out⟩
      case measure => have := HLT.out; simp [intOf]; omega
    case neg =>
    obtain rfl : i = n := by omega
    have hge : ¬ (i : Int) < (i : Int) := by omega
    have heqc := cntP_perm HMP.out (x1, x2) HNL.out
    rw [heqc]
    obtain ⟨z, hz⟩ : ∃ z, z = cntP l (x1, x2) i := ⟨_, rfl⟩
    rw [← hz]
    have hxx := swoP.irrefl (x1, x2)
    have KS := Lib.hid (fun (Y : World) => less_below x1 x2 x1 x2 false hxx Y)
    have XX := Lib.hid (fun (Y : World) (hY : Below wr.heap.size wr Y) => (show Y.cell? ⟨X, 0, none⟩ = some (.int .i64 x1) ∧ Y.cell? ⟨X, 1, none⟩ = some (.int .i64 x2) from by
      have hb := ((below_next HBR.out hY).block X (Array.getElem?_eq_some_iff.1 HX2.out).1).trans HX2.out
      exact ⟨cell_of_block (o := 0) hb rfl, cell_of_block (o := 1) hb rfl⟩))
    clear hz hlt heqc hin hxx
    have x0 := (XX.out wr (Below.refl _ _)).1
    have x1 := (XX.out wr (Below.refl _ _)).2
    go_wp2_with fail
    refine (KS.out _).mono ?_
    rintro e wy ⟨rfl, hby⟩
    have HBY := Lib.hid (below_next HBR.out hby)
    clear hby
    go_wp2_with fail
    refine (prio_one _).mono ?_
    rintro e wz ⟨rfl, hbz⟩
    have HBZ := Lib.hid (below_next HBY.out hbz)
    clear hbz
    go_wp2_with fail
    go_ret
    exact ⟨rfl, below_next HB2.out HBZ.out⟩
end Go.Proofs.Ytbhnjmdlagjfbaa
