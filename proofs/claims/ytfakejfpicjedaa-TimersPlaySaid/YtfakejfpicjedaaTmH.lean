/- What is due of a clock (layer 17). No condition. -/
import Derived.Test.YtfakejfpicjedaaTmG
namespace Go.Proofs.Ytfakejfpicjedaa
set_option linter.unusedVariables false
open Go.ChangeShapes Go.WideShapes Go.ChangeAt Go.RowKit Tm
attribute [local go_sem ↓] Go.wp_at_zero Go.wp_at_succ comesTo_value_eq comesTo_skip_eq comesTo_enter_eq

def slN : Value → Nat
  | .slice _ n _ => n
  | _ => 0
/-- a row of alarms of one's own -/
abbrev RowD (w : World) (B : Nat) (u : Value) (D : List AL) : Prop := w.ownsRow B 42 2 u D.length (flA D)
theorem RowD.form {w : World} {B : Nat} {u : Value} {D : List AL} (h : RowD w B u D) : ∃ a c, u = .slice a D.length c := by
  rcases h.2 with ⟨rfl, h0⟩ | ⟨g, cap, cur, hv, _⟩
  · exact ⟨none, 0, by rw [h0]⟩
  · exact ⟨_, _, hv⟩
theorem RowD.grow {w' : World} {B : Nat} {u : Value} {D : List AL} {x : AL} (h : w'.ownsRow B 42 2 u (D.length + 1) (flA D ++ [.int .i64 x.1, .int .i64 x.2])) : RowD w' B u (D ++ [x]) := by
  have e : (D ++ [x]).length = D.length + 1 := by simp
  unfold RowD
  rw [e, flA_app]
  exact h
theorem RowD.cells {w : World} {B : Nat} {u : Value} {D : List AL} (h : RowD w B u D) {k : Nat} (hk : k < D.length) : ∃ g cap, u = .slice (some ⟨g, 0, none⟩) D.length cap ∧ B ≤ g ∧ w.cell? ⟨g, k * 2, none⟩ = some (.int .i64 (gA D k).1) ∧ w.cell? ⟨g, k * 2 + 1, none⟩ = some (.int .i64 (gA D k).2) := by
  rcases h.2 with ⟨_, h1⟩ | ⟨g, cap, cur, hv, hB, hg, hc, hm, hs, ht⟩
  · omega
  · obtain ⟨a, b⟩ := cur_get hk ht
    exact ⟨g, cap, hv, hB, cell_of_block hg a, cell_of_block hg b⟩
/-- behind Pop -/
theorem pop_known {A S : List AL} {x : AL} (hH : HP A A.length) (hp : A.Perm (x :: S)) (hs : SrtT (x :: S)) {k : Nat} (hk : A.length = k + 1) :
    gA A 0 = x ∧ HP ((popF A).take k) ((popF A).take k).length ∧ ((popF A).take k).Perm S ∧ ((popF A).take k).length = k := by
  have hl : (popF A).length = k + 1 := by rw [popF_len, hk]
  have hl2 : ((popF A).take k).length = k := take_len hl
  have hd := head_is hH hp hs
  refine ⟨hd, ?_, ?_, hl2⟩
  · rw [hl2]
    have h1 := popF_heap hH (by omega)
    rw [hk, Nat.add_sub_cancel] at h1
    exact h1.of_eq fun j hj => gA_take hj
  · have h1 := drop_perm hl
    have h2 := popF_last (A := A) (by omega)
    rw [hk, Nat.add_sub_cancel] at h2
    rw [h2, hd] at h1
    exact (List.perm_cons _).1 ((h1.symm.trans (popF_perm (by omega))).trans hp)
section
variable {ops : Array Oper} {rest : List Oper} {o : Oper} {a : Act} {w : World} {Q : Exit → Act → World → Prop}
theorem wpList_append_runT (T T2 : TypeId) (hgd : o.guard = none) (s x : Operand) (ho : o.op = .call { callee := .builtin .append, args := #[s, x], argTypes := #[T, T2] })
    (vs vx : Value) (hs : a.eval s = vs) (hx : a.eval x = vx) (v' : Value) (w' : World) (hrun : (Builtin.append_ #[T, T2] o.type #[vs, vx]).run Try.prog w = .ok v' w')
    (h : wpList Try.prog ops Q rest (a.put o.dst v') w') : wpList Try.prog ops Q (o :: rest) a w := by
  refine wpList_plain hgd fun K hK => ?_
  unfold Oper.wp execOp
  simp only [ho, resolve, invoke, builtin, Sem.run_bind, Sem.run_pure, Result.andThen_ok, List.map_toArray, List.map_cons, List.map_nil, hs, hx, hrun]
  exact hK _ _ h
end
set_option maxRecDepth 100000 in
set_option maxHeartbeats 2000000 in
theorem ck_due {w : World} {c Q m : Nat} {v : Value} {R : List AL} (h : Ck w c Q m v R) (t : Int) :
    Calls Try.prog 14 #[.pointer (some ⟨c, 0, none⟩), .int .i64 t] w fun e w' => ∃ u, e = .returned u ∧ RowD w' w.heap.size u (dueR R t) ∧ ∃ v', Ck w' c Q m v' (restR R t) ∧ FrT Q m v w w' ∧ RowN w v v' ∧ ∀ b, v'.ownBlock = some b → u.ownBlock ≠ some b := by
  have HK := Lib.hid h
  have HLT := Lib.hid h.lt
  have HLEN := Lib.hid h.len
  clear h
  go_enter Try.func14, Try.ntmps14
  go_wp2_with fail
  go_loopw [5] (fun jv wr => ∃ (D S : List AL) (v1 : Value), RowD wr w.heap.size jv D ∧ Ck wr c Q m v1 S ∧ FrT Q m v w wr ∧ RowN w v v1 ∧ (∀ b, v1.ownBlock = some b → jv.ownBlock ≠ some b) ∧ D ++ dueR S t = dueR R t ∧ restR S t = restR R t ∧ D.length + S.length = R.length) (fun jv _ => R.length - slN jv)
  case atStart => exact ⟨[], R, v, ⟨rfl, .inl ⟨rfl, rfl⟩⟩, HK.out, FrT.refl _ _ _ _, RowN.refl _ _, (fun b _ e => by cases e), rfl, rfl, Nat.zero_add _⟩
  case round =>
    obtain ⟨D, S, v1, hD, hK, hF, hR, hdj, he1, he2, hl⟩ := hrel
    have HD := Lib.hid hD
    have HK1 := Lib.hid hK
    have HF1 := Lib.hid hF
    have HR1 := Lib.hid hR
    have HDJ := Lib.hid hdj
    have HE1 := Lib.hid he1
    have HE2 := Lib.hid he2
    have HL := Lib.hid hl
    have KL := Lib.hid (ck_len hK)
    have KN := Lib.hid (ck_next hK)
    obtain ⟨ad, cp, rfl⟩ := hD.form
    obtain ⟨n, hn⟩ : ∃ n, n = D.length := ⟨_, rfl⟩
    rw [← hn] at HD HDJ ⊢
    have HN := Lib.hid hn
    clear hD hK hF hR hdj he1 he2 hl HK hn
    cases S with
    | nil =>
      clear KN
      go_wp2_with fail
      refine KL.out.mono ?_
      rintro e w1 ⟨rfl, hw⟩
      obtain rfl := hw
      go_wp2_with fail
      go_ret
      refine ⟨_, rfl, ?_, v1, ?_, HF1.out, HR1.out, HDJ.out⟩
      · rw [← HE1.out, show dueR [] t = [] from rfl, List.append_nil]
        exact HD.out
      · rw [← HE2.out]
        exact HK1.out
    | cons x S =>
      have hN0 : (0 : Int) < ((x :: S).length : Int) := by rw [List.length_cons]; omega
      generalize hNN : ((x :: S).length : Int) = N at *
      by_cases hx : x.1 ≤ t
      case neg =>
        have hx2 : ¬ nextR (x :: S) ≤ t := hx
        have HS := Lib.hid (due_stop (now := t) (.inr ⟨x, S, rfl, hx⟩))
        generalize nextR (x :: S) = T at *
        clear hNN hx
        go_wp2_with fail
        refine KL.out.mono ?_
        rintro e w1 ⟨rfl, hw⟩
        obtain rfl := hw
        go_wp2_with fail
        refine KN.out.mono ?_
        rintro e w2 ⟨rfl, hw⟩
        obtain rfl := hw
        go_wp2_with fail
        go_ret
        refine ⟨_, rfl, ?_, v1, ?_, HF1.out, HR1.out, HDJ.out⟩
        · rw [← HE1.out, HS.out.1, List.append_nil]
          exact HD.out
        · rw [← HE2.out, HS.out.2]
          exact HK1.out
      case pos =>
        have hx2 : nextR (x :: S) ≤ t := hx
        have HS := Lib.hid (due_cons (R := S) hx)
        have HCB := Lib.hid (fun (w' : World) (hF : FrT Q m v1 wr w') => ck_fr HK1.out hF)
        have q0 : wr.cell? ⟨c, 0, none⟩ = some (.pointer (some ⟨Q, 0, none⟩)) := cell_of_block (o := 0) HK1.out.blk rfl
        obtain ⟨A, pm, hT, hC, hH, hp⟩ := HK1.out.q
        have hs := HK1.out.srt
        have HSS := Lib.hid (List.pairwise_cons.1 hs).2
        obtain ⟨k, hkl⟩ : ∃ k, A.length = k + 1 := ⟨S.length, by rw [hp.length_eq]; rfl⟩
        have HP := Lib.hid (pop_known hH hp hs hkl)
        rw [hkl] at hT
        have k2 := hpop hT hC hkl
        rw [HP.out.1] at k2
        have K2 := Lib.hid k2
        have HLN := Lib.hid HK1.out.len
        have HLT1 := Lib.hid HK1.out.lt
        generalize nextR (x :: S) = T at *
        obtain ⟨x1, x2⟩ := x
        dsimp only at K2 HP HS
        have hta := fun W => ta_al x1 x2 W
        clear hNN hx hT hC hH hp hs k2
        go_wp2_with fail
        refine KL.out.mono ?_
        rintro e w1 ⟨rfl, hw⟩
        obtain rfl := hw
        go_wp2_with fail
        refine KN.out.mono ?_
        rintro e w2 ⟨rfl, hw⟩
        obtain rfl := hw
        go_wp2_with fail
        refine K2.out.mono ?_
        rintro e w3 ⟨rfl, v3, pm3, hT, hC, hF, hR⟩
        have HD3 := Lib.hid (show RowD w3 w.heap.size (.slice ad n cp) D from Ap.own_keep HD.out fun b hb => by
          have h1 := HLT.out
          have h2 := Ap.own_blk HD.out b hb
          have h3 := Ap.own_lt HD.out b hb
          exact hF.blk b h3 (by omega) (by omega) (fun e => HDJ.out b e hb))
        have HDJ3 := Lib.hid (show ∀ b, v3.ownBlock = some b → (Value.slice ad n cp).ownBlock ≠ some b from fun b hb e => by
          rcases hR b hb with h1 | h1
          · exact HDJ.out b h1 e
          · have := Ap.own_lt HD.out b e; omega)
        have HK3 := Lib.hid (show Ck w3 c Q m v3 S from ⟨HCB.out _ hF, ⟨_, pm3, by rw [HP.out.2.2.2]; exact hT, hC, HP.out.2.1, HP.out.2.2.1⟩, HSS.out⟩)
        have HF3 := Lib.hid (HF1.out.trans hF HR1.out)
        have HR3 := Lib.hid (HR1.out.trans hR HF1.out.size)
        have b4 := below_alloc (Below.refl _ w3) (.cells #[.int .i64 x1, .int .i64 x2] 42)
        have p4 := World.alloc_heap_new w3 (.cells #[.int .i64 x1, .int .i64 x2] 42)
        have B4 := Lib.hid b4
        have P4 := Lib.hid p4
        have hro : (w3.alloc (.cells #[.int .i64 x1, .int .i64 x2] 42)).ownsRow w.heap.size 42 2 (.slice ad n cp) n (flA D) := by have := Ap.own_below HD3.out b4; unfold RowD at this; rw [← HN.out] at this; exact this
        have s4 : (w3.alloc (.cells #[.int .i64 x1, .int .i64 x2] 42)).heap.size = w3.heap.size + 1 := by simp
        have hDS := HL.out
        rw [List.length_cons] at hDS
        obtain ⟨v', X, g0, g1, g2, g3, g4, g5⟩ := app_oneT eltAT 39 hro [.int .i64 x1, .int .i64 x2] rfl (by intro u hu; simp at hu; rcases hu with rfl | rfl <;> rfl) (by have := HLN.out; rw [List.length_cons] at this; have := HLEN.out; have := HN.out; omega) (by decide) (Nat.le_trans (Nat.le_trans HF3.out.size (Nat.le_refl _)) b4.size)
        have hform : ∃ a c, v' = .slice a (n + 1) c := by
          rcases g1.2 with ⟨_, h0⟩ | ⟨g, cap, cur, hv, _⟩
          · omega
          · exact ⟨_, _, hv⟩
        obtain ⟨a2, c2, rfl⟩ := hform
        rw [s4] at g0
        have HR0 := Lib.hid g0
        have hsz3 := HF3.out.size
        have hsz4 := b4.size
        have HF5 := Lib.hid (show FrT Q m v w X from ⟨g5.os.trans (b4.os.trans HF3.out.os), g5.tape.trans (b4.tape.trans HF3.out.tape), g5.output.trans (b4.output.trans HF3.out.output), Nat.le_trans hsz3 (Nat.le_trans hsz4 g3), fun j hj h1 h2 h3 => ((g2 j (by omega) (fun e => by have := Ap.own_blk HD3.out j e; omega)).trans (b4.block j (by omega))).trans (HF3.out.blk j hj h1 h2 h3)⟩)
        have hkp : ∀ j, j < w3.heap.size → (Value.slice ad n cp).ownBlock ≠ some j → X.heap[j]? = w3.heap[j]? := fun j hj hne => (g2 j (by omega) hne).trans (b4.block j hj)
        have hlt := HLT.out
        have HK5 := Lib.hid (HK3.out.keep (hkp c HK3.out.lt.1 (fun e => by have := Ap.own_blk HD3.out c e; omega)) (hkp Q HK3.out.lt.2.1 (fun e => by have := Ap.own_blk HD3.out Q e; omega)) (hkp m HK3.out.lt.2.2.1 (fun e => by have := Ap.own_blk HD3.out m e; omega)) (fun b hb => hkp b (HK3.out.lt.2.2.2 b hb) (HDJ3.out b hb)))
        have HDJ5 := Lib.hid (show ∀ b, v3.ownBlock = some b → (Value.slice a2 (n + 1) c2).ownBlock ≠ some b from fun b hb e => by
          have h1 := HK3.out.lt.2.2.2 b hb
          rcases g4 b e with h2 | h2
          · exact HDJ3.out b hb h2
          · omega)
        have HD5 := Lib.hid (show RowD X w.heap.size (.slice a2 (n + 1) c2) (D ++ [(x1, x2)]) from RowD.grow (x := (x1, x2)) (by rw [← HN.out]; exact g1))
        clear hT hC hF hR K2 HCB q0 b4 p4 hro s4 g0 g1 g2 g3 g4 g5 hDS hkp hsz3 hsz4 hlt HK3 HD3 HDJ3 HF3 B4 P4
        go_wp2_with (at_builtin; refine wpList_append_runT 39 39 rfl _ _ rfl (.slice ad n cp) (.slice (some ⟨w3.heap.size + 1, 0, none⟩) 1 1) rfl (by go_simp) (.slice a2 (n + 1) c2) X HR0.out ?_)
        go_roundw
        case rel =>
          refine ⟨D ++ [(x1, x2)], S, v3, HD5.out, HK5.out, HF5.out, HR3.out, HDJ5.out, ?_, ?_, ?_⟩
          · rw [← HE1.out, HS.out.1, List.append_assoc]; rfl
          · rw [← HE2.out, HS.out.2]
          · have := HL.out
            rw [List.length_cons] at this
            rw [List.length_append, List.length_singleton]
            omega
        case measure =>
          have h1 := HL.out
          have h2 := HN.out
          rw [List.length_cons] at h1
          simp [slN]
          omega
end Go.Proofs.Ytfakejfpicjedaa
