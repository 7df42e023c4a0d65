/- Laws that belong together: Reservations (layer 18): a list read from bytes. Conditions: errors.errorType lies as the text lays it; the lengths' bound.; Reservations (layer 18): the document's reading, plainly: it is the program's. No condition.; The document's reservations (layer 18): may one be so, a list as the document has it, is it the document's. No condition but the rows'.; The document's Read of reservations (layer 18). Condition: the lengths' bound.; Reservations (layer 18): what comes of Add, plainly; what is laid is read; the law's one. Conditions: none. -/
import Derived.Test.YtddoknkmmchkmaaDoorMao
import Derived.Test.YtddoknkmmchkmaaDoorErrAt
import Derived.Test.YtddoknkmmchkmaaDoorMan
import Derived.Test.YtddoknkmmchkmaaDoorMaf
import Derived.Test.YtddoknkmmchkmaaDoorMaj
namespace Go.Proofs.YtddoknkmmchkmaaDoor
set_option linter.unusedVariables false
open Go.ChangeShapes Go.WideShapes Go.ChangeAt Go.RowKit
attribute [local go_sem ↓] Go.wp_at_zero Go.wp_at_succ comesTo_value_eq comesTo_skip_eq comesTo_enter_eq

section
variable {P : Program} {ops : Array Oper} {Q : Exit → Act → World → Prop} {md : Region.Mode} {S1 S2 : World → Prop} {js : Nat} {fuel : Nat} {listed : Array Bool} {a : Act} {w : World}
/-- a value behind the last store -/
theorem anyK_lastR {i : Nat} {oi : Oper} {v : Value} {w' : World} (hr : Region.ready md ops listed = [i]) (hi : ops[i]? = some oi) (hg : oi.guard = none) (hjs : (listed.setIfInBounds i true).getD js true = true)
    (h : (execOp a.eval oi).run P w = .ok (.value v) w') (hS : S1 w') (hR : Ap.wpAnyK P md ops Q S1 S2 js fuel (listed.setIfInBounds i true) (a.put oi.dst v) w') :
    Ap.wpAnyK P md ops Q S1 S2 js (fuel + 1) listed a w := by
  refine Ap.wpAnyK_all hr (by simp) fun k hk => ?_
  obtain rfl : k = i := by simpa using hk
  unfold wpOp
  simp only [hi, Region.wanted, hg, if_true]
  refine .inl ?_
  unfold Oper.wp
  rw [h]
  exact ⟨⟨hS, fun h => by rw [hjs] at h; cases h⟩, hR⟩
end
def rd0 (bs : List Int) : CS × Int := smallF ⟨bs, 0⟩ 1073741825
def rdN0 (bs : List Int) : CS × Int := smallF (rd0 bs).1 8
/-- one reservation -/
def rdV1 (nx : Int) (st : CS) : CS × RV := ((smallF (intF (intF (smallF st (nx - 1)).1).1).1 64).1, ((smallF st (nx - 1)).2, (intF (smallF st (nx - 1)).1).2, (intF (intF (smallF st (nx - 1)).1).1).2, (smallF (intF (intF (smallF st (nx - 1)).1).1).1 64).2))
def rdVs (nx : Int) (st : CS) : Nat → CS × List RV
  | 0 => (st, [])
  | k + 1 => ((rdV1 nx (rdVs nx st k).1).1, (rdVs nx st k).2 ++ [(rdV1 nx (rdVs nx st k).1).2])
theorem rdVs_len (nx : Int) (st : CS) : ∀ k, (rdVs nx st k).2.length = k
  | 0 => rfl
  | k + 1 => by simp [rdVs, rdVs_len nx st k]
/-- the last number -/
def lastI (l : List RV) : Int := (l.getLast?.map (·.1)).getD 0
theorem lastI_snoc (l : List RV) (r : RV) : lastI (l ++ [r]) = r.1 := by unfold lastI; simp
/-- each behind the one ahead of it, and such as may be -/
def okL : Nat → List RV → Bool
  | 0, _ => true
  | k + 1, l => okL k l && (decide (lastI (l.take k) < (l.getD k zR).1) && mayR (l.getD k zR).2.1 (l.getD k zR).2.2.1 (l.getD k zR).2.2.2)
theorem okL_le {l : List RV} {k : Nat} : ∀ j, okL (k + j) l = true → okL k l = true
  | 0, h => h
  | j + 1, h => okL_le j (by
      have e : okL (k + (j + 1)) l = (okL (k + j) l && (decide (lastI (l.take (k + j)) < (l.getD (k + j) zR).1) && mayR (l.getD (k + j) zR).2.1 (l.getD (k + j) zR).2.2.1 (l.getD (k + j) zR).2.2.2)) := rfl
      rw [e, Bool.and_eq_true] at h
      exact h.1)
def rdL (bs : List Int) (k : Nat) : CS × List RV := rdVs (rd0 bs).2 (rdN0 bs).1 k
theorem rdL_take (bs : List Int) (k : Nat) : ∀ j, (rdL bs (k + j)).2.take k = (rdL bs k).2
  | 0 => by
    have : (rdL bs k).2.length = k := rdVs_len _ _ _
    rw [Nat.add_zero, List.take_of_length_le (by omega)]
  | j + 1 => by
    have e : (rdL bs (k + (j + 1))).2 = (rdL bs (k + j)).2 ++ [(rdV1 (rd0 bs).2 (rdL bs (k + j)).1).2] := rfl
    have hl : (rdL bs (k + j)).2.length = k + j := rdVs_len _ _ _
    rw [e, List.take_append_of_le_length (by omega)]
    exact rdL_take bs k j
/-- how many -/
def cntR (bs : List Int) : Nat := (rdN0 bs).2.toNat
def okRd (bs : List Int) : Bool := okL (cntR bs) (rdL bs (cntR bs)).2 && ((rdL bs (cntR bs)).1.bad == 0) && decide (1 ≤ (rd0 bs).2)
theorem smallF_mostR (st : CS) {most : Int} (h : 0 ≤ most) : 0 ≤ (smallF st most).2 ∧ (smallF st most).2 ≤ most := by
  unfold smallF
  split
  · exact ⟨Int.le_refl _, h⟩
  · omega
theorem cntR_eq (bs : List Int) : (rdN0 bs).2 = (cntR bs : Int) ∧ cntR bs ≤ 8 := by
  have := smallF_mostR (rd0 bs).1 (most := 8) (by decide)
  unfold cntR rdN0
  omega
def RdREnd (w : World) (bs : List Int) (e : Ending) (w' : World) : Prop :=
  (okRd bs = false ∧ e = .returned (.tuple #[.pointer none, .int .i64 0, .int .i64 11]) ∧ Below w.heap.size w w') ∨
  (okRd bs = true ∧ ∃ F, e = .returned (.tuple #[.pointer (some ⟨F, 0, none⟩), .int .i64 ((bs.length : Int) - ((rdL bs (cntR bs)).1.xs.length : Int)), .int .i64 0]) ∧ w.heap.size ≤ F ∧ Rs w' w.heap.size F (rdL bs (cntR bs)).2 (rd0 bs).2 ∧ Below w.heap.size w w')
/-- where a reading stands: the cursor, the list's block -/
structure RL (w X : World) (C F : Nat) (st : CS) (l : List RV) (nx : Int) : Prop where
  cur : Cur X C (fun j => w.heap.size ≤ j ∧ j < F) st
  blk : ∃ v, X.heap[F]? = some (.cells #[v, .int .i64 nx] 53 (0, 0)) ∧ OwnR X (F + 1) v l
  bel : Below w.heap.size w X
theorem RL.lt {w X : World} {C F : Nat} {st : CS} {l : List RV} {nx : Int} (h : RL w X C F st l nx) : F < X.heap.size := by obtain ⟨_, h1, _⟩ := h.blk; exact (Array.getElem?_eq_some_iff.1 h1).1
theorem RL.call {w X X' : World} {C F : Nat} {st st' : CS} {l : List RV} {nx : Int} (h : RL w X C F st l nx) (hc : Cur X' C (fun j => w.heap.size ≤ j ∧ j < F) st') (hf : Fr (fun j => j = C) X X') : RL w X' C F st' l nx := by
  have hC := h.cur.mem
  obtain ⟨v, h1, h2⟩ := h.blk
  exact ⟨hc, ⟨v, (hf.block _ h.lt (by omega)).trans h1, h2.keep fun k hk => hf.block k (Ap.own_lt h2 k hk) (by have := Ap.own_blk h2 k hk; omega)⟩, h.bel.trans (hf.below (B := w.heap.size) h.bel.size (fun j hj => by omega))⟩
theorem RL.below {w X X' : World} {C F : Nat} {st : CS} {l : List RV} {nx : Int} (h : RL w X C F st l nx) (hb : Below X.heap.size X X') : RL w X' C F st l nx := by
  obtain ⟨v, h1, h2⟩ := h.blk
  exact ⟨h.cur.below hb, ⟨v, (hb.block _ h.lt).trans h1, h2.below hb⟩, below_next h.bel hb⟩
theorem RL.lay {w X X' : World} {C F : Nat} {st : CS} {l l' : List RV} {nx : Int} (h : RL w X C F st l nx) (hb : Below F X X') {v : Value} (h1 : X'.heap[F]? = some (.cells #[v, .int .i64 nx] 53 (0, 0))) (h2 : OwnR X' (F + 1) v l') : RL w X' C F st l' nx := by
  have hC := h.cur.mem
  exact ⟨Fr.cur h.cur (Fr.of_under hb) (fun j hj _ hF => by omega), ⟨v, h1, h2⟩, h.bel.trans (hb.mono (by omega))⟩
set_option maxRecDepth 100000 in
set_option maxHeartbeats 8000000 in
theorem resvread_any {w : World} {ad : Option Addr} {nb cb : Nat} {bs : List Int} (h : TxtAt w (.slice ad nb cb) bs) (hl : bs.length ≤ 1099511627775) (hE : ErrAt w) :
    Calls Tryd.prog 5 #[.slice ad nb cb] w fun e w' => RdREnd w bs e w' := by
  have hmx : Tryd.prog.follows .mixedOrders = true := by kernel_rfl
  have KR := Lib.hid (read_cur h hl)
  have HE := Lib.hid (fun X (hX : Below w.heap.size w X) => hE.below hX)
  have HNB := Lib.hid (show nb = bs.length from h.form.1)
  have HBL := Lib.hid hl
  have HNO := Lib.hid (fun (hh : okRd bs = false) e w' (he : e = .returned (.tuple #[.pointer none, .int .i64 0, .int .i64 11])) (hb : Below w.heap.size w w') => (show RdREnd w bs e w' from .inl ⟨hh, he, hb⟩))
  have HYES := Lib.hid (fun (hh : okRd bs = true) e w' F (he : e = .returned (.tuple #[.pointer (some ⟨F, 0, none⟩), .int .i64 ((bs.length : Int) - ((rdL bs (cntR bs)).1.xs.length : Int)), .int .i64 0])) (hF : w.heap.size ≤ F) (hr : Rs w' w.heap.size F (rdL bs (cntR bs)).2 (rd0 bs).2) (hb : Below w.heap.size w w') => (show RdREnd w bs e w' from .inr ⟨hh, F, he, hF, hr, hb⟩))
  have HCNT := Lib.hid (cntR_eq bs)
  obtain ⟨n, hn⟩ : ∃ n, n = cntR bs := ⟨_, rfl⟩
  rw [← hn] at HCNT
  have HN := Lib.hid hn
  have HNX := Lib.hid (smallF_mostR ⟨bs, 0⟩ (most := 1073741825) (by decide))
  obtain ⟨nx, hnx⟩ : ∃ x, x = (rd0 bs).2 := ⟨_, rfl⟩
  have HX := Lib.hid hnx
  have HNXB := Lib.hid (show 0 ≤ nx ∧ nx ≤ 1073741825 by rw [hnx]; exact HNX.out)
  clear h hl hE hn hnx HNX
  generalize hEE : RdREnd w bs = E at *
  clear hEE
  go_enter Tryd.func5, Tryd.ntmps5
  go_wp2_with fail
  refine KR.out.mono ?_
  rintro e w1 ⟨C, rfl, hc, hb⟩
  have hct := hc.tight
  have HCU := Lib.hid hct
  have HB1 := Lib.hid hb
  clear hc hct hb KR
  have KS := Lib.hid (small_cur HCU.out 1073741825)
  rw [show (smallF ⟨bs, 0⟩ 1073741825).2 = nx from HX.out.symm] at KS
  go_wp2_with fail
  refine KS.out.mono ?_
  rintro e w2 ⟨rfl, hc2, hf2⟩
  have hmem := hc2.mem
  have hb2 := HB1.out.trans (hf2.below (B := w.heap.size) HB1.out.size (fun j hj => by omega))
  have ba := below_alloc (Below.refl _ w2) (.cells #[.slice none 0 0, .int .i64 nx] 53)
  have hsz := hf2.size
  have HRL0 := Lib.hid (show RL w (w2.alloc (.cells #[.slice none 0 0, .int .i64 nx] 53)) C w2.heap.size (rd0 bs).1 [] nx from
    ⟨(hc2.more (fun j hj => ⟨hj.1, by have := hj.2; omega⟩)).below ba, ⟨_, World.alloc_heap_new w2 _, OwnR.nil⟩, below_next hb2 ba⟩)
  have HGF := Lib.hid (show w.heap.size ≤ w2.heap.size from hb2.size)
  clear hc2 hf2 hmem hb2 ba hsz KS HCU
  go_upto_region 4 with fail
  generalize w2.alloc (.cells #[.slice none 0 0, .int .i64 nx] 53) = w3 at *
  generalize w2.heap.size = F at *
  have KS := Lib.hid (small_cur HRL0.out.cur 8)
  rw [show (smallF (rd0 bs).1 8).2 = (n : Int) from HCNT.out.1] at KS
  go_wp2_with fail
  refine KS.out.mono ?_
  rintro e w4 ⟨rfl, hc4, hf4⟩
  have HRL1 := Lib.hid (show RL w w4 C F (rdN0 bs).1 [] nx from HRL0.out.call hc4 hf4)
  clear hc4 hf4 KS HRL0
  go_wp2_with fail
  go_loopw [17, 7] (fun i la wr => ∃ k : Nat, k ≤ n ∧ i = .int .i64 k ∧ la = .int .i64 (lastI (rdL bs k).2) ∧ okL k (rdL bs k).2 = true ∧ RL w wr C F (rdL bs k).1 (rdL bs k).2 nx) (fun i _ _ => n - (intOf i).toNat)
  case atStart => exact ⟨0, Nat.zero_le _, rfl, rfl, rfl, HRL1.out⟩
  case round =>
    obtain ⟨k, hk, rfl, rfl, hok, hrl⟩ := hrel
    have HRL := Lib.hid hrl
    have HOK := Lib.hid hok
    clear hrl hok HRL1
    by_cases hlt : k < n
    case pos =>
      have hd : decide (k < n) = true := decide_eq_true hlt
      have hd2 : decide ((k : Int) < (n : Int)) = true := decide_eq_true (by omega)
      have hkI : (k : Int) < (n : Int) := by omega
      have hw1 : IntKind.i64.wrap ((k : Int) + 1) = (k : Int) + 1 := by have := HCNT.out; rw [IntKind.wrap_i64]; omega
      have hw2 : IntKind.i64.wrap (nx - 1) = nx - 1 := by have := HNXB.out; rw [IntKind.wrap_i64]; omega
      have HLN := Lib.hid (show (rdL bs k).2.length = k from rdVs_len _ _ _)
      have HSTEP := Lib.hid (show rdL bs (k + 1) = ((rdV1 nx (rdL bs k).1).1, (rdL bs k).2 ++ [(rdV1 nx (rdL bs k).1).2]) by rw [HX.out]; rfl)
      have HALL := Lib.hid (show okL (k + 1) (rdL bs n).2 = (okL k (rdL bs n).2 && (decide (lastI ((rdL bs n).2.take k) < ((rdL bs n).2.getD k zR).1) && mayR ((rdL bs n).2.getD k zR).2.1 ((rdL bs n).2.getD k zR).2.2.1 ((rdL bs n).2.getD k zR).2.2.2)) from rfl)
      have HT1 := Lib.hid (show (rdL bs n).2.take (k + 1) = (rdL bs (k + 1)).2 by have := rdL_take bs (k + 1) (n - (k + 1)); rwa [Nat.add_sub_cancel' (by omega)] at this)
      have HT0 := Lib.hid (show (rdL bs n).2.take k = (rdL bs k).2 by have := rdL_take bs k (n - k); rwa [Nat.add_sub_cancel' (by omega)] at this)
      have HLT := Lib.hid hlt
      clear hlt hk
      generalize hrk : rdL bs k = rk at *
      obtain ⟨st, l⟩ := rk
      dsimp only at HRL HOK HLN HSTEP HT0 ⊢
      clear hrk
      unfold rdV1 at HSTEP
      obtain ⟨s1, hs1⟩ : ∃ x, x = (smallF st (nx - 1)).1 := ⟨_, rfl⟩
      obtain ⟨x1, hx1⟩ : ∃ x, x = (smallF st (nx - 1)).2 := ⟨_, rfl⟩
      obtain ⟨s2, hs2⟩ : ∃ x, x = (intF s1).1 := ⟨_, rfl⟩
      obtain ⟨x2, hx2⟩ : ∃ x, x = (intF s1).2 := ⟨_, rfl⟩
      obtain ⟨s3, hs3⟩ : ∃ x, x = (intF s2).1 := ⟨_, rfl⟩
      obtain ⟨x3, hx3⟩ : ∃ x, x = (intF s2).2 := ⟨_, rfl⟩
      obtain ⟨s4, hs4⟩ : ∃ x, x = (smallF s3 64).1 := ⟨_, rfl⟩
      obtain ⟨x4, hx4⟩ : ∃ x, x = (smallF s3 64).2 := ⟨_, rfl⟩
      rw [← hs1, ← hs2, ← hs3, ← hs4, ← hx1, ← hx2, ← hx3, ← hx4] at HSTEP
      have HX1 := Lib.hid hx1
      have HS1 := Lib.hid hs1
      have HX2 := Lib.hid hx2
      have HS2 := Lib.hid hs2
      have HX3 := Lib.hid hx3
      have HS3 := Lib.hid hs3
      have HX4 := Lib.hid hx4
      have HS4 := Lib.hid hs4
      clear hs1 hs2 hs3 hs4 hx1 hx2 hx3 hx4
      obtain ⟨la, hla⟩ : ∃ x, x = lastI l := ⟨_, rfl⟩
      rw [← hla]
      have HLA := Lib.hid hla
      clear hla
      have c1 : wr.cell? ⟨F, 1, none⟩ = some (.int .i64 nx) := by obtain ⟨v, h1, _⟩ := HRL.out.blk; exact cell_of_block (o := 1) h1 rfl
      have K := Lib.hid (small_cur HRL.out.cur (nx - 1))
      rw [← HX1.out, ← HS1.out] at K
      go_wp2_with fail
      refine K.out.mono ?_
      rintro e wa ⟨rfl, hc, hf⟩
      have HRLa := Lib.hid (HRL.out.call hc hf)
      clear hc hf K HRL c1
      have K := Lib.hid (int_cur HRLa.out.cur)
      rw [← HX2.out, ← HS2.out] at K
      go_wp2_with fail
      refine K.out.mono ?_
      rintro e wb ⟨rfl, hc, hf⟩
      have HRLb := Lib.hid (HRLa.out.call hc hf)
      clear hc hf K HRLa
      have K := Lib.hid (int_cur HRLb.out.cur)
      rw [← HX3.out, ← HS3.out] at K
      go_wp2_with fail
      refine K.out.mono ?_
      rintro e wc ⟨rfl, hc, hf⟩
      have HRLc := Lib.hid (HRLb.out.call hc hf)
      clear hc hf K HRLb
      have K := Lib.hid (small_cur HRLc.out.cur 64)
      rw [← HX4.out, ← HS4.out] at K
      go_wp2_with fail
      refine K.out.mono ?_
      rintro e wd ⟨rfl, hc, hf⟩
      have HRLd := Lib.hid (HRLc.out.call hc hf)
      clear hc hf K HRLc
      clear HX1 HX2 HX3 HX4 HS1 HS2 HS3 HS4
      have ba := below_alloc (Below.refl _ wd) (.cells #[.int .i64 x1, .int .i64 x2, .int .i64 x3, .int .i64 x4] 64)
      have HNR := Lib.hid (World.alloc_heap_new wd (.cells #[.int .i64 x1, .int .i64 x2, .int .i64 x3, .int .i64 x4] 64))
      have HRe := Lib.hid (HRLd.out.below ba)
      have HROW := Lib.hid (show ∃ v, (wd.alloc (.cells #[.int .i64 x1, .int .i64 x2, .int .i64 x3, .int .i64 x4] 64)).heap[F]? = some (.cells #[v, .int .i64 nx] 53 (0, 0)) ∧ OwnR (wd.alloc (.cells #[.int .i64 x1, .int .i64 x2, .int .i64 x3, .int .i64 x4] 64)) (F + 1) v l ∧ ∀ j, v.ownBlock = some j → j < wd.heap.size from by
        obtain ⟨v, u1, u2⟩ := HRLd.out.blk
        exact ⟨v, (ba.block _ HRLd.out.lt).trans u1, u2.below ba, fun j hj => Ap.own_lt u2 j hj⟩)
      have HQF := Lib.hid HRLd.out.lt
      clear ba HRLd hw2
      go_upto_region 7 with fail
      generalize wd.alloc (.cells #[.int .i64 x1, .int .i64 x2, .int .i64 x3, .int .i64 x4] 64) = we at *
      have hqF := HQF.out
      generalize wd.heap.size = q at *
      have y0 : we.cell? ⟨q, 0, none⟩ = some (.int .i64 x1) := cell_of_block (o := 0) HNR.out rfl
      have y1 : we.cell? ⟨q, 1, none⟩ = some (.int .i64 x2) := cell_of_block (o := 1) HNR.out rfl
      have y2 : we.cell? ⟨q, 2, none⟩ = some (.int .i64 x3) := cell_of_block (o := 2) HNR.out rfl
      have y3 : we.cell? ⟨q, 3, none⟩ = some (.int .i64 x4) := cell_of_block (o := 3) HNR.out rfl
      have HGET := Lib.hid (show (rdL bs n).2.getD k zR = (x1, x2, x3, x4) by
        have h1 : ((rdL bs n).2.take (k + 1)).getD k zR = (rdL bs n).2.getD k zR := by simp [List.getD, List.getElem?_take]
        rw [← h1, HT1.out, HSTEP.out]
        dsimp only
        simp [List.getD, List.getElem?_append_right, HLN.out])
      have HKK := Lib.hid (show okL k (rdL bs n).2 = okL k l by
        have h1 : ∀ j, j ≤ k → okL j (rdL bs n).2 = okL j l := by
          intro j
          induction j with
          | zero => intro _; rfl
          | succ j ih =>
            intro hj
            unfold okL
            have e1 : (rdL bs n).2.take j = l.take j := by rw [← HT0.out, List.take_take, Nat.min_eq_left (by omega)]
            have e2 : (rdL bs n).2.getD j zR = l.getD j zR := by
              rw [← HT0.out]
              simp [List.getD, List.getElem?_take, show j < k by omega]
            rw [ih (by omega), e1, e2]
        exact h1 k (Nat.le_refl _))
      have HB := Lib.hid (show okL (k + 1) (rdL bs n).2 = (decide (la < x1) && mayR x2 x3 x4) by rw [HALL.out, HKK.out, HOK.out, HT0.out, ← HLA.out, HGET.out]; rfl)
      have HBAD := Lib.hid (fun (hb : (decide (la < x1) && mayR x2 x3 x4) = false) => (show okRd bs = false from by
        unfold okRd
        rw [← HN.out]
        cases hz : okL n (rdL bs n).2 with
        | false => rfl
        | true =>
          have h3 := okL_le (k := k + 1) (l := (rdL bs n).2) (n - (k + 1)) (by rw [Nat.add_sub_cancel' (by have := HLT.out; omega)]; exact hz)
          rw [HB.out, hb] at h3
          cases h3))
      clear HALL HKK HT1 HT0
      by_cases hle : x1 ≤ la
      case pos =>
        have d1 : decide (x1 ≤ la) = true := decide_eq_true hle
        have HOF := Lib.hid (HBAD.out (by rw [decide_eq_false (by omega)]; rfl))
        clear hle y1 y2 y3
        go_wp2_with fail
        try go_ret3
        exact HNO.out HOF.out _ _ rfl HRe.out.bel
      case neg =>
      have d1 : decide (x1 ≤ la) = false := decide_eq_false hle
      have HLE := Lib.hid (show decide (la < x1) = true from decide_eq_true (by omega))
      clear hle
      have KM := Lib.hid (may_any x2 x3 x4 we)
      generalize hmm : mayR x2 x3 x4 = mm at *
      go_wp2_with fail
      refine KM.out.mono ?_
      rintro e wf ⟨rfl, hb⟩
      have HRf := Lib.hid (HRe.out.below hb)
      have HNF := Lib.hid ((hb.block _ (Array.getElem?_eq_some_iff.1 HNR.out).1).trans HNR.out)
      have HROW2 := Lib.hid (show ∃ v, wf.heap[F]? = some (.cells #[v, .int .i64 nx] 53 (0, 0)) ∧ OwnR wf (F + 1) v l ∧ ∀ j, v.ownBlock = some j → j < q from by
        obtain ⟨v, u1, u2, u3⟩ := HROW.out
        exact ⟨v, (hb.block _ (Array.getElem?_eq_some_iff.1 u1).1).trans u1, u2.below hb, u3⟩)
      clear hb KM y0 y1 y2 y3 HRe HNR
      cases mm with
      | false =>
        have HOF := Lib.hid (HBAD.out (by rw [Bool.and_false]))
        go_wp2_with fail
        try go_ret3
        exact HNO.out HOF.out _ _ rfl HRf.out.bel
      | true =>
      clear HBAD
      have HB2 := Lib.hid (show okL (k + 1) (l ++ [(x1, x2, x3, x4)]) = true from by
        have h1 : ∀ j, j ≤ k → okL j (l ++ [(x1, x2, x3, x4)]) = okL j l := by
          intro j
          induction j with
          | zero => intro _; rfl
          | succ j ih =>
            intro hj
            have hjl : j < l.length := by have := HLN.out; omega
            unfold okL
            have e1 : (l ++ [(x1, x2, x3, x4)]).take j = l.take j := List.take_append_of_le_length (by omega)
            have e2 : (l ++ [(x1, x2, x3, x4)]).getD j zR = l.getD j zR := by simp [List.getD, List.getElem?_append_left hjl]
            rw [ih (by omega), e1, e2]
        have e1 : (l ++ [(x1, x2, x3, x4)]).take k = l := by rw [List.take_append_of_le_length (by have := HLN.out; omega), List.take_of_length_le (by have := HLN.out; omega)]
        have e2 : (l ++ [(x1, x2, x3, x4)]).getD k zR = (x1, x2, x3, x4) := by simp [List.getD, List.getElem?_append_right, HLN.out]
        unfold okL
        rw [h1 k (Nat.le_refl _), HOK.out, e1, e2, ← HLA.out]
        dsimp only
        rw [HLE.out, hmm]
        rfl)
      obtain ⟨v, hv1, hv2, hv3⟩ := HROW2.out
      have HROWQ := Lib.hid hv3
      obtain ⟨a, c, hv⟩ := hv2.form
      rw [HLN.out] at hv
      subst hv
      go_upto_region 9 with fail
      refine Ap.wp_region_K (S1 := fun X => X.cell? ⟨q, 0, none⟩ = some (.int .i64 x1) ∧ X.cell? ⟨q, 1, none⟩ = some (.int .i64 x2) ∧ X.cell? ⟨q, 2, none⟩ = some (.int .i64 x3) ∧ X.cell? ⟨q, 3, none⟩ = some (.int .i64 x4)) (S2 := fun X => X.cell? ⟨F, 0, none⟩ = some (.slice a k c)) (js := 12) hmx ?_
      change Ap.wpAnyK _ _ _ _ _ _ _ 14 _ _ wf.drew
      have HRd := Lib.hid (HRf.out.below (show Below wf.heap.size wf wf.drew from (Below.refl _ _).drew))
      have HV0 := Lib.hid (show wf.drew.heap[F]? = some (.cells #[.slice a k c, .int .i64 nx] 53 (0, 0)) from hv1)
      have HO0 := Lib.hid (show OwnR wf.drew (F + 1) (.slice a k c) l from hv2.below (show Below wf.heap.size wf wf.drew from (Below.refl _ _).drew))
      have HN0 := Lib.hid (show wf.drew.heap[q]? = some (.cells #[.int .i64 x1, .int .i64 x2, .int .i64 x3, .int .i64 x4] 64 (0, 0)) from HNF.out)
      generalize wf.drew = W0 at *
      clear hv1 hv2 hv3 HRf HNF HROW HROW2
      have hS1 : ∀ X : World, X.heap[q]? = some (.cells #[.int .i64 x1, .int .i64 x2, .int .i64 x3, .int .i64 x4] 64 (0, 0)) → (fun X : World => X.cell? ⟨q, 0, none⟩ = some (.int .i64 x1) ∧ X.cell? ⟨q, 1, none⟩ = some (.int .i64 x2) ∧ X.cell? ⟨q, 2, none⟩ = some (.int .i64 x3) ∧ X.cell? ⟨q, 3, none⟩ = some (.int .i64 x4)) X := fun X h => ⟨cell_of_block (o := 0) h rfl, cell_of_block (o := 1) h rfl, cell_of_block (o := 2) h rfl, cell_of_block (o := 3) h rfl⟩
      have HS1 := Lib.hid hS1
      clear hS1
      have hSS : (fun X : World => X.cell? ⟨q, 0, none⟩ = some (.int .i64 x1) ∧ X.cell? ⟨q, 1, none⟩ = some (.int .i64 x2) ∧ X.cell? ⟨q, 2, none⟩ = some (.int .i64 x3) ∧ X.cell? ⟨q, 3, none⟩ = some (.int .i64 x4)) W0 ∧ (fun X : World => X.cell? ⟨F, 0, none⟩ = some (.slice a k c)) W0 := ⟨HS1.out _ HN0.out, cell_of_block (o := 0) HV0.out rfl⟩
      refine Ap.wpAnyK_take1 (i := 0) (v := .pointer (some ⟨F, 0, none⟩)) rfl (by decide) (by decide +kernel) (by decide +kernel) (by decide +kernel) (fun _ _ _ h => h) (.inl ⟨by first | rfl | (go_simp; done), fun X hX => by have hx1 := hX.1; have hx2 := hX.2.1; have hx3 := hX.2.2.1; have hx4 := hX.2.2.2; clear hX; first | (go_simp; done) | (go_simp; rfl)⟩) hSS ?_
      refine Ap.wpAnyK_take1 (i := 1) (v := .pointer (some ⟨F, 0, none⟩)) rfl (by decide) (by decide +kernel) (by decide +kernel) (by decide +kernel) (fun _ _ _ h => h) (.inl ⟨by first | rfl | (go_simp; done), fun X hX => by have hx1 := hX.1; have hx2 := hX.2.1; have hx3 := hX.2.2.1; have hx4 := hX.2.2.2; clear hX; first | (go_simp; done) | (go_simp; rfl)⟩) hSS ?_
      refine Ap.wpAnyK_take1 (i := 2) (v := .pointer (some ⟨F, 0, none⟩)) rfl (by decide) (by decide +kernel) (by decide +kernel) (by decide +kernel) (fun _ _ _ h => h) (.inl ⟨by first | rfl | (go_simp; done), fun X hX => by have hx1 := hX.1; have hx2 := hX.2.1; have hx3 := hX.2.2.1; have hx4 := hX.2.2.2; clear hX; first | (go_simp; done) | (go_simp; rfl)⟩) hSS ?_
      refine Ap.wpAnyK_take1 (i := 3) (v := .pointer (some ⟨F, 0, none⟩)) rfl (by decide) (by decide +kernel) (by decide +kernel) (by decide +kernel) (fun _ _ _ h => h) (.inl ⟨by first | rfl | (go_simp; done), fun X hX => by have hx1 := hX.1; have hx2 := hX.2.1; have hx3 := hX.2.2.1; have hx4 := hX.2.2.2; clear hX; first | (go_simp; done) | (go_simp; rfl)⟩) hSS ?_
      refine Ap.wpAnyK_take2 (i := 4) (v := .slice a k c) rfl (by decide) (by decide +kernel) (by decide +kernel) (by decide +kernel) rfl (by decide +kernel) (by decide +kernel) (fun _ _ _ h => h) (.inl ⟨by first | rfl | (go_simp; done), fun X hX => by have hx1 := hX.2; clear hX; first | (go_simp; done) | (go_simp; rfl)⟩) hSS ?_
      refine Ap.wpAnyK_take1 (i := 5) (v := .agg #[.int .i64 x1, .int .i64 x2, .int .i64 x3, .int .i64 x4]) rfl (by decide) (by decide +kernel) (by decide +kernel) (by decide +kernel) (fun _ _ _ h => h) (.inl ⟨by first | rfl | (go_simp; done), fun X hX => by have hx1 := hX.1; have hx2 := hX.2.1; have hx3 := hX.2.2.1; have hx4 := hX.2.2.2; clear hX; first | (go_simp; done) | (go_simp; rfl)⟩) hSS ?_
      refine Ap.wpAnyK_take1 (i := 8) (v := .pointer (some ⟨q, 0, none⟩)) rfl (by decide) (by decide +kernel) (by decide +kernel) (by decide +kernel) (fun _ _ _ h => h) (.inl ⟨by first | rfl | (go_simp; done), fun X hX => by have hx1 := hX.1; have hx2 := hX.2.1; have hx3 := hX.2.2.1; have hx4 := hX.2.2.2; clear hX; first | (go_simp; done) | (go_simp; rfl)⟩) hSS ?_
      refine Ap.wpAnyK_take1 (i := 9) (v := .int .i64 x1) rfl (by decide) (by decide +kernel) (by decide +kernel) (by decide +kernel) (fun _ _ _ h => h) (.inl ⟨by first | rfl | (go_simp; done), fun X hX => by have hx1 := hX.1; have hx2 := hX.2.1; have hx3 := hX.2.2.1; have hx4 := hX.2.2.2; clear hX; first | (go_simp; done) | (go_simp; rfl)⟩) hSS ?_
      clear hSS
      have hba := below_alloc (Below.refl _ W0) (.cells #[.int .i64 x1, .int .i64 x2, .int .i64 x3, .int .i64 x4] 64)
      have hSa := HS1.out _ ((hba.block _ (Array.getElem?_eq_some_iff.1 HN0.out).1).trans HN0.out)
      have hSb : (fun X : World => X.cell? ⟨F, 0, none⟩ = some (.slice a k c)) (W0.alloc (.cells #[.int .i64 x1, .int .i64 x2, .int .i64 x3, .int .i64 x4] 64)) := cell_of_block (o := 0) ((hba.block _ (Array.getElem?_eq_some_iff.1 HV0.out).1).trans HV0.out) rfl
      refine Ap.anyK_val1 (i := 6) (v := .slice (some ⟨W0.heap.size, 0, none⟩) 1 1) (w' := W0.alloc (.cells #[.int .i64 x1, .int .i64 x2, .int .i64 x3, .int .i64 x4] 64)) (by decide +kernel) rfl rfl (by first | (go_simp; done) | (go_simp; rfl)) ⟨hSa, hSb⟩ ?_
      clear hSa hSb hba
      have HO1 := Lib.hid (show W0.ownsRow (F + 1) 64 4 (.slice a k c) k (flatR l) from by have := HO0.out; unfold OwnR at this; rw [HLN.out] at this; exact this)
      obtain ⟨v9, W9, g0, g1, g2, g3, g4, g5⟩ := Ao.app_one eltR 49 HO1.out (cellR (x1, x2, x3, x4)) rfl (cellR_one _) (by have := HCNT.out; have := HLT.out; omega) (by decide) (Array.getElem?_eq_some_iff.1 HV0.out).1
      have ho9 : OwnR W9 (F + 1) v9 (l ++ [(x1, x2, x3, x4)]) := by
        unfold OwnR
        rw [List.length_append, flatR_snoc, HLN.out]
        exact g1
      obtain ⟨a9, c9, hf9⟩ := ho9.form
      have hf8 : v9 = .slice a9 (k + 1) c9 := by rw [hf9, List.length_append, HLN.out]; rfl
      subst hf8
      have hq9 := (g2 q (Array.getElem?_eq_some_iff.1 HN0.out).1 (fun e => Nat.lt_irrefl _ (HROWQ.out q e))).trans HN0.out
      have hF9 := (g5.block F (Nat.lt_succ_self _)).trans HV0.out
      refine Ap.anyK_val1 (i := 7) (v := .slice a9 (k + 1) c9) (w' := W9) (by decide +kernel) rfl rfl (Ap.exec_app rfl (by go_simp) (by go_simp) g0) ⟨HS1.out _ hq9, cell_of_block (o := 0) hF9 rfl⟩ ?_
      have hSS : (fun X : World => X.cell? ⟨q, 0, none⟩ = some (.int .i64 x1) ∧ X.cell? ⟨q, 1, none⟩ = some (.int .i64 x2) ∧ X.cell? ⟨q, 2, none⟩ = some (.int .i64 x3) ∧ X.cell? ⟨q, 3, none⟩ = some (.int .i64 x4)) W9 ∧ (fun X : World => X.cell? ⟨F, 0, none⟩ = some (.slice a k c)) W9 := ⟨HS1.out _ hq9, cell_of_block (o := 0) hF9 rfl⟩
      refine Ap.wpAnyK_take1 (i := 10) (v := .pointer (some ⟨F, 0, none⟩)) rfl (by decide) (by decide +kernel) (by decide +kernel) (by decide +kernel) (fun _ _ _ h => h) (.inl ⟨by first | rfl | (go_simp; done), fun X hX => by have hx1 := hX.1; have hx2 := hX.2.1; have hx3 := hX.2.2.1; have hx4 := hX.2.2.2; clear hX; first | (go_simp; done) | (go_simp; rfl)⟩) hSS ?_
      refine Ap.wpAnyK_take1 (i := 11) (v := .pointer (some ⟨F, 0, none⟩)) rfl (by decide) (by decide +kernel) (by decide +kernel) (by decide +kernel) (fun _ _ _ h => h) (.inl ⟨by first | rfl | (go_simp; done), fun X hX => by have hx1 := hX.1; have hx2 := hX.2.1; have hx3 := hX.2.2.1; have hx4 := hX.2.2.2; clear hX; first | (go_simp; done) | (go_simp; rfl)⟩) hSS ?_
      clear hSS
      have z0 := cell_of_block (o := 0) hF9 rfl
      have z1 := free_of_block 0 hF9
      have hw := (wrote_refl hF9).set 0 (.slice a9 (k + 1) c9)
      have HRX := Lib.hid (show RL w (W9.setCell ⟨F, 0, none⟩ (.slice a9 (k + 1) c9)) C F s4 (l ++ [(x1, x2, x3, x4)]) nx from
        HRd.out.lay (hw.below (g5.mono (Nat.le_succ _)) (Nat.le_refl _)) hw.there (ho9.keep fun j hj => hw.rest j (by have := Ap.own_blk ho9 j hj; omega)))
      have hs9 := HS1.out _ ((hw.rest q (by omega)).trans hq9)
      clear hw g0 g1 g2 g3 g4 g5 ho9 hf9
      refine Ap.anyK_store (i := 12) (w' := W9.setCell ⟨F, 0, none⟩ (.slice a9 (k + 1) c9)) (by decide +kernel) rfl rfl (by decide +kernel) (by first | (go_simp; done) | (go_simp; rfl)) hs9 ?_
      clear z0 z1 hF9 hq9
      generalize W9.setCell ⟨F, 0, none⟩ (.slice a9 (k + 1) c9) = WX at *
      refine anyK_lastR (i := 13) (v := .int .i64 x1) (by decide +kernel) rfl rfl (by decide +kernel) (by first | (go_simp; done) | (go_simp; rfl)) hs9 ?_
      refine Ap.wpAnyK_done (by decide +kernel) ?_ _
      clear hs9
      have HREL := Lib.hid (show ∃ k' : Nat, k' ≤ n ∧ Value.int .i64 ((k : Int) + 1) = .int .i64 k' ∧ Value.int .i64 x1 = .int .i64 (lastI (rdL bs k').2) ∧ okL k' (rdL bs k').2 = true ∧ RL w WX C F (rdL bs k').1 (rdL bs k').2 nx from
        ⟨k + 1, by have := HLT.out; omega, by simp, by rw [HSTEP.out]; dsimp only; rw [lastI_snoc], by rw [HSTEP.out]; exact HB2.out, by rw [HSTEP.out]; exact HRX.out⟩)
      have HLT2 := Lib.hid HLT.out
      go_simp
      go_wp2_with fail
      go_roundw
      case rel => exact HREL.out
      case measure => have := HLT2.out; simp [intOf]; omega
    case neg =>
      obtain rfl : k = n := by omega
      have hd : decide (k < k) = false := decide_eq_false (by omega)
      have hd2 : decide ((k : Int) < (k : Int)) = false := decide_eq_false (by omega)
      have HOKR := Lib.hid (show okRd bs = (((rdL bs k).1.bad == 0) && decide (1 ≤ nx)) by unfold okRd; rw [← HN.out, HOK.out, HX.out]; rfl)
      have HYE := Lib.hid (fun (hh : okRd bs = true) e w' (he : e = .returned (.tuple #[.pointer (some ⟨F, 0, none⟩), .int .i64 ((bs.length : Int) - ((rdL bs k).1.xs.length : Int)), .int .i64 0])) (hr : Rs w' w.heap.size F (rdL bs k).2 nx) (hb : Below w.heap.size w w') => HYES.out hh e w' F (by rw [← HN.out]; exact he) HGF.out (by rw [← HN.out, ← HX.out]; exact hr) hb)
      have HLN := Lib.hid (show (rdL bs k).2.length = k from rdVs_len _ _ _)
      have KB := Lib.hid (bad_cur HRL.out.cur (HE.out _ HRL.out.bel))
      have HFT := Lib.hid HRL.out.cur.fits
      generalize rdL bs k = rk at *
      obtain ⟨st, l⟩ := rk
      dsimp only at HRL HLN HOKR KB HYE HFT ⊢
      obtain ⟨bd, hbd⟩ : ∃ x, x = st.bad := ⟨_, rfl⟩
      rw [← hbd] at KB HOKR
      clear hbd HYES
      go_wp2_with fail
      refine KB.out.mono ?_
      rintro e w5 ⟨rfl, hb⟩
      have HR5 := Lib.hid (HRL.out.below hb)
      clear hb KB HRL
      by_cases h0 : bd = 0
      case neg =>
        have hne : (bd == 0) = false := by simpa using h0
        have hne2 : (bd != 0) = true := by simp [h0]
        have HOF := Lib.hid (show okRd bs = false by rw [HOKR.out, hne]; rfl)
        clear h0
        go_wp2_with fail
        try go_ret3
        exact HNO.out HOF.out _ _ rfl HR5.out.bel
      case pos =>
      subst h0
      have c1 : w5.cell? ⟨F, 1, none⟩ = some (.int .i64 nx) := by obtain ⟨v, h1, _⟩ := HR5.out.blk; exact cell_of_block (o := 1) h1 rfl
      by_cases hn1 : nx < 1
      case pos =>
        have d1 : decide (nx < 1) = true := decide_eq_true hn1
        have HOF := Lib.hid (show okRd bs = false by rw [HOKR.out, decide_eq_false (by omega)]; rfl)
        clear hn1
        go_wp2_with fail
        try go_ret3
        exact HNO.out HOF.out _ _ rfl HR5.out.bel
      case neg =>
      have d1 : decide (nx < 1) = false := decide_eq_false hn1
      have HOT := Lib.hid (show okRd bs = true by rw [HOKR.out, decide_eq_true (by omega)]; rfl)
      have HRS := Lib.hid (show Rs w5 w.heap.size F l nx from by
        obtain ⟨v, h1, h2⟩ := HR5.out.blk
        exact ⟨⟨v, h1, h2.base (by have := HGF.out; omega), fun e => by have := Ap.own_blk h2 F e; omega⟩, by have := HNXB.out; omega, by rw [HLN.out]; exact HCNT.out.2⟩)
      have KRS := Lib.hid (rest_cur HR5.out.cur)
      obtain ⟨rl, hrl⟩ : ∃ x, x = st.xs.length := ⟨_, rfl⟩
      rw [← hrl] at KRS HFT HYE
      have hws : IntKind.i64.wrap ((nb : Int) - (rl : Int)) = (nb : Int) - (rl : Int) := by have := HFT.out; have := HNB.out; have := HBL.out; rw [IntKind.wrap_i64]; omega
      clear hrl hn1
      go_wp2_with fail
      refine KRS.out.mono ?_
      rintro e w' ⟨rfl, rfl⟩
      have HNBB := Lib.hid HNB.out
      rw [← HNB.out] at HYE
      go_wp2_with fail
      try go_ret3
      exact HYE.out HOT.out _ _ rfl HRS.out HR5.out.bel
end Go.Proofs.YtddoknkmmchkmaaDoor
namespace Go.Proofs.YtddoknkmmchkmaaDoor
set_option linter.unusedVariables false
open Go Go.RowKit

/-- so many numbers -/
def intsK (st : CS) : Nat → CS × List Int
  | 0 => (st, [])
  | k + 1 => ((intF (intsK st k).1).1, (intsK st k).2 ++ [(intF (intsK st k).1).2])
theorem intsK_len (st : CS) : ∀ k, (intsK st k).2.length = k
  | 0 => rfl
  | k + 1 => by simp [intsK, intsK_len st k]
def rv4 (st : CS) : CS × RV := ((intsK st 4).1, ((intF st).2, (intF (intF st).1).2, (intF (intF (intF st).1).1).2, (intF (intF (intF (intF st).1).1).1).2))
theorem intsK4 (st : CS) : (intsK st 4).2 = [(rv4 st).2.1, (rv4 st).2.2.1, (rv4 st).2.2.2.1, (rv4 st).2.2.2.2] := rfl
def dd0 (bs : List Int) : CS × Int := intF ⟨bs, 0⟩
def dd1 (bs : List Int) : CS × Int := smallF (dd0 bs).1 8
def cntD (bs : List Int) : Nat := (dd1 bs).2.toNat
def dVs (st : CS) : Nat → CS × List RV
  | 0 => (st, [])
  | k + 1 => ((rv4 (dVs st k).1).1, (dVs st k).2 ++ [(rv4 (dVs st k).1).2])
theorem dVs_len (st : CS) : ∀ k, (dVs st k).2.length = k
  | 0 => rfl
  | k + 1 => by simp [dVs, dVs_len st k]
def dL (bs : List Int) (k : Nat) : CS × List RV := dVs (dd1 bs).1 k
/-- a round is as it may be -/
def okS (nx : Int) (st : CS) (l : List RV) : Bool := ((rv4 st).1.bad == 0) && (decide (lastI l < (rv4 st).2.1 ∧ (rv4 st).2.1 < nx ∧ (rv4 st).2.2.2.2 ≤ 64) && mayR (rv4 st).2.2.1 (rv4 st).2.2.2.1 (rv4 st).2.2.2.2)
def okR9 (bs : List Int) : Nat → Bool
  | 0 => true
  | k + 1 => okR9 bs k && okS (dd0 bs).2 (dL bs k).1 (dL bs k).2
def headR (bs : List Int) : Bool := ((dd1 bs).1.bad == 0) && decide (1 ≤ (dd0 bs).2 ∧ (dd0 bs).2 ≤ 1073741825)
def okDd (bs : List Int) : Bool := headR bs && okR9 bs (cntD bs)
theorem okR9_le {bs : List Int} {k : Nat} : ∀ j, okR9 bs (k + j) = true → okR9 bs k = true
  | 0, h => h
  | j + 1, h => okR9_le j (by
      have e : okR9 bs (k + (j + 1)) = (okR9 bs (k + j) && okS (dd0 bs).2 (dL bs (k + j)).1 (dL bs (k + j)).2) := rfl
      rw [e, Bool.and_eq_true] at h
      exact h.1)
theorem intF_bad0 {st : CS} (h : (intF st).1.bad = 0) : st.bad = 0 := by
  refine Classical.byContradiction fun hn => ?_
  rw [Cs.intF_off hn] at h
  exact hn h
/-- a small number that is read well is just a number -/
theorem smallF_inR {st : CS} {m : Int} (h1 : 0 ≤ (intF st).2) (h2 : (intF st).2 ≤ m) : smallF st m = intF st := by
  unfold smallF
  rw [if_neg (by omega)]
theorem smallF_ok {st : CS} {m : Int} (h : (smallF st m).1.bad = 0) : smallF st m = intF st ∧ 0 ≤ (intF st).2 ∧ (intF st).2 ≤ m := by
  unfold smallF at h ⊢
  split at h
  · rename_i hc
    unfold failF at h
    split at h
    · exact absurd h (by decide)
    · rename_i hn
      exact absurd h hn
  · rename_i hc
    rw [if_neg hc]
    exact ⟨rfl, by omega, by omega⟩
theorem rdV1_bad {nx : Int} {st : CS} (h : (rdV1 nx st).1.bad = 0) : rdV1 nx st = rv4 st ∧ st.bad = 0 ∧ 0 ≤ (rv4 st).2.1 ∧ (rv4 st).2.1 ≤ nx - 1 ∧ (rv4 st).2.2.2.2 ≤ 64 := by
  unfold rdV1 at h ⊢
  dsimp only at h
  obtain ⟨e4, a4, b4⟩ := smallF_ok h
  rw [e4] at h
  have h3 := intF_bad0 (intF_bad0 (intF_bad0 h))
  obtain ⟨e1, a1, b1⟩ := smallF_ok h3
  rw [e1] at e4 a4 b4 h3 ⊢
  rw [e4]
  exact ⟨rfl, intF_bad0 h3, a1, b1, b4⟩
theorem rdV1_rv4 {nx : Int} {st : CS} (h1 : 0 ≤ (rv4 st).2.1) (h2 : (rv4 st).2.1 ≤ nx - 1) (h3 : 0 ≤ (rv4 st).2.2.2.2) (h4 : (rv4 st).2.2.2.2 ≤ 64) : rdV1 nx st = rv4 st := by
  unfold rdV1
  rw [smallF_inR (st := st) (m := nx - 1) h1 h2, smallF_inR (st := (intF (intF (intF st).1).1).1) (m := 64) h3 h4]
  rfl
theorem lastI_ge {bs : List Int} : ∀ k, okR9 bs k = true → 0 ≤ lastI (dL bs k).2
  | 0, _ => Int.le_refl 0
  | k + 1, h => by
    have e : okR9 bs (k + 1) = (okR9 bs k && okS (dd0 bs).2 (dL bs k).1 (dL bs k).2) := rfl
    rw [e, Bool.and_eq_true] at h
    have h1 := lastI_ge k h.1
    have h2 := h.2
    unfold okS at h2
    rw [Bool.and_eq_true, Bool.and_eq_true, decide_eq_true_eq] at h2
    have e2 : (dL bs (k + 1)).2 = (dL bs k).2 ++ [(rv4 (dL bs k).1).2] := rfl
    rw [e2, lastI_snoc]
    omega
theorem okL_snoc {l : List RV} {r : RV} {k : Nat} (hl : l.length = k) : okL (k + 1) (l ++ [r]) = (okL k l && (decide (lastI l < r.1) && mayR r.2.1 r.2.2.1 r.2.2.2)) := by
  have h1 : ∀ j, j ≤ k → okL j (l ++ [r]) = okL j l := by
    intro j
    induction j with
    | zero => intro _; rfl
    | succ j ih =>
      intro hj
      have hjl : j < l.length := by omega
      unfold okL
      have e1 : (l ++ [r]).take j = l.take j := List.take_append_of_le_length (by omega)
      have e2 : (l ++ [r]).getD j zR = l.getD j zR := by simp [List.getD, List.getElem?_append_left hjl]
      rw [ih (by omega), e1, e2]
  have e1 : (l ++ [r]).take k = l := by rw [List.take_append_of_le_length (by omega), List.take_of_length_le (by omega)]
  have e2 : (l ++ [r]).getD k zR = r := by simp [List.getD, List.getElem?_append_right, hl]
  show (okL k (l ++ [r]) && _) = _
  rw [h1 k (Nat.le_refl _), e1, e2]
/-- where the document's rounds are well the program's are the same -/
theorem same_fwd {bs : List Int} (h0 : rd0 bs = dd0 bs) (h1 : rdN0 bs = dd1 bs) : ∀ k, okR9 bs k = true → rdL bs k = dL bs k ∧ okL k (dL bs k).2 = true
  | 0, _ => ⟨by unfold rdL dL; rw [h1]; rfl, rfl⟩
  | k + 1, h => by
    have e : okR9 bs (k + 1) = (okR9 bs k && okS (dd0 bs).2 (dL bs k).1 (dL bs k).2) := rfl
    rw [e, Bool.and_eq_true] at h
    obtain ⟨a1, a2⟩ := same_fwd h0 h1 k h.1
    have hge := lastI_ge k h.1
    have h2 := h.2
    unfold okS at h2
    rw [Bool.and_eq_true, Bool.and_eq_true, decide_eq_true_eq, beq_iff_eq] at h2
    obtain ⟨b1, ⟨b2, b3, b4⟩, b5⟩ := h2
    have b6 := b5
    unfold mayR at b6
    rw [decide_eq_true_eq] at b6
    have e1 : rdL bs (k + 1) = ((rdV1 (rd0 bs).2 (rdL bs k).1).1, (rdL bs k).2 ++ [(rdV1 (rd0 bs).2 (rdL bs k).1).2]) := rfl
    have e2 : dL bs (k + 1) = ((rv4 (dL bs k).1).1, (dL bs k).2 ++ [(rv4 (dL bs k).1).2]) := rfl
    have e3 : rdV1 (rd0 bs).2 (rdL bs k).1 = rv4 (dL bs k).1 := by
      rw [a1, h0]
      exact rdV1_rv4 (by omega) (by omega) (by omega) b4
    refine ⟨by rw [e1, e2, e3, a1], ?_⟩
    rw [e2]
    dsimp only
    rw [okL_snoc (show (dL bs k).2.length = k from dVs_len _ k), a2, decide_eq_true b2, b5]
    rfl
/-- where the program's reading is well the document's rounds are -/
theorem same_bwd {bs : List Int} (h0 : rd0 bs = dd0 bs) (h1 : rdN0 bs = dd1 bs) : ∀ k, okL k (rdL bs k).2 = true → (rdL bs k).1.bad = 0 → rdL bs k = dL bs k ∧ okR9 bs k = true
  | 0, _, _ => ⟨by unfold rdL dL; rw [h1]; rfl, rfl⟩
  | k + 1, hk, hb => by
    have e1 : rdL bs (k + 1) = ((rdV1 (rd0 bs).2 (rdL bs k).1).1, (rdL bs k).2 ++ [(rdV1 (rd0 bs).2 (rdL bs k).1).2]) := rfl
    have e2 : dL bs (k + 1) = ((rv4 (dL bs k).1).1, (dL bs k).2 ++ [(rv4 (dL bs k).1).2]) := rfl
    rw [e1] at hk hb
    dsimp only at hk hb
    rw [okL_snoc (show (rdL bs k).2.length = k from rdVs_len _ _ k), Bool.and_eq_true, Bool.and_eq_true, decide_eq_true_eq] at hk
    obtain ⟨c1, c2, c3, c4, c5⟩ := rdV1_bad hb
    obtain ⟨a1, a2⟩ := same_bwd h0 h1 k hk.1 c2
    rw [c1, a1] at hk
    rw [a1] at c1 c3 c4 c5 hb
    rw [h0] at c1 c4 hb
    refine ⟨by rw [e1, e2, a1, h0, c1], ?_⟩
    show (okR9 bs k && okS (dd0 bs).2 (dL bs k).1 (dL bs k).2) = true
    rw [c1] at hb
    rw [a2, Bool.true_and]
    unfold okS
    rw [hb, hk.2.2, decide_eq_true ⟨hk.2.1, by omega, c5⟩]
    rfl
theorem rdVs_bad {nx : Int} {st : CS} : ∀ k, (rdVs nx st k).1.bad = 0 → st.bad = 0
  | 0, h => h
  | k + 1, h => rdVs_bad k (rdV1_bad h).2.1
/-- the document's reading of a list is the program's -/
theorem okD18 (bs : List Int) : okDd bs = okRd bs ∧ (okDd bs = true → dL bs (cntD bs) = rdL bs (cntR bs) ∧ (dd0 bs).2 = (rd0 bs).2 ∧ cntD bs = cntR bs) := by
  have fwd : okDd bs = true → okRd bs = true ∧ dL bs (cntD bs) = rdL bs (cntR bs) ∧ (dd0 bs).2 = (rd0 bs).2 ∧ cntD bs = cntR bs := by
    intro h
    unfold okDd headR at h
    rw [Bool.and_eq_true, Bool.and_eq_true, beq_iff_eq, decide_eq_true_eq] at h
    obtain ⟨⟨hb, h1, h2⟩, hr⟩ := h
    have e0 : rd0 bs = dd0 bs := by unfold rd0; exact smallF_inR (by show (0 : Int) ≤ (dd0 bs).2; omega) h2
    have e1 : rdN0 bs = dd1 bs := by unfold rdN0 dd1; rw [e0]
    have e2 : cntD bs = cntR bs := by unfold cntD cntR; rw [e1]
    obtain ⟨a1, a2⟩ := same_fwd e0 e1 _ hr
    refine ⟨?_, by rw [← e2, a1], by rw [e0], e2⟩
    unfold okRd
    rw [← e2, a1, a2, e0, decide_eq_true h1]
    have hbad : ∀ k, okR9 bs k = true → (dL bs k).1.bad = 0 := by
      intro k
      cases k with
      | zero => intro _; exact hb
      | succ k =>
        intro h
        have e : okR9 bs (k + 1) = (okR9 bs k && okS (dd0 bs).2 (dL bs k).1 (dL bs k).2) := rfl
        rw [e, Bool.and_eq_true] at h
        have h2 := h.2
        unfold okS at h2
        rw [Bool.and_eq_true, beq_iff_eq] at h2
        exact h2.1
    rw [hbad _ hr]
    rfl
  have bwd : okRd bs = true → okDd bs = true := by
    intro h
    unfold okRd at h
    rw [Bool.and_eq_true, Bool.and_eq_true, beq_iff_eq, decide_eq_true_eq] at h
    obtain ⟨⟨hk, hb⟩, h1⟩ := h
    have hb1 : (rdN0 bs).1.bad = 0 := rdVs_bad _ hb
    have hb0 : (rd0 bs).1.bad = 0 := Cs.smallF_bad0 (by decide) hb1
    obtain ⟨e0, a0, b0⟩ := smallF_ok (show (smallF ⟨bs, 0⟩ 1073741825).1.bad = 0 from hb0)
    have e0' : rd0 bs = dd0 bs := e0
    have e1 : rdN0 bs = dd1 bs := by unfold rdN0 dd1; rw [e0']
    have e2 : cntD bs = cntR bs := by unfold cntD cntR; rw [e1]
    obtain ⟨c1, c2⟩ := same_bwd e0' e1 _ hk hb
    unfold okDd headR
    rw [e2, c2, ← e1, hb1]
    rw [e0'] at h1
    rw [decide_eq_true ⟨h1, b0⟩]
    rfl
  refine ⟨?_, fun h => (fwd h).2⟩
  cases h1 : okDd bs with
  | true => exact (fwd h1).1.symm
  | false =>
    cases h2 : okRd bs with
    | false => rfl
    | true => rw [bwd h2] at h1; cases h1
end Go.Proofs.YtddoknkmmchkmaaDoor
namespace Go.Proofs.YtddoknkmmchkmaaDoor
set_option linter.unusedVariables false
open Go.ChangeShapes Go.WideShapes Go.ChangeAt Go.RowKit
attribute [local go_sem ↓] Go.wp_at_zero Go.wp_at_succ comesTo_value_eq comesTo_skip_eq comesTo_enter_eq

set_option maxRecDepth 100000 in
set_option maxHeartbeats 2000000 in
theorem rmay_any (f t W : Int) (w : World) : Calls Tryd.prog 28 #[.agg #[.int .i64 f, .int .i64 t], .int .i64 W] w fun e w' => e = .returned (.bool (mayR f t W)) ∧ Below w.heap.size w w' := by
  have hA := below_alloc (Below.refl _ w) (.cells #[.int .i64 f, .int .i64 t] 75)
  have hN := World.alloc_heap_new w (.cells #[.int .i64 f, .int .i64 t] 75)
  have HA := Lib.hid hA
  have HN := Lib.hid hN
  clear hA hN
  unfold mayR
  go_enter Tryd.func28, Tryd.ntmps28
  go_upto_region 1 with fail
  generalize w.alloc (.cells #[.int .i64 f, .int .i64 t] 75) = W0 at *
  have c0 : W0.cell? ⟨w.heap.size, 0, none⟩ = some (.int .i64 f) := cell_of_block (o := 0) HN.out rfl
  have c1 : W0.cell? ⟨w.heap.size, 1, none⟩ = some (.int .i64 t) := cell_of_block (o := 1) HN.out rfl
  go_wp2
  all_goals go_ret
  all_goals exact ⟨ret_bool (by rw [Bool.eq_iff_iff]; simp; omega), HA.out⟩
set_option maxRecDepth 100000 in
theorem own01_any (f t : Int) (w : World) :
    Calls Tryd.prog 54 #[.agg #[.int .i64 f, .int .i64 t]] w fun e w' => e = .returned (.agg #[.int .i64 f, .int .i64 t]) ∧ Below w.heap.size w w' := by
  go_enter Tryd.func54, Tryd.ntmps54
  go_wp2
  exact bodyPost_ret (v := .agg #[.int .i64 f, .int .i64 t]) (by simp [results, Tryd.results54, go_sem]) rfl ⟨rfl, (by repeat (first | exact Below.refl _ _ | assumption | refine below_drewN ?_ _ | refine Below.drew ?_ | refine below_alloc ?_ _ | refine Below.alloc ?_ (by first | omega | (simp; done) | (simp; omega)) _ | refine Below.setCell ?_ (Below.size (by assumption)) _ | refine Below.setCell ?_ (by first | omega | (simp; done) | (simp; omega)) _ | (refine Below.trans ?_ (Below.mono (by assumption) (by first | omega | (simp; done) | (simp; omega)))) | refine below_next ?_ (by assumption)))⟩
end Go.Proofs.YtddoknkmmchkmaaDoor
namespace Go.Proofs.YtddoknkmmchkmaaDoor
set_option linter.unusedVariables false
open Go.ChangeShapes Go.WideShapes Go.ChangeAt Go.RowKit
attribute [local go_sem ↓] Go.wp_at_zero Go.wp_at_succ comesTo_value_eq comesTo_skip_eq comesTo_enter_eq

abbrev ZL18 : Array Value := #[.int .i64 0, .slice none 0 0]
def RDoc18 (w : World) (bs : List Int) (e : Ending) (w' : World) : Prop :=
  (okDd bs = false ∧ e = .returned (.tuple #[.agg ZL18, .int .i64 0, .int .i64 11]) ∧ Below w.heap.size w w') ∨
  (okDd bs = true ∧ ∃ v, e = .returned (.tuple #[.agg #[.int .i64 (dd0 bs).2, v], .int .i64 ((bs.length : Int) - ((dL bs (cntD bs)).1.xs.length : Int)), .int .i64 0]) ∧ RdR w' v (dL bs (cntD bs)).2 ∧ Below w.heap.size w w')
def cur18 (st : CS) : Array Value := #[.string (strOfNums st.xs), .int .i64 st.bad]
/-- where the reading stands: the result, the cursor -/
structure Rd18 (w X : World) (C : Nat) (st : CS) : Prop where
  res : X.heap[w.heap.size]? = some (.cells ZL18 29 (0, 0))
  cur : X.heap[C]? = some (.cells (cur18 st) 68 (0, 0))
  c0 : w.heap.size < C
  bel : Below w.heap.size w X
theorem Rd18.k0 {w X : World} {C : Nat} {st : CS} (h : Rd18 w X C st) : X.cell? ⟨C, 0, none⟩ = some (.string (strOfNums st.xs)) := cell_of_block (o := 0) h.cur rfl
theorem Rd18.k1 {w X : World} {C : Nat} {st : CS} (h : Rd18 w X C st) : X.cell? ⟨C, 1, none⟩ = some (.int .i64 st.bad) := cell_of_block (o := 1) h.cur rfl
theorem Rd18.lt {w X : World} {C : Nat} {st : CS} (h : Rd18 w X C st) : C < X.heap.size := (Array.getElem?_eq_some_iff.1 h.cur).1
theorem Rd18.more {w X X' : World} {C Q : Nat} {st : CS} (h : Rd18 w X C st) (hb : Below Q X X') (hQ : C < Q) : Rd18 w X' C st :=
  have h1 := h.c0
  ⟨(hb.block _ (by omega)).trans h.res, (hb.block _ (by omega)).trans h.cur, h1, h.bel.trans (hb.mono (by omega))⟩
theorem Rd18.below {w X X' : World} {C : Nat} {st : CS} (h : Rd18 w X C st) (hb : Below X.heap.size X X') : Rd18 w X' C st := h.more hb h.lt
theorem Rd18.wroteC {w X X' : World} {C : Nat} {st st' : CS} (h : Rd18 w X C st) (hw : WroteTo C 68 (cur18 st') X X') : Rd18 w X' C st' :=
  have h1 := h.c0
  ⟨(hw.rest _ (by omega)).trans h.res, hw.there, h1, hw.below h.bel (by omega)⟩
theorem Rd18.setC {w X : World} {C : Nat} {st : CS} (h : Rd18 w X C st) (st' : CS) : WroteTo C 68 (cur18 st') X ((X.setCell ⟨C, 0, none⟩ (.string (strOfNums st'.xs))).setCell ⟨C, 1, none⟩ (.int .i64 st'.bad)) :=
  ((wrote_refl h.cur).set 0 (.string (strOfNums st'.xs))).set 1 (.int .i64 st'.bad)
/-- between two rounds -/
structure Lp18 (w X : World) (C Q : Nat) (st : CS) (nx : Int) (l : List RV) (k : Nat) (v : Value) : Prop where
  base : Rd18 w X C st
  blk : X.heap[Q]? = some (.cells #[.int .i64 nx, v] 29 (0, 0))
  row : X.ownsRow (Q + 1) 78 4 v k (flatR l)
  cq : C < Q
theorem Lp18.below {w X X' : World} {C Q : Nat} {st : CS} {nx : Int} {l : List RV} {k : Nat} {v : Value} (h : Lp18 w X C Q st nx l k v) (hb : Below X.heap.size X X') : Lp18 w X' C Q st nx l k v :=
  ⟨h.base.below hb, (hb.block _ (Array.getElem?_eq_some_iff.1 h.blk).1).trans h.blk, Ap.own_below h.row hb, h.cq⟩
def arr4 (xs : List Int) : Array Value := #[.int .i64 (xs.getD 0 0), .int .i64 (xs.getD 1 0), .int .i64 (xs.getD 2 0), .int .i64 (xs.getD 3 0)]
theorem arr4_set {xs : List Int} {k : Nat} (hl : xs.length = k) (hk : k < 4) (v : Int) : (arr4 xs).setIfInBounds k (.int .i64 v) = arr4 (xs ++ [v]) := by
  subst hl
  match xs, hk with
  | [], _ => rfl
  | [_], _ => rfl
  | [_, _], _ => rfl
  | [_, _, _], _ => rfl
  | _ :: _ :: _ :: _ :: _, h => simp at h; omega
theorem arr4_get (xs : List Int) {j : Nat} (hj : j < 4) : ∃ v, (arr4 xs)[j]? = some v := by
  have : j < (arr4 xs).size := hj
  exact ⟨_, Array.getElem?_eq_getElem this⟩
/-- a round: the numbers read so far -/
structure Rn18 (w X : World) (C Q A : Nat) (st : CS) (nx : Int) (l : List RV) (k : Nat) (v : Value) (xs : List Int) : Prop where
  lp : Lp18 w X C Q st nx l k v
  arr : X.heap[A]? = some (.cells (arr4 xs) 73 (0, 0))
  qa : Q < A
  va : ∀ g, v.ownBlock = some g → g ≠ A
theorem Rn18.below {w X X' : World} {C Q A : Nat} {st : CS} {nx : Int} {l : List RV} {k : Nat} {v : Value} {xs : List Int} (h : Rn18 w X C Q A st nx l k v xs) (hb : Below X.heap.size X X') : Rn18 w X' C Q A st nx l k v xs :=
  ⟨h.lp.below hb, (hb.block _ (Array.getElem?_eq_some_iff.1 h.arr).1).trans h.arr, h.qa, h.va⟩
theorem Lp18.begin {w X : World} {C Q : Nat} {st : CS} {nx : Int} {l : List RV} {k : Nat} {v : Value} (h : Lp18 w X C Q st nx l k v) : Rn18 w (X.alloc (.cells #[.int .i64 0, .int .i64 0, .int .i64 0, .int .i64 0] 73)) C Q X.heap.size st nx l k v [] := by
  have hb := below_alloc (Below.refl _ X) (.cells #[.int .i64 0, .int .i64 0, .int .i64 0, .int .i64 0] 73)
  exact ⟨h.below hb, World.alloc_heap_new X _, (Array.getElem?_eq_some_iff.1 h.blk).1, fun g hg => by have := Ap.own_lt h.row g hg; omega⟩
/-- a reading: the cursor's block and the number's turn -/
theorem Rn18.read {w X : World} {C Q A : Nat} {st : CS} {nx : Int} {l : List RV} {k : Nat} {v : Value} {xs : List Int} (h : Rn18 w X C Q A st nx l k v xs) (st' : CS) (i : Nat) (x : Int) (hl : xs.length = i) (hi : i < 4) :
    Rn18 w (((X.setCell ⟨C, 0, none⟩ (.string (strOfNums st'.xs))).setCell ⟨C, 1, none⟩ (.int .i64 st'.bad)).setCell ⟨A, i, none⟩ (.int .i64 x)) C Q A st' nx l k v (xs ++ [x]) := by
  have h1 := h.lp.base.c0
  have h2 := h.lp.cq
  have h4 := h.qa
  have w1 := h.lp.base.setC st'
  have b1 := h.lp.base.wroteC w1
  generalize (X.setCell ⟨C, 0, none⟩ (.string (strOfNums st'.xs))).setCell ⟨C, 1, none⟩ (.int .i64 st'.bad) = Y at *
  have xb := (w1.rest A (by omega)).trans h.arr
  have w2 := (wrote_refl xb).set i (.int .i64 x)
  rw [arr4_set hl hi x] at w2
  have hr : ∀ j, j ≠ C → j ≠ A → (Y.setCell ⟨A, i, none⟩ (.int .i64 x)).heap[j]? = X.heap[j]? := fun j j1 j2 => (w2.rest j j2).trans (w1.rest j j1)
  refine ⟨⟨⟨(hr _ (by omega) (by omega)).trans h.lp.base.res, (w2.rest _ (by omega)).trans b1.cur, h1, w2.below b1.bel (by omega)⟩, (hr _ (by omega) (by omega)).trans h.lp.blk,
    Ap.own_keep h.lp.row fun g hg => hr g (by have := Ap.own_blk h.lp.row g hg; omega) (h.va g hg), h2⟩, w2.there, h4, h.va⟩
theorem info_rv18 : (Tryd.prog.info? 78).map (fun i => (i.zero, i.size, i.bytes)) = some (some (.agg #[.int .i64 0, .int .i64 0, .int .i64 0, .int .i64 0]), 4, 32) := by kernel_rfl
theorem eltR18 : Ap.Elt Tryd.prog 27 78 4 32 :=
  ⟨Tryd.underlying27, by obtain ⟨i, h1, h2, h3, h4⟩ := info_parts3 info_rv18; exact ⟨i, _, h1, h2, h3, h4, rfl⟩, by decide⟩
/-- one more -/
theorem Lp18.step {w W : World} {C Q : Nat} {st : CS} {nx : Int} {l : List RV} {k : Nat} {v : Value} (h : Lp18 w W C Q st nx l k v) (hk : k < 64) (r : RV) (ty : TypeId) :
    ∃ a c Wb, (Builtin.append_ #[27, 27] ty #[v, .slice (some ⟨W.heap.size, 0, none⟩) 1 1]).run Tryd.prog (W.alloc (.cells #[.int .i64 r.1, .int .i64 r.2.1, .int .i64 r.2.2.1, .int .i64 r.2.2.2] 78)) = .ok (.slice a (k + 1) c) Wb ∧
      Wb.heap[Q]? = some (.cells #[.int .i64 nx, v] 29 (0, 0)) ∧ Lp18 w (Wb.setCell ⟨Q, 1, none⟩ (.slice a (k + 1) c)) C Q st nx (l ++ [r]) (k + 1) (.slice a (k + 1) c) := by
  have hQ := (Array.getElem?_eq_some_iff.1 h.blk).1
  obtain ⟨v', Wb, g0, g1, g2, g3, g4, g5⟩ := Ao.app_one eltR18 ty h.row (cellR r) rfl (cellR_one r) (by omega) (by decide) hQ
  have hform : ∃ a c, v' = .slice a (k + 1) c := by
    rcases g1.2 with ⟨_, h0⟩ | ⟨g, cap, cur, hv, _⟩
    · omega
    · exact ⟨_, _, hv⟩
  obtain ⟨a, c, rfl⟩ := hform
  have hbQ : Wb.heap[Q]? = W.heap[Q]? := g5.block Q (by omega)
  have hb := hbQ.trans h.blk
  have hw := (wrote_refl hb).set 1 (.slice a (k + 1) c)
  have hL := Ap.own_blk g1
  have h2 := h.cq
  refine ⟨a, c, Wb, g0, hb, ⟨(h.base.more (g5.mono (by omega) : Below Q W Wb) h2).more (hw.below (Below.refl _ _) (Nat.le_refl _)) h2, hw.there, ?_, h2⟩⟩
  rw [flatR_snoc]
  exact Ap.own_keep g1 fun g hg => hw.rest g (by have := hL g hg; omega)
theorem own_rdR {w : World} {B : Nat} {T : TypeId} {v : Value} {l : List RV} {k : Nat} (hk : l.length = k) (h : w.ownsRow B T 4 v k (flatR l)) : RdR w v l := by
  subst hk
  rcases h.2 with ⟨rfl, h1⟩ | ⟨g, cap, cur, hv, hB, hg, hc, _, hcs, ht⟩
  · exact ⟨none, 0, by rw [h1], by omega, fun _ => rfl, fun hp => by omega⟩
  · refine ⟨some ⟨g, 0, none⟩, cap, hv, hc, (fun e => by cases e), fun _ => ⟨g, rfl, (Array.getElem?_eq_some_iff.1 hg).1, fun k hk => ?_⟩⟩
    have hx : ∀ (j : Nat) (u : Value), (flatR l)[j]? = some u → w.cell? ⟨g, j, none⟩ = some u := fun j u hj => by
      have hjl : j < l.length * 4 := by
        rw [← flatR_len l]
        rcases Nat.lt_or_ge j (flatR l).length with h1 | h1
        · exact h1
        · rw [List.getElem?_eq_none h1] at hj; cases hj
      refine cell_of_block hg ?_
      rw [← ht, List.getElem?_take, if_pos hjl] at hj
      simpa using hj
    obtain ⟨a, b, c, d⟩ := flatR_get l k hk
    exact ⟨hx _ _ a, hx _ _ b, hx _ _ c, hx _ _ d⟩
/-- a reading leaves no more bytes -/
theorem rdI_lessR (st : CS) : (intF st).1.xs.length ≤ st.xs.length := by
  unfold intF
  split
  · exact (scan_suffix st.xs 0 0).length_le
  · exact Nat.le_refl _
theorem rdS_lessR (st : CS) (m : Int) : (smallF st m).1.xs.length ≤ st.xs.length := by
  have h := rdI_lessR st
  unfold smallF
  split
  · unfold failF
    split
    · exact Nat.zero_le _
    · exact h
  · exact h
/-- of a cursor's state: the calls' bounds -/
structure GoodR (st : CS) : Prop where
  b : ∀ x ∈ st.xs, 0 ≤ x ∧ x ≤ 255
  l : st.xs.length ≤ 1099511627775
theorem GoodR.small {st : CS} (h : GoodR st) (m : Int) : GoodR (smallF st m).1 := ⟨Cs.smallF_by h.b m, Nat.le_trans (rdS_lessR st m) h.l⟩
theorem GoodR.int {st : CS} (h : GoodR st) : GoodR (intF st).1 := ⟨Cs.intF_by h.b, Nat.le_trans (rdI_lessR st) h.l⟩
theorem GoodR.ints {st : CS} (h : GoodR st) : ∀ k, GoodR (intsK st k).1
  | 0 => h
  | k + 1 => (GoodR.ints h k).int
theorem dL_good {bs : List Int} (h : GoodR ⟨bs, 0⟩) : ∀ k, GoodR (dL bs k).1
  | 0 => h.int.small 8
  | k + 1 => (dL_good h k).ints 4
theorem dL_less (bs : List Int) : ∀ k, (dL bs k).1.xs.length ≤ bs.length
  | 0 => Nat.le_trans (rdS_lessR _ 8) (rdI_lessR ⟨bs, 0⟩)
  | k + 1 => by
    have : ∀ (st : CS) j, (intsK st j).1.xs.length ≤ st.xs.length := by
      intro st j
      induction j with
      | zero => exact Nat.le_refl _
      | succ j ih => exact Nat.le_trans (rdI_lessR _) ih
    exact Nat.le_trans (this _ 4) (dL_less bs k)
theorem cntD_eq (bs : List Int) : (dd1 bs).2 = (cntD bs : Int) ∧ cntD bs ≤ 8 := by
  have := smallF_mostR (dd0 bs).1 (most := 8) (by decide)
  unfold cntD dd1
  omega
set_option maxRecDepth 100000 in
set_option maxHeartbeats 8000000 in
theorem rread18_any (bs : List Int) (hx : ∀ x ∈ bs, 0 ≤ x ∧ x ≤ 255) (hl : bs.length ≤ 1099511627775) (w : World) : Calls Tryd.prog 6 #[.string (strOfNums bs)] w fun e w' => RDoc18 w bs e w' := by
  have hmx : Tryd.prog.follows .mixedOrders = true := by kernel_rfl
  have HG0 := Lib.hid (show GoodR ⟨bs, 0⟩ from ⟨hx, hl⟩)
  have HGL := Lib.hid (fun k => dL_good HG0.out k)
  have HNO := Lib.hid (fun (hh : okDd bs = false) e w' (he : e = .returned (.tuple #[.agg ZL18, .int .i64 0, .int .i64 11])) (hb : Below w.heap.size w w') => (show RDoc18 w bs e w' from .inl ⟨hh, he, hb⟩))
  have HYES := Lib.hid (fun (hh : okDd bs = true) e w' v (he : e = .returned (.tuple #[.agg #[.int .i64 (dd0 bs).2, v], .int .i64 ((bs.length : Int) - ((dL bs (cntD bs)).1.xs.length : Int)), .int .i64 0])) (h1 : RdR w' v (dL bs (cntD bs)).2) (hb : Below w.heap.size w w') => (show RDoc18 w bs e w' from .inr ⟨hh, v, he, h1, hb⟩))
  have HN := Lib.hid (cntD_eq bs)
  have HBL := Lib.hid hl
  have HLE := Lib.hid (fun k => dL_less bs k)
  have HSZ := Lib.hid (size_str bs)
  obtain ⟨n, hn⟩ : ∃ n, n = cntD bs := ⟨_, rfl⟩
  rw [← hn] at HN HYES
  have HNE := Lib.hid hn
  clear hx hl hn
  generalize hE : RDoc18 w bs = E at *
  clear hE
  obtain ⟨nx, hnx⟩ : ∃ x, x = (dd0 bs).2 := ⟨_, rfl⟩
  have HNX := Lib.hid hnx
  rw [← hnx] at HYES
  clear hnx
  have K0 := Lib.hid (fun X => by rw [HNX.out]; exact rint_any ⟨bs, 0⟩ HG0.out.b (Nat.le_trans HG0.out.l (by decide)) X : ∀ X, Calls Tryd.prog 26 #[.agg #[.string (strOfNums bs), .int .i64 0]] X fun e w' => e = .returned (.tuple #[.agg #[.string (strOfNums (dd0 bs).1.xs), .int .i64 (dd0 bs).1.bad], .int .i64 nx]) ∧ Below X.heap.size X w')
  have K1 := Lib.hid (fun X => by rw [← HN.out.1]; exact rsmall_any (dd0 bs).1 HG0.out.int.b (Nat.le_trans HG0.out.int.l (by decide)) 8 X : ∀ X, Calls Tryd.prog 27 #[.agg #[.string (strOfNums (dd0 bs).1.xs), .int .i64 (dd0 bs).1.bad], .int .i64 8] X fun e w' => e = .returned (.tuple #[.agg #[.string (strOfNums (dd1 bs).1.xs), .int .i64 (dd1 bs).1.bad], .int .i64 n]) ∧ Below X.heap.size X w')
  obtain ⟨ss, hss⟩ : ∃ x, x = strOfNums bs := ⟨_, rfl⟩
  rw [← hss] at K0 HSZ ⊢
  clear hss
  obtain ⟨s0, hs0⟩ : ∃ x, x = strOfNums (dd0 bs).1.xs := ⟨_, rfl⟩
  obtain ⟨b0, hb0⟩ : ∃ x, x = (dd0 bs).1.bad := ⟨_, rfl⟩
  rw [← hs0, ← hb0] at K0 K1
  have HC0 := Lib.hid (show cur18 (dd0 bs).1 = #[.string s0, .int .i64 b0] by unfold cur18; rw [hs0, hb0])
  clear hs0 hb0
  have hA := below_alloc (Below.refl _ w) (.cells ZL18 29)
  have hZ := World.alloc_heap_new w (.cells ZL18 29)
  go_enter Tryd.func6, Tryd.ntmps6
  go_upto_region 1 with fail
  have HA := Lib.hid (show Below w.heap.size w (w.alloc (.cells #[.int .i64 0, .slice none 0 0] 29)) from hA)
  have HZ := Lib.hid (show (w.alloc (.cells #[.int .i64 0, .slice none 0 0] 29)).heap[w.heap.size]? = some (.cells ZL18 29 (0, 0)) from hZ)
  clear hA hZ
  generalize w.alloc (.cells #[.int .i64 0, .slice none 0 0] 29) = W1 at *
  go_wp2_with fail
  refine (K0.out _).mono ?_
  rintro e wc ⟨rfl, hb⟩
  have hB := below_next HA.out hb
  have hZ := (hb.block _ (Array.getElem?_eq_some_iff.1 HZ.out).1).trans HZ.out
  have b1 := below_alloc (Below.refl _ wc) (.cells #[.string s0, .int .i64 b0] 68)
  have h3 := World.alloc_heap_new wc (.cells #[.string s0, .int .i64 b0] 68)
  have hlt := (Array.getElem?_eq_some_iff.1 hZ).1
  have HR0 := Lib.hid (show Rd18 w (wc.alloc (.cells #[.string s0, .int .i64 b0] 68)) wc.heap.size (dd0 bs).1 from
    ⟨(b1.block _ hlt).trans hZ, h3.trans (by rw [HC0.out]), hlt, below_next hB b1⟩)
  clear hb hB hZ b1 h3 hlt K0
  go_upto_region 2 with fail
  generalize wc.alloc (.cells #[.string s0, .int .i64 b0] 68) = X0 at *
  generalize wc.heap.size = C at *
  have c0 : X0.cell? ⟨C, 0, none⟩ = some (.string s0) := cell_of_block (o := 0) (show X0.heap[C]? = some (.cells #[.string s0, .int .i64 b0] 68 (0, 0)) by rw [← HC0.out]; exact HR0.out.cur) rfl
  have c1 : X0.cell? ⟨C, 1, none⟩ = some (.int .i64 b0) := cell_of_block (o := 1) (show X0.heap[C]? = some (.cells #[.string s0, .int .i64 b0] 68 (0, 0)) by rw [← HC0.out]; exact HR0.out.cur) rfl
  go_wp2_with fail
  refine (K1.out _).mono ?_
  rintro e Y1 ⟨rfl, hb⟩
  have HY1 := Lib.hid (HR0.out.below hb)
  clear hb c0 c1 K1
  have c0 := HY1.out.k0
  have c1 := HY1.out.k1
  have f0 := free_of_block 0 HY1.out.cur
  have f1 := free_of_block 1 HY1.out.cur
  have HR1 := Lib.hid (HY1.out.wroteC (HY1.out.setC (dd1 bs).1))
  go_upto_region 3 with fail
  generalize (Y1.setCell ⟨C, 0, none⟩ (.string (strOfNums (dd1 bs).1.xs))).setCell ⟨C, 1, none⟩ (.int .i64 (dd1 bs).1.bad) = X1 at *
  clear c0 c1 f0 f1 HY1 HR0 HC0
  obtain ⟨b1, hb1⟩ : ∃ x, x = (dd1 bs).1.bad := ⟨_, rfl⟩
  have c1 : X1.cell? ⟨C, 1, none⟩ = some (.int .i64 b1) := by rw [hb1]; exact HR1.out.k1
  have HHD := Lib.hid (show headR bs = ((b1 == 0) && decide (1 ≤ nx ∧ nx ≤ 1073741825)) by unfold headR; rw [← hb1, ← HNX.out])
  clear hb1
  by_cases hb1 : b1 = 0
  case neg =>
    have d1 : (b1 != 0) = true := by simpa using hb1
    have d2 : (b1 == 0) = false := by simpa using hb1
    have HD2 := Lib.hid d2
    have HRS := Lib.hid HR1.out.res
    have HBE := Lib.hid HR1.out.bel
    have HOF := Lib.hid (show okDd bs = false from by unfold okDd; rw [HHD.out]; rw [HD2.out]; rfl)
    go_upto_region 4 with fail
    refine wp_region_lit ?_
    refine wpList_yield (w' := X1) (v := .agg ZL18) rfl (by unfold ZL18; go_simp) ?_
    refine wpList_store_all rfl 29 _ _ rfl w.heap.size (T := 29) ZL18.toList (by go_simp) (by go_simp) HRS.out rfl (by kernel_rfl) (by decide) ?_
    intro w8 hw8
    have HW8 := Lib.hid hw8.there
    have HB8 := Lib.hid (hw8.below HBE.out (Nat.le_refl _))
    clear hw8
    go_wp2_with fail
    exact bodyPost_ret (results_allH3 ZL18.toList _ Tryd.results6 (by go_simp) HW8.out Tryd.underlying29 rfl (by kernel_rfl)) rfl (HNO.out HOF.out _ _ rfl HB8.out)
  subst hb1
  by_cases h1 : nx < 1
  case pos =>
    have d1 : decide (nx < 1) = true := decide_eq_true h1
    have HD2 := Lib.hid h1
    clear h1
    have HRS := Lib.hid HR1.out.res
    have HBE := Lib.hid HR1.out.bel
    have HOF := Lib.hid (show okDd bs = false from by unfold okDd; rw [HHD.out]; rw [decide_eq_false (by have := HD2.out; omega)]; rfl)
    go_upto_region 4 with fail
    refine wp_region_lit ?_
    refine wpList_yield (w' := X1) (v := .agg ZL18) rfl (by unfold ZL18; go_simp) ?_
    refine wpList_store_all rfl 29 _ _ rfl w.heap.size (T := 29) ZL18.toList (by go_simp) (by go_simp) HRS.out rfl (by kernel_rfl) (by decide) ?_
    intro w8 hw8
    have HW8 := Lib.hid hw8.there
    have HB8 := Lib.hid (hw8.below HBE.out (Nat.le_refl _))
    clear hw8
    go_wp2_with fail
    exact bodyPost_ret (results_allH3 ZL18.toList _ Tryd.results6 (by go_simp) HW8.out Tryd.underlying29 rfl (by kernel_rfl)) rfl (HNO.out HOF.out _ _ rfl HB8.out)
  have d1 : decide (nx < 1) = false := decide_eq_false h1
  by_cases h2 : nx > 1073741825
  case pos =>
    have d2 : decide (nx > 1073741825) = true := decide_eq_true h2
    have d3 : decide (1073741825 < nx) = true := decide_eq_true h2
    have HD2 := Lib.hid h2
    clear h1 h2
    have HRS := Lib.hid HR1.out.res
    have HBE := Lib.hid HR1.out.bel
    have HOF := Lib.hid (show okDd bs = false from by unfold okDd; rw [HHD.out]; rw [decide_eq_false (by have := HD2.out; omega)]; rfl)
    go_upto_region 4 with fail
    refine wp_region_lit ?_
    refine wpList_yield (w' := X1) (v := .agg ZL18) rfl (by unfold ZL18; go_simp) ?_
    refine wpList_store_all rfl 29 _ _ rfl w.heap.size (T := 29) ZL18.toList (by go_simp) (by go_simp) HRS.out rfl (by kernel_rfl) (by decide) ?_
    intro w8 hw8
    have HW8 := Lib.hid hw8.there
    have HB8 := Lib.hid (hw8.below HBE.out (Nat.le_refl _))
    clear hw8
    go_wp2_with fail
    exact bodyPost_ret (results_allH3 ZL18.toList _ Tryd.results6 (by go_simp) HW8.out Tryd.underlying29 rfl (by kernel_rfl)) rfl (HNO.out HOF.out _ _ rfl HB8.out)
  have d2 : decide (nx > 1073741825) = false := decide_eq_false h2
  have d3 : decide (1073741825 < nx) = false := decide_eq_false h2
  have HNB := Lib.hid (show 1 ≤ nx ∧ nx ≤ 1073741825 by omega)
  have HOKH := Lib.hid (show okDd bs = okR9 bs n from by unfold okDd; rw [HHD.out, decide_eq_true HNB.out, ← HNE.out]; rfl)
  clear h1 h2 HHD
  go_upto_region 5 with fail
  clear d1 d2 d3 c1
  have bq := below_alloc (Below.refl _ X1) (.cells #[.int .i64 nx, .slice none 0 0] 29)
  have HL0 := Lib.hid (show Lp18 w (X1.alloc (.cells #[.int .i64 nx, .slice none 0 0] 29)) C X1.heap.size (dL bs 0).1 nx (dL bs 0).2 0 (.slice none 0 0) from
    ⟨HR1.out.below bq, World.alloc_heap_new X1 _, World.ownsRow_nil _ _ _ _, HR1.out.lt⟩)
  clear bq
  go_upto_region 6 with fail
  generalize X1.alloc (.cells #[.int .i64 nx, .slice none 0 0] 29) = V at *
  generalize X1.heap.size = Q at *
  clear HR1
  go_wp2_with fail
  go_loopw [10, 9] (fun i la wr => ∃ (k : Nat) (v : Value), k ≤ n ∧ i = .int .i64 k ∧ la = .int .i64 (lastI (dL bs k).2) ∧ okR9 bs k = true ∧ Lp18 w wr C Q (dL bs k).1 nx (dL bs k).2 k v) (fun i _ _ => n - (intOf i).toNat)
  case atStart => exact ⟨0, _, Nat.zero_le _, rfl, rfl, rfl, HL0.out⟩
  case round =>
    obtain ⟨k, v, hk, rfl, rfl, hok, hlp⟩ := hrel
    by_cases hlt : k < n
    case pos =>
      have hd : decide (k < n) = true := decide_eq_true hlt
      have hd2 : decide ((k : Int) < (n : Int)) = true := decide_eq_true (by omega)
      have hkI : (k : Int) < (n : Int) := by omega
      have hw1 : IntKind.i64.wrap ((k : Int) + 1) = (k : Int) + 1 := by have := HN.out; rw [IntKind.wrap_i64]; omega
      have HK64 := Lib.hid (show k < 64 by have := HN.out; omega)
      have HLT := Lib.hid hlt
      have HLN := Lib.hid (show (dL bs k).2.length = k from dVs_len _ k)
      obtain ⟨aL, cL, rfl⟩ : ∃ a c, v = .slice a k c := by
        rcases hlp.row.2 with ⟨rfl, h0⟩ | ⟨g, cap, cur, hv, _⟩
        · exact ⟨none, 0, by rw [h0]⟩
        · exact ⟨_, _, hv⟩
      have HRN0 := Lib.hid hlp.begin
      have HOK := Lib.hid hok
      have HGD := Lib.hid (HGL.out k)
      have HNXT := Lib.hid (show dL bs (k + 1) = ((rv4 (dL bs k).1).1, (dL bs k).2 ++ [(rv4 (dL bs k).1).2]) from rfl)
      have HAN := Lib.hid (show okR9 bs (k + 1) = (okR9 bs k && okS nx (dL bs k).1 (dL bs k).2) by rw [HNX.out]; rfl)
      clear hlp hok hlt hk HL0
      obtain ⟨st, hst⟩ : ∃ x, x = (dL bs k).1 := ⟨_, rfl⟩
      obtain ⟨l, hl⟩ : ∃ x, x = (dL bs k).2 := ⟨_, rfl⟩
      rw [← hst, ← hl] at HRN0 HNXT HAN
      rw [← hst] at HGD
      rw [← hl] at HLN ⊢
      clear hst hl
      obtain ⟨la, hla⟩ : ∃ x, x = lastI l := ⟨_, rfl⟩
      rw [← hla]
      have HLA := Lib.hid hla
      clear hla
      have HBAD := Lib.hid (fun (hb : okS nx st l = false) => (show okDd bs = false from by
        rw [HOKH.out]
        cases hz : okR9 bs n with
        | false => rfl
        | true =>
          have h3 := okR9_le (bs := bs) (k := k + 1) (n - (k + 1)) (by rw [Nat.add_sub_cancel' (by have := HLT.out; omega)]; exact hz)
          rw [HAN.out, hb, Bool.and_false] at h3
          cases h3))
      go_upto_region 11 with fail
      generalize wr.alloc (.cells #[.int .i64 0, .int .i64 0, .int .i64 0, .int .i64 0] 73) = Z0 at *
      obtain ⟨A, hA⟩ : ∃ A, A = wr.heap.size := ⟨_, rfl⟩
      rw [← hA] at HRN0 ⊢
      clear hA
      have hne3 : C ≠ A := by have := HRN0.out.lp.cq; have := HRN0.out.qa; omega
      have hne4 : A ≠ C := Ne.symm hne3
      go_wp2_with fail
      go_loopw [12] (fun i wr => ∃ j : Nat, j ≤ 4 ∧ i = .int .i64 j ∧ Rn18 w wr C Q A (intsK st j).1 nx l k (.slice aL k cL) (intsK st j).2) (fun i _ => 4 - (intOf i).toNat)
      case atStart => exact ⟨0, Nat.zero_le _, rfl, HRN0.out⟩
      case round =>
        obtain ⟨j, hj, rfl, hrn⟩ := hrel
        have HRN := Lib.hid hrn
        clear hrn HRN0
        by_cases hj4 : j < 4
        case pos =>
          have hd3 : decide ((j : Int) < 4) = true := decide_eq_true (by omega)
          have hkI : (j : Int) < 4 := by omega
          have hwj : IntKind.i64.wrap ((j : Int) + 1) = (j : Int) + 1 := by rw [IntKind.wrap_i64]; omega
          have HGJ := Lib.hid (HGD.out.ints j)
          have KI := Lib.hid (show Calls Tryd.prog 26 #[.agg #[.string (strOfNums (intsK st j).1.xs), .int .i64 (intsK st j).1.bad]] wr fun e w' => e = .returned (.tuple #[.agg #[.string (strOfNums (intF (intsK st j).1).1.xs), .int .i64 (intF (intsK st j).1).1.bad], .int .i64 (intF (intsK st j).1).2]) ∧ Below wr.heap.size wr w' from rint_any (intsK st j).1 HGJ.out.b (Nat.le_trans HGJ.out.l (by decide)) wr)
          have HNJ := Lib.hid (show intsK st (j + 1) = ((intF (intsK st j).1).1, (intsK st j).2 ++ [(intF (intsK st j).1).2]) from rfl)
          have HJL := Lib.hid (intsK_len st j)
          have c0 := HRN.out.lp.base.k0
          have c1 := HRN.out.lp.base.k1
          have HJ := Lib.hid hj4
          generalize (intsK st j).1 = sj at *
          generalize (intsK st j).2 = xj at *
          clear HGJ hj hj4
          go_wp2_with fail
          refine KI.out.mono ?_
          rintro e U ⟨rfl, hb⟩
          have HU := Lib.hid (HRN.out.below hb)
          clear hb c0 c1 KI HRN
          have c0 := HU.out.lp.base.k0
          have c1 := HU.out.lp.base.k1
          have f0 := free_of_block 0 HU.out.lp.base.cur
          have f1 := free_of_block 1 HU.out.lp.base.cur
          obtain ⟨vk, hvk⟩ := arr4_get xj HJ.out
          have cA := cell_of_block (o := j) HU.out.arr hvk
          have fA := free_of_block j HU.out.arr
          clear hvk
          have HST := Lib.hid (HU.out.read (intF sj).1 j (intF sj).2 HJL.out HJ.out)
          generalize intF sj = ij at *
          obtain ⟨si, xi⟩ := ij
          dsimp only at HST HNJ ⊢
          go_wp2_with fail
          go_roundw
          case rel => exact ⟨j + 1, by have := HJ.out; omega, by go_num, by rw [HNJ.out]; exact HST.out⟩
          case measure => have := HJ.out; simp [intOf]; omega
        case neg =>
          obtain rfl : j = 4 := by omega
          have hd3 : decide ((4 : Int) < 4) = false := by decide
          clear hj hj4 hne3 hne4
          have h4 := HRN.out
          rw [intsK4] at h4
          obtain ⟨rv, hrv⟩ : ∃ r, r = rv4 st := ⟨_, rfl⟩
          have HOS := Lib.hid (show okS nx st l = ((rv.1.bad == 0) && (decide (la < rv.2.1 ∧ rv.2.1 < nx ∧ rv.2.2.2.2 ≤ 64) && mayR rv.2.2.1 rv.2.2.2.1 rv.2.2.2.2)) by unfold okS; rw [← hrv, HLA.out])
          have hs4 : (intsK st 4).1 = rv.1 := by rw [hrv]; rfl
          rw [← hrv, hs4] at h4
          rw [← hrv] at HNXT
          clear hrv hs4 HRN HGD
          obtain ⟨rs, x0, x1, x2, x3⟩ := rv
          dsimp only at h4 HOS HNXT
          have HR5 := Lib.hid h4
          clear h4
          have x1c : wr.cell? ⟨A, 1, none⟩ = some (.int .i64 x1) := cell_of_block (o := 1) HR5.out.arr rfl
          have x2c : wr.cell? ⟨A, 2, none⟩ = some (.int .i64 x2) := cell_of_block (o := 2) HR5.out.arr rfl
          have bt := below_alloc (Below.refl _ wr) (.cells #[.int .i64 x1, .int .i64 x2] 75)
          have HT := Lib.hid (World.alloc_heap_new wr (.cells #[.int .i64 x1, .int .i64 x2] 75))
          have HR6 := Lib.hid (HR5.out.below bt)
          clear bt HR5
          go_upto_region 16 with fail
          generalize wr.alloc (.cells #[.int .i64 x1, .int .i64 x2] 75) = Z at *
          generalize wr.heap.size = T at *
          clear x1c x2c hd3
          have x0c : Z.cell? ⟨A, 0, none⟩ = some (.int .i64 x0) := cell_of_block (o := 0) HR6.out.arr rfl
          have x1c : Z.cell? ⟨A, 1, none⟩ = some (.int .i64 x1) := cell_of_block (o := 1) HR6.out.arr rfl
          have x2c : Z.cell? ⟨A, 2, none⟩ = some (.int .i64 x2) := cell_of_block (o := 2) HR6.out.arr rfl
          have x3c : Z.cell? ⟨A, 3, none⟩ = some (.int .i64 x3) := cell_of_block (o := 3) HR6.out.arr rfl
          have t0c : Z.cell? ⟨T, 0, none⟩ = some (.int .i64 x1) := cell_of_block (o := 0) HT.out rfl
          have t1c : Z.cell? ⟨T, 1, none⟩ = some (.int .i64 x2) := cell_of_block (o := 1) HT.out rfl
          obtain ⟨rb, hrb⟩ : ∃ x, x = rs.bad := ⟨_, rfl⟩
          have c1 : Z.cell? ⟨C, 1, none⟩ = some (.int .i64 rb) := by rw [hrb]; exact HR6.out.lp.base.k1
          rw [← hrb] at HOS
          clear hrb
          have KM := Lib.hid (fun X => rmay_any x1 x2 x3 X)
          by_cases hb1 : rb = 0
          case neg =>
            have d1 : (rb != 0) = true := by simpa using hb1
            have d2 : (rb == 0) = false := by simpa using hb1
            have HD2 := Lib.hid d2
            clear hb1
            have HRS := Lib.hid HR6.out.lp.base.res
            have HBE := Lib.hid HR6.out.lp.base.bel
            have HOF := Lib.hid (HBAD.out (by rw [HOS.out, HD2.out]; rfl))
            go_upto_region 17 with fail
            refine wp_region_lit ?_
            refine wpList_yield (w' := Z) (v := .agg ZL18) rfl (by unfold ZL18; go_simp) ?_
            refine wpList_store_all rfl 29 _ _ rfl w.heap.size (T := 29) ZL18.toList (by go_simp) (by go_simp) HRS.out rfl (by kernel_rfl) (by decide) ?_
            intro w8 hw8
            have HW8 := Lib.hid hw8.there
            have HB8 := Lib.hid (hw8.below HBE.out (Nat.le_refl _))
            clear hw8
            go_wp2_with fail
            exact bodyPost_ret (results_allH3 ZL18.toList _ Tryd.results6 (by go_simp) HW8.out Tryd.underlying29 rfl (by kernel_rfl)) rfl (HNO.out HOF.out _ _ rfl HB8.out)
          subst hb1
          by_cases h1 : x0 ≤ la
          case pos =>
            have d1 : decide (x0 ≤ la) = true := decide_eq_true h1
            have HD2 := Lib.hid h1
            clear h1
            have HRS := Lib.hid HR6.out.lp.base.res
            have HBE := Lib.hid HR6.out.lp.base.bel
            have HOF := Lib.hid (HBAD.out (by rw [HOS.out, decide_eq_false (by have := HD2.out; omega)]; rfl))
            go_upto_region 17 with fail
            refine wp_region_lit ?_
            refine wpList_yield (w' := Z) (v := .agg ZL18) rfl (by unfold ZL18; go_simp) ?_
            refine wpList_store_all rfl 29 _ _ rfl w.heap.size (T := 29) ZL18.toList (by go_simp) (by go_simp) HRS.out rfl (by kernel_rfl) (by decide) ?_
            intro w8 hw8
            have HW8 := Lib.hid hw8.there
            have HB8 := Lib.hid (hw8.below HBE.out (Nat.le_refl _))
            clear hw8
            go_wp2_with fail
            exact bodyPost_ret (results_allH3 ZL18.toList _ Tryd.results6 (by go_simp) HW8.out Tryd.underlying29 rfl (by kernel_rfl)) rfl (HNO.out HOF.out _ _ rfl HB8.out)
          have d1 : decide (x0 ≤ la) = false := decide_eq_false h1
          by_cases h2 : x0 ≥ nx
          case pos =>
            have d2 : decide (x0 ≥ nx) = true := decide_eq_true h2
            have d3 : decide (nx ≤ x0) = true := decide_eq_true h2
            have HD2 := Lib.hid h2
            clear h1 h2
            have HRS := Lib.hid HR6.out.lp.base.res
            have HBE := Lib.hid HR6.out.lp.base.bel
            have HOF := Lib.hid (HBAD.out (by rw [HOS.out, decide_eq_false (by have := HD2.out; omega)]; rfl))
            go_upto_region 17 with fail
            refine wp_region_lit ?_
            refine wpList_yield (w' := Z) (v := .agg ZL18) rfl (by unfold ZL18; go_simp) ?_
            refine wpList_store_all rfl 29 _ _ rfl w.heap.size (T := 29) ZL18.toList (by go_simp) (by go_simp) HRS.out rfl (by kernel_rfl) (by decide) ?_
            intro w8 hw8
            have HW8 := Lib.hid hw8.there
            have HB8 := Lib.hid (hw8.below HBE.out (Nat.le_refl _))
            clear hw8
            go_wp2_with fail
            exact bodyPost_ret (results_allH3 ZL18.toList _ Tryd.results6 (by go_simp) HW8.out Tryd.underlying29 rfl (by kernel_rfl)) rfl (HNO.out HOF.out _ _ rfl HB8.out)
          have d2 : decide (x0 ≥ nx) = false := decide_eq_false h2
          have d3 : decide (nx ≤ x0) = false := decide_eq_false h2
          by_cases h3 : x3 > 64
          case pos =>
            have d4 : decide (x3 > 64) = true := decide_eq_true h3
            have d5 : decide (64 < x3) = true := decide_eq_true h3
            have HD2 := Lib.hid h3
            clear h1 h2 h3
            have HRS := Lib.hid HR6.out.lp.base.res
            have HBE := Lib.hid HR6.out.lp.base.bel
            have HOF := Lib.hid (HBAD.out (by rw [HOS.out, decide_eq_false (by have := HD2.out; omega)]; rfl))
            go_upto_region 17 with fail
            refine wp_region_lit ?_
            refine wpList_yield (w' := Z) (v := .agg ZL18) rfl (by unfold ZL18; go_simp) ?_
            refine wpList_store_all rfl 29 _ _ rfl w.heap.size (T := 29) ZL18.toList (by go_simp) (by go_simp) HRS.out rfl (by kernel_rfl) (by decide) ?_
            intro w8 hw8
            have HW8 := Lib.hid hw8.there
            have HB8 := Lib.hid (hw8.below HBE.out (Nat.le_refl _))
            clear hw8
            go_wp2_with fail
            exact bodyPost_ret (results_allH3 ZL18.toList _ Tryd.results6 (by go_simp) HW8.out Tryd.underlying29 rfl (by kernel_rfl)) rfl (HNO.out HOF.out _ _ rfl HB8.out)
          have d4 : decide (x3 > 64) = false := decide_eq_false h3
          have d5 : decide (64 < x3) = false := decide_eq_false h3
          have HCD := Lib.hid (show la < x0 ∧ x0 < nx ∧ x3 ≤ 64 by omega)
          clear h1 h2 h3
          go_wp2_with fail
          refine (KM.out _).mono ?_
          rintro e Z1 ⟨rfl, hb⟩
          have HR7 := Lib.hid (HR6.out.below hb)
          have HT7 := Lib.hid ((hb.block _ (Array.getElem?_eq_some_iff.1 HT.out).1).trans HT.out)
          clear hb x0c x1c x2c x3c t0c t1c c1 d1 d2 d3 d4 d5 KM HT HR6
          generalize hmm : mayR x1 x2 x3 = mm at *
          cases mm with
          | false =>
            have HRS := Lib.hid HR7.out.lp.base.res
            have HBE := Lib.hid HR7.out.lp.base.bel
            have HOF := Lib.hid (HBAD.out (by rw [HOS.out, Bool.and_false, Bool.and_false]))
            go_upto_region 17 with fail
            refine wp_region_lit ?_
            refine wpList_yield (w' := Z1) (v := .agg ZL18) rfl (by unfold ZL18; go_simp) ?_
            refine wpList_store_all rfl 29 _ _ rfl w.heap.size (T := 29) ZL18.toList (by go_simp) (by go_simp) HRS.out rfl (by kernel_rfl) (by decide) ?_
            intro w8 hw8
            have HW8 := Lib.hid hw8.there
            have HB8 := Lib.hid (hw8.below HBE.out (Nat.le_refl _))
            clear hw8
            go_wp2_with fail
            exact bodyPost_ret (results_allH3 ZL18.toList _ Tryd.results6 (by go_simp) HW8.out Tryd.underlying29 rfl (by kernel_rfl)) rfl (HNO.out HOF.out _ _ rfl HB8.out)
          | true =>
            have x0c : Z1.cell? ⟨A, 0, none⟩ = some (.int .i64 x0) := cell_of_block (o := 0) HR7.out.arr rfl
            have x1c : Z1.cell? ⟨A, 1, none⟩ = some (.int .i64 x1) := cell_of_block (o := 1) HR7.out.arr rfl
            have x2c : Z1.cell? ⟨A, 2, none⟩ = some (.int .i64 x2) := cell_of_block (o := 2) HR7.out.arr rfl
            have x3c : Z1.cell? ⟨A, 3, none⟩ = some (.int .i64 x3) := cell_of_block (o := 3) HR7.out.arr rfl
            have HOS2 := Lib.hid (show okR9 bs (k + 1) = true by rw [HAN.out, HOK.out, HOS.out, decide_eq_true HCD.out]; rfl)
            clear HBAD HOS hmm HAN
            have t0c : Z1.cell? ⟨T, 0, none⟩ = some (.int .i64 x1) := cell_of_block (o := 0) HT7.out rfl
            have t1c : Z1.cell? ⟨T, 1, none⟩ = some (.int .i64 x2) := cell_of_block (o := 1) HT7.out rfl
            have q1 : Z1.cell? ⟨Q, 1, none⟩ = some (.slice aL k cL) := cell_of_block (o := 1) HR7.out.lp.blk rfl
            go_upto_region 19 with fail
            refine wp_region_lit ?_
            refine wpList_yield (w' := Z1) (v := .pointer (some ⟨Q, 1, none⟩)) rfl (by go_simp) ?_
            refine wpList_yield (w' := Z1) (v := .slice aL k cL) rfl (by go_simp) ?_
            refine wpList_yield (w' := Z1) (v := .pointer (some ⟨A, 0, none⟩)) rfl (by go_simp) ?_
            refine wpList_yield (w' := Z1) (v := .int .i64 x0) rfl (by go_simp) ?_
            refine wpList_yield (w' := Z1) (v := .agg #[.int .i64 x1, .int .i64 x2]) rfl (by go_simp) ?_
            refine wpList_yield (w' := Z1) (v := .pointer (some ⟨A, 3, none⟩)) rfl (by go_simp) ?_
            refine wpList_yield (w' := Z1) (v := .int .i64 x3) rfl (by go_simp) ?_
            refine wpList_yield (w' := Z1) (v := .agg #[.int .i64 x0, .int .i64 x1, .int .i64 x2, .int .i64 x3]) rfl (by go_simp) ?_
            refine wpList_yield (w' := Z1.alloc (.cells #[.int .i64 x0, .int .i64 x1, .int .i64 x2, .int .i64 x3] 78)) (v := .slice (some ⟨Z1.heap.size, 0, none⟩) 1 1) rfl (by go_simp) ?_
            obtain ⟨a2, c2, Wb, g0, g1, g2⟩ := HR7.out.lp.step HK64.out (x0, x1, x2, x3) 27
            refine wpList_yield (w' := Wb) (v := .slice a2 (k + 1) c2) rfl (Ap.exec_app rfl (by go_simp) (by go_simp) g0) ?_
            have HLP2 := Lib.hid g2
            have e0 : Wb.cell? ⟨Q, 1, none⟩ = some (.slice aL k cL) := cell_of_block (o := 1) g1 rfl
            have f0 := free_of_block 1 g1
            clear g0 g1 g2 q1 x0c x1c x2c x3c t0c t1c HR7 HT7
            have HREL := Lib.hid (show ∃ (k' : Nat) (v : Value), k' ≤ n ∧ Value.int .i64 ((k : Int) + 1) = .int .i64 k' ∧ Value.int .i64 x0 = .int .i64 (lastI (dL bs k').2) ∧ okR9 bs k' = true ∧ Lp18 w (Wb.setCell ⟨Q, 1, none⟩ (.slice a2 (k + 1) c2)) C Q (dL bs k').1 nx (dL bs k').2 k' v from
              ⟨k + 1, _, by have := HLT.out; omega, by simp, by rw [HNXT.out]; dsimp only; rw [lastI_snoc], HOS2.out, by rw [HNXT.out]; exact HLP2.out⟩)
            clear HLP2
            have HLT2 := Lib.hid HLT.out
            go_wp2_with fail
            clear e0 f0
            go_roundw
            case rel => exact HREL.out
            case measure => have := HLT2.out; simp [intOf]; omega
    case neg =>
      obtain rfl : k = n := by omega
      have hd : decide (k < k) = false := decide_eq_false (by omega)
      have hd2 : decide ((k : Int) < (k : Int)) = false := decide_eq_false (by omega)
      obtain ⟨aL, cL, rfl⟩ : ∃ a c, v = .slice a k c := by
        rcases hlp.row.2 with ⟨rfl, h0⟩ | ⟨g, cap, cur, hv, _⟩
        · exact ⟨none, 0, by rw [h0]⟩
        · exact ⟨_, _, hv⟩
      have HF := Lib.hid (show okDd bs = true by rw [HOKH.out]; exact hok)
      have HLP := Lib.hid hlp
      have HLN := Lib.hid (show (dL bs k).2.length = k from dVs_len _ k)
      clear hlp hok hlt hk HL0
      obtain ⟨rl, hrl⟩ : ∃ x, x = (dL bs k).1.xs.length := ⟨_, rfl⟩
      have HRL := Lib.hid hrl
      have HRZ := Lib.hid (show (strOfNums (dL bs k).1.xs).size = rl by rw [hrl]; exact size_str _)
      have HRS := Lib.hid (show rl ≤ bs.length by rw [hrl]; exact HLE.out k)
      obtain ⟨sy, hsy⟩ : ∃ x, x = strOfNums (dL bs k).1.xs := ⟨_, rfl⟩
      rw [← hsy] at HRZ
      have HSY := Lib.hid hsy
      clear hrl hsy
      have hsub : IntKind.i64.wrap ((ss.size : Int) - (sy.size : Int)) = (ss.size : Int) - (sy.size : Int) := by have := HBL.out; have := HSZ.out; have := HRZ.out; have := HRS.out; rw [IntKind.wrap_i64]; omega
      go_upto_region 20 with fail
      refine wp_region_held (S := fun X => X.cell? ⟨Q, 0, none⟩ = some (.int .i64 nx) ∧ X.cell? ⟨Q, 1, none⟩ = some (.slice aL k cL) ∧ X.cell? ⟨C, 0, none⟩ = some (.string sy)) hmx ?_
      have HL6 := Lib.hid (HLP.out.below (show Below wr.heap.size wr wr.drew from (Below.refl _ _).drew))
      clear HLP
      change wpAnyH _ _ _ _ _ 10 _ _ wr.drew
      generalize wr.drew = w6 at *
      have hS : w6.cell? ⟨Q, 0, none⟩ = some (.int .i64 nx) ∧ w6.cell? ⟨Q, 1, none⟩ = some (.slice aL k cL) ∧ w6.cell? ⟨C, 0, none⟩ = some (.string sy) := ⟨cell_of_block (o := 0) HL6.out.blk rfl, cell_of_block (o := 1) HL6.out.blk rfl, by rw [HSY.out]; exact HL6.out.base.k0⟩
      (refine wpAnyH_take (i := 0) (v := .agg #[.int .i64 nx, .slice aL k cL]) rfl (by decide +kernel) (by decide +kernel) (by decide +kernel) (fun _ _ _ h => h) (.inl ⟨by first | rfl | (go_simp; done), fun X hX => by obtain ⟨hx0, hx1, hx2⟩ := hX; first | (go_simp; done) | (go_simp; rfl)⟩) hS ?_)
      (refine wpAnyH_take (i := 1) (v := .string ss) rfl (by decide +kernel) (by decide +kernel) (by decide +kernel) (fun _ _ _ h => h) (.inl ⟨by first | rfl | (go_simp; done), fun X hX => by obtain ⟨hx0, hx1, hx2⟩ := hX; first | (go_simp; done) | (go_simp; rfl)⟩) hS ?_)
      (refine wpAnyH_take (i := 2) (v := .int .i64 ss.size) rfl (by decide +kernel) (by decide +kernel) (by decide +kernel) (fun _ _ _ h => h) (.inl ⟨by first | rfl | (go_simp; done), fun X hX => by obtain ⟨hx0, hx1, hx2⟩ := hX; first | (go_simp; done) | (go_simp; rfl)⟩) hS ?_)
      (refine wpAnyH_take (i := 3) (v := .pointer (some ⟨C, 0, none⟩)) rfl (by decide +kernel) (by decide +kernel) (by decide +kernel) (fun _ _ _ h => h) (.inl ⟨by first | rfl | (go_simp; done), fun X hX => by obtain ⟨hx0, hx1, hx2⟩ := hX; first | (go_simp; done) | (go_simp; rfl)⟩) hS ?_)
      (refine wpAnyH_take (i := 4) (v := .string sy) rfl (by decide +kernel) (by decide +kernel) (by decide +kernel) (fun _ _ _ h => h) (.inl ⟨by first | rfl | (go_simp; done), fun X hX => by obtain ⟨hx0, hx1, hx2⟩ := hX; first | (go_simp; done) | (go_simp; rfl)⟩) hS ?_)
      (refine wpAnyH_take (i := 5) (v := .int .i64 sy.size) rfl (by decide +kernel) (by decide +kernel) (by decide +kernel) (fun _ _ _ h => h) (.inl ⟨by first | rfl | (go_simp; done), fun X hX => by obtain ⟨hx0, hx1, hx2⟩ := hX; first | (go_simp; done) | (go_simp; rfl)⟩) hS ?_)
      (refine wpAnyH_take (i := 6) (v := .int .i64 ((ss.size : Int) - (sy.size : Int))) rfl (by decide +kernel) (by decide +kernel) (by decide +kernel) (fun _ _ _ h => h) (.inl ⟨by first | rfl | (go_simp; done), fun X hX => by obtain ⟨hx0, hx1, hx2⟩ := hX; first | (go_simp; done) | (go_simp; rfl)⟩) hS ?_)
      have hw9 := wrote_all HL6.out.base.res (l := [.int .i64 nx, .slice aL k cL]) rfl
      have h0 := HL6.out.base.c0
      have hq := HL6.out.cq
      have hB9 := (hw9.rest Q (by omega)).trans HL6.out.blk
      have hC9 := (hw9.rest C (by omega)).trans HL6.out.base.cur
      have hS9 : (w6.setCells w.heap.size 0 [.int .i64 nx, .slice aL k cL]).cell? ⟨Q, 0, none⟩ = some (.int .i64 nx) ∧ (w6.setCells w.heap.size 0 [.int .i64 nx, .slice aL k cL]).cell? ⟨Q, 1, none⟩ = some (.slice aL k cL) ∧ (w6.setCells w.heap.size 0 [.int .i64 nx, .slice aL k cL]).cell? ⟨C, 0, none⟩ = some (.string sy) :=
        ⟨cell_of_block (o := 0) hB9 rfl, cell_of_block (o := 1) hB9 rfl, by rw [HSY.out]; exact cell_of_block (o := 0) hC9 rfl⟩
      have HRW := Lib.hid (own_rdR HLN.out (Ap.own_keep HL6.out.row fun g hg => hw9.rest g (by have := Ap.own_blk HL6.out.row g hg; omega)))
      refine anyH_store (i := 7) (by decide +kernel) rfl (by first | rfl | (go_simp; done)) (exec_store_allH 29 _ _ rfl w.heap.size [.int .i64 nx, .slice aL k cL] (by go_simp) (by go_simp) HL6.out.base.res rfl (by kernel_rfl) rfl) hS9 ?_
      have HW9 := Lib.hid hw9.there
      have HB9 := Lib.hid (hw9.below HL6.out.base.bel (Nat.le_refl _))
      clear hS hw9 hB9 hC9 h0 hq
      generalize w6.setCells w.heap.size 0 [.int .i64 nx, .slice aL k cL] = W9 at *
      (refine wpAnyH_take (i := 8) (v := .int .i64 ((ss.size : Int) - (sy.size : Int))) rfl (by decide +kernel) (by decide +kernel) (by decide +kernel) (fun _ _ _ h => h) (.inl ⟨by first | rfl | (go_simp; done), fun X hX => by obtain ⟨hx0, hx1, hx2⟩ := hX; first | (go_simp; done) | (go_simp; rfl)⟩) hS9 ?_)
      (refine wpAnyH_take (i := 9) (v := .int .i64 0) rfl (by decide +kernel) (by decide +kernel) (by decide +kernel) (fun _ _ _ h => h) (.inl ⟨by first | rfl | (go_simp; done), fun X hX => by obtain ⟨hx0, hx1, hx2⟩ := hX; first | (go_simp; done) | (go_simp; rfl)⟩) hS9 ?_)
      clear hS9
      refine wpAnyH_done (by decide +kernel) ?_ _
      go_simp
      go_wp2_with fail
      exact bodyPost_ret (results_allH3 [.int .i64 nx, .slice aL k cL] _ Tryd.results6 (by go_simp) HW9.out Tryd.underlying29 rfl (by kernel_rfl)) rfl (HYES.out HF.out _ _ (.slice aL k cL) (by rw [← HRL.out, ← HSZ.out, ← HRZ.out]; first | rfl | (go_simp; done)) HRW.out HB9.out)
end Go.Proofs.YtddoknkmmchkmaaDoor
namespace Go.Proofs.YtddoknkmmchkmaaDoor
set_option linter.unusedVariables false
open Go.ChangeShapes Go.WideShapes Go.ChangeAt Go.RowKit
attribute [local go_sem ↓] Go.wp_at_zero Go.wp_at_succ comesTo_value_eq comesTo_skip_eq comesTo_enter_eq

theorem Rs.lt_le {w : World} {B F : Nat} {l : List RV} {n : Int} (h : Rs w B F l n) : F ≤ w.heap.size := Nat.le_of_lt h.lt
/-- a list that may be -/
structure RG (l : List RV) (n : Int) : Prop where
  may : ∀ r ∈ l, 1 ≤ r.1 ∧ r.1 < n ∧ mayR r.2.1 r.2.2.1 r.2.2.2 = true
  inc : l.Pairwise (fun a b => a.1 < b.1)
  pos : 1 ≤ n ∧ n ≤ 1073741825
  len : l.length ≤ 8
theorem RG.new : RG [] 1 := ⟨fun r hr => (by cases hr), List.Pairwise.nil, by decide, by decide⟩
theorem RG.add {l : List RV} {n : Int} (h : RG l n) (L : List (Int × Int)) (f t W : Int) : RG (addR L l n f t W).2.2.1 (addR L l n f t W).2.2.2 := by
  have hp := h.pos
  unfold addR
  split
  · exact h
  · rename_i h1
    split
    · exact h
    · rename_i h2
      split
      · exact h
      · have h1' : mayR f t W = true := by simpa using h1
        rw [not_or] at h2
        refine ⟨fun r hr => ?_, List.pairwise_append.2 ⟨h.inc, List.pairwise_singleton _ _, fun a ha b hb => ?_⟩, by dsimp only; omega, by dsimp only; rw [List.length_append]; simp only [List.length_cons, List.length_nil]; omega⟩
        · rcases List.mem_append.1 hr with hr | hr
          · have := h.may r hr
            exact ⟨this.1, by dsimp only; omega, this.2.2⟩
          · obtain rfl := List.mem_singleton.1 hr
            exact ⟨hp.1, by dsimp only; omega, h1'⟩
        · obtain rfl := List.mem_singleton.1 hb
          exact (h.may a ha).2.1
theorem RG.rvb {l : List RV} {n : Int} (h : RG l n) : ∀ r ∈ l, RVB r := fun r hr => by
  have h1 := h.may r hr
  have h2 := h.pos
  have h3 := h1.2.2
  unfold mayR at h3
  rw [decide_eq_true_eq] at h3
  exact ⟨by unfold i64R; omega, by unfold i64R; omega, by unfold i64R; omega, by unfold i64R; omega⟩
theorem rdV1_put {nx : Int} {r : RV} (h1 : 0 ≤ r.1 ∧ r.1 ≤ nx - 1) (h0 : nx - 1 ≤ 9223372036854775807) (h2 : i64R r.2.1) (h3 : i64R r.2.2.1) (h4 : 0 ≤ r.2.2.2 ∧ r.2.2.2 ≤ 64) (ys : List Int) : rdV1 nx ⟨putRv r ++ ys, 0⟩ = (⟨ys, 0⟩, r) := by
  unfold rdV1 putRv
  rw [List.append_assoc, List.append_assoc, List.append_assoc, smallF_put h1.1 h1.2 (by omega)]
  dsimp only
  rw [intF_put h2]
  dsimp only
  rw [intF_put h3]
  dsimp only
  rw [smallF_put h4.1 h4.2 (by omega)]
theorem rdVs_put {nx : Int} {l : List RV} (hnx : nx ≤ 1073741825) (h : ∀ r ∈ l, (0 ≤ r.1 ∧ r.1 ≤ nx - 1) ∧ i64R r.2.1 ∧ i64R r.2.2.1 ∧ (0 ≤ r.2.2.2 ∧ r.2.2.2 ≤ 64)) (ys : List Int) : ∀ k, k ≤ l.length → rdVs nx ⟨putRs l ++ ys, 0⟩ k = (⟨putRs (l.drop k) ++ ys, 0⟩, l.take k)
  | 0, _ => by simp [rdVs]
  | k + 1, hk => by
    have hlt : k < l.length := by omega
    obtain ⟨h1, h2, h3, h4⟩ := h l[k] (List.getElem_mem hlt)
    unfold rdVs
    rw [rdVs_put hnx h ys k (by omega)]
    dsimp only
    rw [List.drop_eq_getElem_cons hlt, show putRs (l[k] :: l.drop (k + 1)) = putRv l[k] ++ putRs (l.drop (k + 1)) from by unfold putRs; rw [List.flatMap_cons], List.append_assoc, rdV1_put h1 (by omega) h2 h3 h4]
    dsimp only
    rw [List.take_succ_eq_append_getElem hlt]
theorem RG.fields {l : List RV} {n : Int} (h : RG l n) : ∀ r ∈ l, (0 ≤ r.1 ∧ r.1 ≤ n - 1) ∧ i64R r.2.1 ∧ i64R r.2.2.1 ∧ (0 ≤ r.2.2.2 ∧ r.2.2.2 ≤ 64) := fun r hr => by
  have h1 := h.may r hr
  have h2 := h.rvb r hr
  have h3 := h1.2.2
  unfold mayR at h3
  rw [decide_eq_true_eq] at h3
  exact ⟨by omega, h2.b, h2.c, by omega⟩
theorem okL_RG {l : List RV} {n : Int} (h : RG l n) : ∀ k, k ≤ l.length → okL k l = true
  | 0, _ => rfl
  | k + 1, hk => by
    have hlt : k < l.length := by omega
    have hg : l.getD k zR = l[k] := by simp [List.getD, List.getElem?_eq_getElem hlt]
    have h1 := h.may l[k] (List.getElem_mem hlt)
    unfold okL
    rw [okL_RG h k (by omega), hg, h1.2.2]
    have hl : lastI (l.take k) < l[k].1 := by
      rcases Nat.eq_zero_or_pos k with rfl | hp
      · unfold lastI; simp; omega
      · obtain ⟨j, rfl⟩ : ∃ j, k = j + 1 := ⟨k - 1, by omega⟩
        rw [List.take_succ_eq_append_getElem (by omega), lastI_snoc]
        exact List.pairwise_iff_getElem.1 h.inc j (j + 1) (by omega) hlt (by omega)
    rw [decide_eq_true hl]
    rfl
/-- what is read of a list's bytes, and more -/
theorem rd_put {l : List RV} {n : Int} (h : RG l n) (ys : List Int) : okRd (bytesR l n ++ ys) = true ∧ (rd0 (bytesR l n ++ ys)).2 = n ∧ rdL (bytesR l n ++ ys) (cntR (bytesR l n ++ ys)) = (⟨ys, 0⟩, l) := by
  have hp := h.pos
  have hl := h.len
  have e : bytesR l n ++ ys = putI n ++ (putI (l.length : Int) ++ (putRs l ++ ys)) := by unfold bytesR; simp only [List.append_assoc]
  have e0 : rd0 (bytesR l n ++ ys) = (⟨putI (l.length : Int) ++ (putRs l ++ ys), 0⟩, n) := by
    unfold rd0
    rw [e, smallF_put (by omega) (by omega) (by omega)]
  have e1 : rdN0 (bytesR l n ++ ys) = (⟨putRs l ++ ys, 0⟩, (l.length : Int)) := by
    unfold rdN0
    rw [e0, smallF_put (by omega) (by omega) (by omega)]
  have e2 : cntR (bytesR l n ++ ys) = l.length := by unfold cntR; rw [e1]; exact Int.toNat_natCast _
  have e3 : rdL (bytesR l n ++ ys) l.length = (⟨ys, 0⟩, l) := by
    unfold rdL
    rw [e1, e0]
    dsimp only
    rw [rdVs_put hp.2 h.fields ys l.length (Nat.le_refl _), List.drop_length, List.take_length]
    rfl
  refine ⟨?_, by rw [e0], by rw [e2, e3]⟩
  unfold okRd
  rw [e2, e3, e0, okL_RG h _ (Nat.le_refl _), decide_eq_true hp.1]
  rfl
theorem rightF (n : Int) : RightU [(0, boundU n)] :=
  ⟨⟨_, _, rfl⟩, List.pairwise_singleton _ _, fun a b p q e => by
    have := congrArg List.length e
    simp at this
    omega, fun p hp => by obtain rfl := List.mem_singleton.1 hp; show (0 : Int) < 1099511627776; decide, fun p hp => by obtain rfl := List.mem_singleton.1 hp; exact boundU_in n⟩
theorem one_a : addR [(0, boundU 4)] [] 1 5 9 3 = (1, 0, [(1, 5, 9, 3)], 2) := by kernel_rfl
theorem one_b : addR [(0, boundU 4)] [(1, 5, 9, 3)] 2 8 10 2 = (0, 16, [(1, 5, 9, 3)], 2) := by kernel_rfl
theorem one_c : findR [(0, boundU 4)] [(1, 5, 9, 3)] 3 3 2 = (9, 0) := by kernel_rfl
set_option maxRecDepth 100000 in
set_option maxHeartbeats 4000000 in
theorem rone (w : World) : Calls Tryd.prog 8 #[] w fun e w' => e = .returned (.bool true) ∧ Below w.heap.size w w' := by
  have KN := Lib.hid (new_rs w)
  have KF := Lib.hid (fun X => flat_any 4 X)
  have KA := Lib.hid (fun X F S (h : Rs X F F [] 1) (hu : USt X S [(0, boundU 4)]) => (show Calls Tryd.prog 11 #[.pointer (some ⟨F, 0, none⟩), .pointer (some ⟨S, 0, none⟩), .agg #[.int .i64 5, .int .i64 9], .int .i64 3] X fun e w' => e = .returned (.tuple #[.int .i64 1, .int .i64 0]) ∧ Rs w' F F [(1, 5, 9, 3)] 2 ∧ FrL F X w' from by
    have := add_rs h hu (rightF 4) (by decide) (Nat.le_refl _) 5 9 3
    unfold AddREnd at this
    rw [one_a] at this
    exact this))
  have KB := Lib.hid (fun X F S (h : Rs X F F [(1, 5, 9, 3)] 2) (hu : USt X S [(0, boundU 4)]) => (show Calls Tryd.prog 11 #[.pointer (some ⟨F, 0, none⟩), .pointer (some ⟨S, 0, none⟩), .agg #[.int .i64 8, .int .i64 10], .int .i64 2] X fun e w' => e = .returned (.tuple #[.int .i64 0, .int .i64 16]) ∧ Rs w' F F [(1, 5, 9, 3)] 2 ∧ FrL F X w' from by
    have := add_rs h hu (rightF 4) (by decide) (Nat.le_refl _) 8 10 2
    unfold AddREnd at this
    rw [one_b] at this
    exact this))
  have KC := Lib.hid (fun X F S (h : Rs X F F [(1, 5, 9, 3)] 2) (hu : USt X S [(0, boundU 4)]) => (show Calls Tryd.prog 17 #[.pointer (some ⟨F, 0, none⟩), .pointer (some ⟨S, 0, none⟩), .int .i64 3, .int .i64 3, .int .i64 2] X fun e w' => e = .returned (.tuple #[.int .i64 9, .int .i64 0]) ∧ Below X.heap.size X w' from by
    have := find_rs h hu (rightF 4) (by decide) 3 3 2
    rw [one_c] at this
    exact this))
  go_enter Tryd.func8, Tryd.ntmps8
  go_wp2_with fail
  refine KN.out.mono ?_
  rintro e W1 ⟨rfl, hr, hb⟩
  have HR1 := Lib.hid hr
  have HB1 := Lib.hid hb
  obtain ⟨F, hF⟩ : ∃ F, F = w.heap.size := ⟨_, rfl⟩
  rw [← hF] at HR1 HB1 ⊢
  have HFE := Lib.hid hF
  clear hr hb KN hF
  go_wp2_with fail
  refine (KF.out _).mono ?_
  rintro e W2 ⟨S, rfl, _, hu, hb⟩
  have HR2 := Lib.hid (HR1.out.below hb)
  have HB2 := Lib.hid (HB1.out.trans (hb.mono HR1.out.lt_le))
  have HU2 := Lib.hid hu
  clear hu hb HR1
  go_wp2_with fail
  refine (KA.out _ _ _ HR2.out HU2.out).mono ?_
  rintro e W3 ⟨rfl, hr, hf⟩
  have HB3 := Lib.hid (HB2.out.trans (hf.below HR2.out (Nat.le_refl _)))
  have HR3 := Lib.hid hr
  clear hr hf HR2 HU2
  go_wp2_with fail
  refine (KF.out _).mono ?_
  rintro e W4 ⟨S2, rfl, _, hu, hb⟩
  have HR4 := Lib.hid (HR3.out.below hb)
  have HB4 := Lib.hid (HB3.out.trans (hb.mono HR3.out.lt_le))
  have HU4 := Lib.hid hu
  clear hu hb HR3
  go_wp2_with fail
  refine (KB.out _ _ _ HR4.out HU4.out).mono ?_
  rintro e W5 ⟨rfl, hr, hf⟩
  have HB5 := Lib.hid (HB4.out.trans (hf.below HR4.out (Nat.le_refl _)))
  have HR5 := Lib.hid hr
  clear hr hf HR4 HU4
  go_wp2_with fail
  refine (KF.out _).mono ?_
  rintro e W6 ⟨S3, rfl, _, hu, hb⟩
  have HR6 := Lib.hid (HR5.out.below hb)
  have HB6 := Lib.hid (HB5.out.trans (hb.mono HR5.out.lt_le))
  have HU6 := Lib.hid hu
  clear hu hb HR5
  go_wp2_with fail
  refine (KC.out _ _ _ HR6.out HU6.out).mono ?_
  rintro e W7 ⟨rfl, hb⟩
  have HB7 := Lib.hid (HB6.out.trans (hb.mono HR6.out.lt_le))
  clear hb
  go_wp2_with fail
  go_ret
  exact ⟨rfl, by have := HB7.out; rw [HFE.out] at this; exact this⟩
end Go.Proofs.YtddoknkmmchkmaaDoor
