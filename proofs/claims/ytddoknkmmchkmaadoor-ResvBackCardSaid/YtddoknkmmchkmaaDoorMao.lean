/- Laws that belong together: Reservations (layer 18): a list read from bytes. Conditions: errors.errorType lies as the text lays it; the lengths' bound.; Reservations (layer 18): what comes of Add, plainly; what is laid is read; the law's one. Conditions: none.; Reservations (layer 18): a list that nobody made; levels that nobody made. No condition.; Reservations (layer 18): acts that come in as arguments. No condition.; ResvBack walked, at any acts (layer 18). The door's type of errors. -/
import Derived.Test.YtddoknkmmchkmaaDoorMan
import Derived.Test.YtddoknkmmchkmaaDoorErrAt
import Derived.Test.YtddoknkmmchkmaaDoorMam
import Derived.Test.YtddoknkmmchkmaaDoorMaf
import Derived.Deep.Slices
import Derived.WideShapes
import Derived.ChangeArms
import Derived.Test.YtddoknkmmchkmaaDoorMae
import Derived.Test.YtddoknkmmchkmaaDoorMac
namespace Go.Proofs.YtddoknkmmchkmaaDoor
set_option linter.unusedVariables false
open Go.ChangeShapes Go.WideShapes Go.ChangeAt Go.RowKit
attribute [local go_sem ↓] Go.wp_at_zero Go.wp_at_succ comesTo_value_eq comesTo_skip_eq comesTo_enter_eq

section
variable {P : Program} {ops : Array Oper} {Q : Exit → Act → World → Prop} {md : Region.Mode} {S1 S2 : World → Prop} {js : Nat} {fuel : Nat} {listed : Array Bool} {a : Act} {w : World}
/-- a value behind the last store -/
theorem anyK_lastR {i : Nat} {oi : Oper} {v : Value} {w' : World} (hr : Region.ready md ops listed = [i]) (hi : ops[i]? = some oi) (hg : oi.guard = none) (hjs : (listed.setIfInBounds i true).getD js true = true)
    (h : (execOp a.eval oi).run P w = .ok (.value v) w') (hS : S1 w') (hR : Ap.wpAnyK P md ops Q S1 S2 js fuel (listed.setIfInBounds i true) (a.put oi.dst v) w') :
    Ap.wpAnyK P md ops Q S1 S2 js (fuel + 1) listed a w := by
  refine Ap.wpAnyK_all hr (by simp) fun k hk => ?_
  obtain rfl : k = i := by simpa using hk
  unfold wpOp
  simp only [hi, Region.wanted, hg, if_true]
  refine .inl ?_
  unfold Oper.wp
  rw [h]
  exact ⟨⟨hS, fun h => by rw [hjs] at h; cases h⟩, hR⟩
end
def rd0 (bs : List Int) : CS × Int := smallF ⟨bs, 0⟩ 1073741825
def rdN0 (bs : List Int) : CS × Int := smallF (rd0 bs).1 8
/-- one reservation -/
def rdV1 (nx : Int) (st : CS) : CS × RV := ((smallF (intF (intF (smallF st (nx - 1)).1).1).1 64).1, ((smallF st (nx - 1)).2, (intF (smallF st (nx - 1)).1).2, (intF (intF (smallF st (nx - 1)).1).1).2, (smallF (intF (intF (smallF st (nx - 1)).1).1).1 64).2))
def rdVs (nx : Int) (st : CS) : Nat → CS × List RV
  | 0 => (st, [])
  | k + 1 => ((rdV1 nx (rdVs nx st k).1).1, (rdVs nx st k).2 ++ [(rdV1 nx (rdVs nx st k).1).2])
theorem rdVs_len (nx : Int) (st : CS) : ∀ k, (rdVs nx st k).2.length = k
  | 0 => rfl
  | k + 1 => by simp [rdVs, rdVs_len nx st k]
/-- the last number -/
def lastI (l : List RV) : Int := (l.getLast?.map (·.1)).getD 0
theorem lastI_snoc (l : List RV) (r : RV) : lastI (l ++ [r]) = r.1 := by unfold lastI; simp
/-- each behind the one ahead of it, and such as may be -/
def okL : Nat → List RV → Bool
  | 0, _ => true
  | k + 1, l => okL k l && (decide (lastI (l.take k) < (l.getD k zR).1) && mayR (l.getD k zR).2.1 (l.getD k zR).2.2.1 (l.getD k zR).2.2.2)
theorem okL_le {l : List RV} {k : Nat} : ∀ j, okL (k + j) l = true → okL k l = true
  | 0, h => h
  | j + 1, h => okL_le j (by
      have e : okL (k + (j + 1)) l = (okL (k + j) l && (decide (lastI (l.take (k + j)) < (l.getD (k + j) zR).1) && mayR (l.getD (k + j) zR).2.1 (l.getD (k + j) zR).2.2.1 (l.getD (k + j) zR).2.2.2)) := rfl
      rw [e, Bool.and_eq_true] at h
      exact h.1)
def rdL (bs : List Int) (k : Nat) : CS × List RV := rdVs (rd0 bs).2 (rdN0 bs).1 k
theorem rdL_take (bs : List Int) (k : Nat) : ∀ j, (rdL bs (k + j)).2.take k = (rdL bs k).2
  | 0 => by
    have : (rdL bs k).2.length = k := rdVs_len _ _ _
    rw [Nat.add_zero, List.take_of_length_le (by omega)]
  | j + 1 => by
    have e : (rdL bs (k + (j + 1))).2 = (rdL bs (k + j)).2 ++ [(rdV1 (rd0 bs).2 (rdL bs (k + j)).1).2] := rfl
    have hl : (rdL bs (k + j)).2.length = k + j := rdVs_len _ _ _
    rw [e, List.take_append_of_le_length (by omega)]
    exact rdL_take bs k j
/-- how many -/
def cntR (bs : List Int) : Nat := (rdN0 bs).2.toNat
def okRd (bs : List Int) : Bool := okL (cntR bs) (rdL bs (cntR bs)).2 && ((rdL bs (cntR bs)).1.bad == 0) && decide (1 ≤ (rd0 bs).2)
theorem smallF_mostR (st : CS) {most : Int} (h : 0 ≤ most) : 0 ≤ (smallF st most).2 ∧ (smallF st most).2 ≤ most := by
  unfold smallF
  split
  · exact ⟨Int.le_refl _, h⟩
  · omega
theorem cntR_eq (bs : List Int) : (rdN0 bs).2 = (cntR bs : Int) ∧ cntR bs ≤ 8 := by
  have := smallF_mostR (rd0 bs).1 (most := 8) (by decide)
  unfold cntR rdN0
  omega
def RdREnd (w : World) (bs : List Int) (e : Ending) (w' : World) : Prop :=
  (okRd bs = false ∧ e = .returned (.tuple #[.pointer none, .int .i64 0, .int .i64 11]) ∧ Below w.heap.size w w') ∨
  (okRd bs = true ∧ ∃ F, e = .returned (.tuple #[.pointer (some ⟨F, 0, none⟩), .int .i64 ((bs.length : Int) - ((rdL bs (cntR bs)).1.xs.length : Int)), .int .i64 0]) ∧ w.heap.size ≤ F ∧ Rs w' w.heap.size F (rdL bs (cntR bs)).2 (rd0 bs).2 ∧ Below w.heap.size w w')
/-- where a reading stands: the cursor, the list's block -/
structure RL (w X : World) (C F : Nat) (st : CS) (l : List RV) (nx : Int) : Prop where
  cur : Cur X C (fun j => w.heap.size ≤ j ∧ j < F) st
  blk : ∃ v, X.heap[F]? = some (.cells #[v, .int .i64 nx] 53 (0, 0)) ∧ OwnR X (F + 1) v l
  bel : Below w.heap.size w X
theorem RL.lt {w X : World} {C F : Nat} {st : CS} {l : List RV} {nx : Int} (h : RL w X C F st l nx) : F < X.heap.size := by obtain ⟨_, h1, _⟩ := h.blk; exact (Array.getElem?_eq_some_iff.1 h1).1
theorem RL.call {w X X' : World} {C F : Nat} {st st' : CS} {l : List RV} {nx : Int} (h : RL w X C F st l nx) (hc : Cur X' C (fun j => w.heap.size ≤ j ∧ j < F) st') (hf : Fr (fun j => j = C) X X') : RL w X' C F st' l nx := by
  have hC := h.cur.mem
  obtain ⟨v, h1, h2⟩ := h.blk
  exact ⟨hc, ⟨v, (hf.block _ h.lt (by omega)).trans h1, h2.keep fun k hk => hf.block k (Ap.own_lt h2 k hk) (by have := Ap.own_blk h2 k hk; omega)⟩, h.bel.trans (hf.below (B := w.heap.size) h.bel.size (fun j hj => by omega))⟩
theorem RL.below {w X X' : World} {C F : Nat} {st : CS} {l : List RV} {nx : Int} (h : RL w X C F st l nx) (hb : Below X.heap.size X X') : RL w X' C F st l nx := by
  obtain ⟨v, h1, h2⟩ := h.blk
  exact ⟨h.cur.below hb, ⟨v, (hb.block _ h.lt).trans h1, h2.below hb⟩, below_next h.bel hb⟩
theorem RL.lay {w X X' : World} {C F : Nat} {st : CS} {l l' : List RV} {nx : Int} (h : RL w X C F st l nx) (hb : Below F X X') {v : Value} (h1 : X'.heap[F]? = some (.cells #[v, .int .i64 nx] 53 (0, 0))) (h2 : OwnR X' (F + 1) v l') : RL w X' C F st l' nx := by
  have hC := h.cur.mem
  exact ⟨Fr.cur h.cur (Fr.of_under hb) (fun j hj _ hF => by omega), ⟨v, h1, h2⟩, h.bel.trans (hb.mono (by omega))⟩
set_option maxRecDepth 100000 in
set_option maxHeartbeats 8000000 in
theorem resvread_any {w : World} {ad : Option Addr} {nb cb : Nat} {bs : List Int} (h : TxtAt w (.slice ad nb cb) bs) (hl : bs.length ≤ 1099511627775) (hE : ErrAt w) :
    Calls Tryd.prog 5 #[.slice ad nb cb] w fun e w' => RdREnd w bs e w' := by
  have hmx : Tryd.prog.follows .mixedOrders = true := by kernel_rfl
  have KR := Lib.hid (read_cur h hl)
  have HE := Lib.hid (fun X (hX : Below w.heap.size w X) => hE.below hX)
  have HNB := Lib.hid (show nb = bs.length from h.form.1)
  have HBL := Lib.hid hl
  have HNO := Lib.hid (fun (hh : okRd bs = false) e w' (he : e = .returned (.tuple #[.pointer none, .int .i64 0, .int .i64 11])) (hb : Below w.heap.size w w') => (show RdREnd w bs e w' from .inl ⟨hh, he, hb⟩))
  have HYES := Lib.hid (fun (hh : okRd bs = true) e w' F (he : e = .returned (.tuple #[.pointer (some ⟨F, 0, none⟩), .int .i64 ((bs.length : Int) - ((rdL bs (cntR bs)).1.xs.length : Int)), .int .i64 0])) (hF : w.heap.size ≤ F) (hr : Rs w' w.heap.size F (rdL bs (cntR bs)).2 (rd0 bs).2) (hb : Below w.heap.size w w') => (show RdREnd w bs e w' from .inr ⟨hh, F, he, hF, hr, hb⟩))
  have HCNT := Lib.hid (cntR_eq bs)
  obtain ⟨n, hn⟩ : ∃ n, n = cntR bs := ⟨_, rfl⟩
  rw [← hn] at HCNT
  have HN := Lib.hid hn
  have HNX := Lib.hid (smallF_mostR ⟨bs, 0⟩ (most := 1073741825) (by decide))
  obtain ⟨nx, hnx⟩ : ∃ x, x = (rd0 bs).2 := ⟨_, rfl⟩
  have HX := Lib.hid hnx
  have HNXB := Lib.hid (show 0 ≤ nx ∧ nx ≤ 1073741825 by rw [hnx]; exact HNX.out)
  clear h hl hE hn hnx HNX
  generalize hEE : RdREnd w bs = E at *
  clear hEE
  go_enter Tryd.func5, Tryd.ntmps5
  go_wp2_with fail
  refine KR.out.mono ?_
  rintro e w1 ⟨C, rfl, hc, hb⟩
  have hct := hc.tight
  have HCU := Lib.hid hct
  have HB1 := Lib.hid hb
  clear hc hct hb KR
  have KS := Lib.hid (small_cur HCU.out 1073741825)
  rw [show (smallF ⟨bs, 0⟩ 1073741825).2 = nx from HX.out.symm] at KS
  go_wp2_with fail
  refine KS.out.mono ?_
  rintro e w2 ⟨rfl, hc2, hf2⟩
  have hmem := hc2.mem
  have hb2 := HB1.out.trans (hf2.below (B := w.heap.size) HB1.out.size (fun j hj => by omega))
  have ba := below_alloc (Below.refl _ w2) (.cells #[.slice none 0 0, .int .i64 nx] 53)
  have hsz := hf2.size
  have HRL0 := Lib.hid (show RL w (w2.alloc (.cells #[.slice none 0 0, .int .i64 nx] 53)) C w2.heap.size (rd0 bs).1 [] nx from
    ⟨(hc2.more (fun j hj => ⟨hj.1, by have := hj.2; omega⟩)).below ba, ⟨_, World.alloc_heap_new w2 _, OwnR.nil⟩, below_next hb2 ba⟩)
  have HGF := Lib.hid (show w.heap.size ≤ w2.heap.size from hb2.size)
  clear hc2 hf2 hmem hb2 ba hsz KS HCU
  go_upto_region 4 with fail
  generalize w2.alloc (.cells #[.slice none 0 0, .int .i64 nx] 53) = w3 at *
  generalize w2.heap.size = F at *
  have KS := Lib.hid (small_cur HRL0.out.cur 8)
  rw [show (smallF (rd0 bs).1 8).2 = (n : Int) from HCNT.out.1] at KS
  go_wp2_with fail
  refine KS.out.mono ?_
  rintro e w4 ⟨rfl, hc4, hf4⟩
  have HRL1 := Lib.hid (show RL w w4 C F (rdN0 bs).1 [] nx from HRL0.out.call hc4 hf4)
  clear hc4 hf4 KS HRL0
  go_wp2_with fail
  go_loopw [17, 7] (fun i la wr => ∃ k : Nat, k ≤ n ∧ i = .int .i64 k ∧ la = .int .i64 (lastI (rdL bs k).2) ∧ okL k (rdL bs k).2 = true ∧ RL w wr C F (rdL bs k).1 (rdL bs k).2 nx) (fun i _ _ => n - (intOf i).toNat)
  case atStart => exact ⟨0, Nat.zero_le _, rfl, rfl, rfl, HRL1.out⟩
  case round =>
    obtain ⟨k, hk, rfl, rfl, hok, hrl⟩ := hrel
    have HRL := Lib.hid hrl
    have HOK := Lib.hid hok
    clear hrl hok HRL1
    by_cases hlt : k < n
    case pos =>
      have hd : decide (k < n) = true := decide_eq_true hlt
      have hd2 : decide ((k : Int) < (n : Int)) = true := decide_eq_true (by omega)
      have hkI : (k : Int) < (n : Int) := by omega
      have hw1 : IntKind.i64.wrap ((k : Int) + 1) = (k : Int) + 1 := by have := HCNT.out; rw [IntKind.wrap_i64]; omega
      have hw2 : IntKind.i64.wrap (nx - 1) = nx - 1 := by have := HNXB.out; rw [IntKind.wrap_i64]; omega
      have HLN := Lib.hid (show (rdL bs k).2.length = k from rdVs_len _ _ _)
      have HSTEP := Lib.hid (show rdL bs (k + 1) = ((rdV1 nx (rdL bs k).1).1, (rdL bs k).2 ++ [(rdV1 nx (rdL bs k).1).2]) by rw [HX.out]; rfl)
      have HALL := Lib.hid (show okL (k + 1) (rdL bs n).2 = (okL k (rdL bs n).2 && (decide (lastI ((rdL bs n).2.take k) < ((rdL bs n).2.getD k zR).1) && mayR ((rdL bs n).2.getD k zR).2.1 ((rdL bs n).2.getD k zR).2.2.1 ((rdL bs n).2.getD k zR).2.2.2)) from rfl)
      have HT1 := Lib.hid (show (rdL bs n).2.take (k + 1) = (rdL bs (k + 1)).2 by have := rdL_take bs (k + 1) (n - (k + 1)); rwa [Nat.add_sub_cancel' (by omega)] at this)
      have HT0 := Lib.hid (show (rdL bs n).2.take k = (rdL bs k).2 by have := rdL_take bs k (n - k); rwa [Nat.add_sub_cancel' (by omega)] at this)
      have HLT := Lib.hid hlt
      clear hlt hk
      generalize hrk : rdL bs k = rk at *
      obtain ⟨st, l⟩ := rk
      dsimp only at HRL HOK HLN HSTEP HT0 ⊢
      clear hrk
      unfold rdV1 at HSTEP
      obtain ⟨s1, hs1⟩ : ∃ x, x = (smallF st (nx - 1)).1 := ⟨_, rfl⟩
      obtain ⟨x1, hx1⟩ : ∃ x, x = (smallF st (nx - 1)).2 := ⟨_, rfl⟩
      obtain ⟨s2, hs2⟩ : ∃ x, x = (intF s1).1 := ⟨_, rfl⟩
      obtain ⟨x2, hx2⟩ : ∃ x, x = (intF s1).2 := ⟨_, rfl⟩
      obtain ⟨s3, hs3⟩ : ∃ x, x = (intF s2).1 := ⟨_, rfl⟩
      obtain ⟨x3, hx3⟩ : ∃ x, x = (intF s2).2 := ⟨_, rfl⟩
      obtain ⟨s4, hs4⟩ : ∃ x, x = (smallF s3 64).1 := ⟨_, rfl⟩
      obtain ⟨x4, hx4⟩ : ∃ x, x = (smallF s3 64).2 := ⟨_, rfl⟩
      rw [← hs1, ← hs2, ← hs3, ← hs4, ← hx1, ← hx2, ← hx3, ← hx4] at HSTEP
      have HX1 := Lib.hid hx1
      have HS1 := Lib.hid hs1
      have HX2 := Lib.hid hx2
      have HS2 := Lib.hid hs2
      have HX3 := Lib.hid hx3
      have HS3 := Lib.hid hs3
      have HX4 := Lib.hid hx4
      have HS4 := Lib.hid hs4
      clear hs1 hs2 hs3 hs4 hx1 hx2 hx3 hx4
      obtain ⟨la, hla⟩ : ∃ x, x = lastI l := ⟨_, rfl⟩
      rw [← hla]
      have HLA := Lib.hid hla
      clear hla
      have c1 : wr.cell? ⟨F, 1, none⟩ = some (.int .i64 nx) := by obtain ⟨v, h1, _⟩ := HRL.out.blk; exact cell_of_block (o := 1) h1 rfl
      have K := Lib.hid (small_cur HRL.out.cur (nx - 1))
      rw [← HX1.out, ← HS1.out] at K
      go_wp2_with fail
      refine K.out.mono ?_
      rintro e wa ⟨rfl, hc, hf⟩
      have HRLa := Lib.hid (HRL.out.call hc hf)
      clear hc hf K HRL c1
      have K := Lib.hid (int_cur HRLa.out.cur)
      rw [← HX2.out, ← HS2.out] at K
      go_wp2_with fail
      refine K.out.mono ?_
      rintro e wb ⟨rfl, hc, hf⟩
      have HRLb := Lib.hid (HRLa.out.call hc hf)
      clear hc hf K HRLa
      have K := Lib.hid (int_cur HRLb.out.cur)
      rw [← HX3.out, ← HS3.out] at K
      go_wp2_with fail
      refine K.out.mono ?_
      rintro e wc ⟨rfl, hc, hf⟩
      have HRLc := Lib.hid (HRLb.out.call hc hf)
      clear hc hf K HRLb
      have K := Lib.hid (small_cur HRLc.out.cur 64)
      rw [← HX4.out, ← HS4.out] at K
      go_wp2_with fail
      refine K.out.mono ?_
      rintro e wd ⟨rfl, hc, hf⟩
      have HRLd := Lib.hid (HRLc.out.call hc hf)
      clear hc hf K HRLc
      clear HX1 HX2 HX3 HX4 HS1 HS2 HS3 HS4
      have ba := below_alloc (Below.refl _ wd) (.cells #[.int .i64 x1, .int .i64 x2, .int .i64 x3, .int .i64 x4] 64)
      have HNR := Lib.hid (World.alloc_heap_new wd (.cells #[.int .i64 x1, .int .i64 x2, .int .i64 x3, .int .i64 x4] 64))
      have HRe := Lib.hid (HRLd.out.below ba)
      have HROW := Lib.hid (show ∃ v, (wd.alloc (.cells #[.int .i64 x1, .int .i64 x2, .int .i64 x3, .int .i64 x4] 64)).heap[F]? = some (.cells #[v, .int .i64 nx] 53 (0, 0)) ∧ OwnR (wd.alloc (.cells #[.int .i64 x1, .int .i64 x2, .int .i64 x3, .int .i64 x4] 64)) (F + 1) v l ∧ ∀ j, v.ownBlock = some j → j < wd.heap.size from by
        obtain ⟨v, u1, u2⟩ := HRLd.out.blk
        exact ⟨v, (ba.block _ HRLd.out.lt).trans u1, u2.below ba, fun j hj => Ap.own_lt u2 j hj⟩)
      have HQF := Lib.hid HRLd.out.lt
      clear ba HRLd hw2
      go_upto_region 7 with fail
      generalize wd.alloc (.cells #[.int .i64 x1, .int .i64 x2, .int .i64 x3, .int .i64 x4] 64) = we at *
      have hqF := HQF.out
      generalize wd.heap.size = q at *
      have y0 : we.cell? ⟨q, 0, none⟩ = some (.int .i64 x1) := cell_of_block (o := 0) HNR.out rfl
      have y1 : we.cell? ⟨q, 1, none⟩ = some (.int .i64 x2) := cell_of_block (o := 1) HNR.out rfl
      have y2 : we.cell? ⟨q, 2, none⟩ = some (.int .i64 x3) := cell_of_block (o := 2) HNR.out rfl
      have y3 : we.cell? ⟨q, 3, none⟩ = some (.int .i64 x4) := cell_of_block (o := 3) HNR.out rfl
      have HGET := Lib.hid (show (rdL bs n).2.getD k zR = (x1, x2, x3, x4) by
        have h1 : ((rdL bs n).2.take (k + 1)).getD k zR = (rdL bs n).2.getD k zR := by simp [List.getD, List.getElem?_take]
        rw [← h1, HT1.out, HSTEP.out]
        dsimp only
        simp [List.getD, List.getElem?_append_right, HLN.out])
      have HKK := Lib.hid (show okL k (rdL bs n).2 = okL k l by
        have h1 : ∀ j, j ≤ k → okL j (rdL bs n).2 = okL j l := by
          intro j
          induction j with
          | zero => intro _; rfl
          | succ j ih =>
            intro hj
            unfold okL
            have e1 : (rdL bs n).2.take j = l.take j := by rw [← HT0.out, List.take_take, Nat.min_eq_left (by omega)]
            have e2 : (rdL bs n).2.getD j zR = l.getD j zR := by
              rw [← HT0.out]
              simp [List.getD, List.getElem?_take, show j < k by omega]
            rw [ih (by omega), e1, e2]
        exact h1 k (Nat.le_refl _))
      have HB := Lib.hid (show okL (k + 1) (rdL bs n).2 = (decide (la < x1) && mayR x2 x3 x4) by rw [HALL.out, HKK.out, HOK.out, HT0.out, ← HLA.out, HGET.out]; rfl)
      have HBAD := Lib.hid (fun (hb : (decide (la < x1) && mayR x2 x3 x4) = false) => (show okRd bs = false from by
        unfold okRd
        rw [← HN.out]
        cases hz : okL n (rdL bs n).2 with
        | false => rfl
        | true =>
          have h3 := okL_le (k := k + 1) (l := (rdL bs n).2) (n - (k + 1)) (by rw [Nat.add_sub_cancel' (by have := HLT.out; omega)]; exact hz)
          rw [HB.out, hb] at h3
          cases h3))
      clear HALL HKK HT1 HT0
      by_cases hle : x1 ≤ la
      case pos =>
        have d1 : decide (x1 ≤ la) = true := decide_eq_true hle
        have HOF := Lib.hid (HBAD.out (by rw [decide_eq_false (by omega)]; rfl))
        clear hle y1 y2 y3
        go_wp2_with fail
        try go_ret3
        exact HNO.out HOF.out _ _ rfl HRe.out.bel
      case neg =>
      have d1 : decide (x1 ≤ la) = false := decide_eq_false hle
      have HLE := Lib.hid (show decide (la < x1) = true from decide_eq_true (by omega))
      clear hle
      have KM := Lib.hid (may_any x2 x3 x4 we)
      generalize hmm : mayR x2 x3 x4 = mm at *
      go_wp2_with fail
      refine KM.out.mono ?_
      rintro e wf ⟨rfl, hb⟩
      have HRf := Lib.hid (HRe.out.below hb)
      have HNF := Lib.hid ((hb.block _ (Array.getElem?_eq_some_iff.1 HNR.out).1).trans HNR.out)
      have HROW2 := Lib.hid (show ∃ v, wf.heap[F]? = some (.cells #[v, .int .i64 nx] 53 (0, 0)) ∧ OwnR wf (F + 1) v l ∧ ∀ j, v.ownBlock = some j → j < q from by
        obtain ⟨v, u1, u2, u3⟩ := HROW.out
        exact ⟨v, (hb.block _ (Array.getElem?_eq_some_iff.1 u1).1).trans u1, u2.below hb, u3⟩)
      clear hb KM y0 y1 y2 y3 HRe HNR
      cases mm with
      | false =>
        have HOF := Lib.hid (HBAD.out (by rw [Bool.and_false]))
        go_wp2_with fail
        try go_ret3
        exact HNO.out HOF.out _ _ rfl HRf.out.bel
      | true =>
      clear HBAD
      have HB2 := Lib.hid (show okL (k + 1) (l ++ [(x1, x2, x3, x4)]) = true from by
        have h1 : ∀ j, j ≤ k → okL j (l ++ [(x1, x2, x3, x4)]) = okL j l := by
          intro j
          induction j with
          | zero => intro _; rfl
          | succ j ih =>
            intro hj
            have hjl : j < l.length := by have := HLN.out; omega
            unfold okL
            have e1 : (l ++ [(x1, x2, x3, x4)]).take j = l.take j := List.take_append_of_le_length (by omega)
            have e2 : (l ++ [(x1, x2, x3, x4)]).getD j zR = l.getD j zR := by simp [List.getD, List.getElem?_append_left hjl]
            rw [ih (by omega), e1, e2]
        have e1 : (l ++ [(x1, x2, x3, x4)]).take k = l := by rw [List.take_append_of_le_length (by have := HLN.out; omega), List.take_of_length_le (by have := HLN.out; omega)]
        have e2 : (l ++ [(x1, x2, x3, x4)]).getD k zR = (x1, x2, x3, x4) := by simp [List.getD, List.getElem?_append_right, HLN.out]
        unfold okL
        rw [h1 k (Nat.le_refl _), HOK.out, e1, e2, ← HLA.out]
        dsimp only
        rw [HLE.out, hmm]
        rfl)
      obtain ⟨v, hv1, hv2, hv3⟩ := HROW2.out
      have HROWQ := Lib.hid hv3
      obtain ⟨a, c, hv⟩ := hv2.form
      rw [HLN.out] at hv
      subst hv
      go_upto_region 9 with fail
      refine Ap.wp_region_K (S1 := fun X => X.cell? ⟨q, 0, none⟩ = some (.int .i64 x1) ∧ X.cell? ⟨q, 1, none⟩ = some (.int .i64 x2) ∧ X.cell? ⟨q, 2, none⟩ = some (.int .i64 x3) ∧ X.cell? ⟨q, 3, none⟩ = some (.int .i64 x4)) (S2 := fun X => X.cell? ⟨F, 0, none⟩ = some (.slice a k c)) (js := 12) hmx ?_
      change Ap.wpAnyK _ _ _ _ _ _ _ 14 _ _ wf.drew
      have HRd := Lib.hid (HRf.out.below (show Below wf.heap.size wf wf.drew from (Below.refl _ _).drew))
      have HV0 := Lib.hid (show wf.drew.heap[F]? = some (.cells #[.slice a k c, .int .i64 nx] 53 (0, 0)) from hv1)
      have HO0 := Lib.hid (show OwnR wf.drew (F + 1) (.slice a k c) l from hv2.below (show Below wf.heap.size wf wf.drew from (Below.refl _ _).drew))
      have HN0 := Lib.hid (show wf.drew.heap[q]? = some (.cells #[.int .i64 x1, .int .i64 x2, .int .i64 x3, .int .i64 x4] 64 (0, 0)) from HNF.out)
      generalize wf.drew = W0 at *
      clear hv1 hv2 hv3 HRf HNF HROW HROW2
      have hS1 : ∀ X : World, X.heap[q]? = some (.cells #[.int .i64 x1, .int .i64 x2, .int .i64 x3, .int .i64 x4] 64 (0, 0)) → (fun X : World => X.cell? ⟨q, 0, none⟩ = some (.int .i64 x1) ∧ X.cell? ⟨q, 1, none⟩ = some (.int .i64 x2) ∧ X.cell? ⟨q, 2, none⟩ = some (.int .i64 x3) ∧ X.cell? ⟨q, 3, none⟩ = some (.int .i64 x4)) X := fun X h => ⟨cell_of_block (o := 0) h rfl, cell_of_block (o := 1) h rfl, cell_of_block (o := 2) h rfl, cell_of_block (o := 3) h rfl⟩
      have HS1 := Lib.hid hS1
      clear hS1
      have hSS : (fun X : World => X.cell? ⟨q, 0, none⟩ = some (.int .i64 x1) ∧ X.cell? ⟨q, 1, none⟩ = some (.int .i64 x2) ∧ X.cell? ⟨q, 2, none⟩ = some (.int .i64 x3) ∧ X.cell? ⟨q, 3, none⟩ = some (.int .i64 x4)) W0 ∧ (fun X : World => X.cell? ⟨F, 0, none⟩ = some (.slice a k c)) W0 := ⟨HS1.out _ HN0.out, cell_of_block (o := 0) HV0.out rfl⟩
      refine Ap.wpAnyK_take1 (i := 0) (v := .pointer (some ⟨F, 0, none⟩)) rfl (by decide) (by decide +kernel) (by decide +kernel) (by decide +kernel) (fun _ _ _ h => h) (.inl ⟨by first | rfl | (go_simp; done), fun X hX => by have hx1 := hX.1; have hx2 := hX.2.1; have hx3 := hX.2.2.1; have hx4 := hX.2.2.2; clear hX; first | (go_simp; done) | (go_simp; rfl)⟩) hSS ?_
      refine Ap.wpAnyK_take1 (i := 1) (v := .pointer (some ⟨F, 0, none⟩)) rfl (by decide) (by decide +kernel) (by decide +kernel) (by decide +kernel) (fun _ _ _ h => h) (.inl ⟨by first | rfl | (go_simp; done), fun X hX => by have hx1 := hX.1; have hx2 := hX.2.1; have hx3 := hX.2.2.1; have hx4 := hX.2.2.2; clear hX; first | (go_simp; done) | (go_simp; rfl)⟩) hSS ?_
      refine Ap.wpAnyK_take1 (i := 2) (v := .pointer (some ⟨F, 0, none⟩)) rfl (by decide) (by decide +kernel) (by decide +kernel) (by decide +kernel) (fun _ _ _ h => h) (.inl ⟨by first | rfl | (go_simp; done), fun X hX => by have hx1 := hX.1; have hx2 := hX.2.1; have hx3 := hX.2.2.1; have hx4 := hX.2.2.2; clear hX; first | (go_simp; done) | (go_simp; rfl)⟩) hSS ?_
      refine Ap.wpAnyK_take1 (i := 3) (v := .pointer (some ⟨F, 0, none⟩)) rfl (by decide) (by decide +kernel) (by decide +kernel) (by decide +kernel) (fun _ _ _ h => h) (.inl ⟨by first | rfl | (go_simp; done), fun X hX => by have hx1 := hX.1; have hx2 := hX.2.1; have hx3 := hX.2.2.1; have hx4 := hX.2.2.2; clear hX; first | (go_simp; done) | (go_simp; rfl)⟩) hSS ?_
      refine Ap.wpAnyK_take2 (i := 4) (v := .slice a k c) rfl (by decide) (by decide +kernel) (by decide +kernel) (by decide +kernel) rfl (by decide +kernel) (by decide +kernel) (fun _ _ _ h => h) (.inl ⟨by first | rfl | (go_simp; done), fun X hX => by have hx1 := hX.2; clear hX; first | (go_simp; done) | (go_simp; rfl)⟩) hSS ?_
      refine Ap.wpAnyK_take1 (i := 5) (v := .agg #[.int .i64 x1, .int .i64 x2, .int .i64 x3, .int .i64 x4]) rfl (by decide) (by decide +kernel) (by decide +kernel) (by decide +kernel) (fun _ _ _ h => h) (.inl ⟨by first | rfl | (go_simp; done), fun X hX => by have hx1 := hX.1; have hx2 := hX.2.1; have hx3 := hX.2.2.1; have hx4 := hX.2.2.2; clear hX; first | (go_simp; done) | (go_simp; rfl)⟩) hSS ?_
      refine Ap.wpAnyK_take1 (i := 8) (v := .pointer (some ⟨q, 0, none⟩)) rfl (by decide) (by decide +kernel) (by decide +kernel) (by decide +kernel) (fun _ _ _ h => h) (.inl ⟨by first | rfl | (go_simp; done), fun X hX => by have hx1 := hX.1; have hx2 := hX.2.1; have hx3 := hX.2.2.1; have hx4 := hX.2.2.2; clear hX; first | (go_simp; done) | (go_simp; rfl)⟩) hSS ?_
      refine Ap.wpAnyK_take1 (i := 9) (v := .int .i64 x1) rfl (by decide) (by decide +kernel) (by decide +kernel) (by decide +kernel) (fun _ _ _ h => h) (.inl ⟨by first | rfl | (go_simp; done), fun X hX => by have hx1 := hX.1; have hx2 := hX.2.1; have hx3 := hX.2.2.1; have hx4 := hX.2.2.2; clear hX; first | (go_simp; done) | (go_simp; rfl)⟩) hSS ?_
      clear hSS
      have hba := below_alloc (Below.refl _ W0) (.cells #[.int .i64 x1, .int .i64 x2, .int .i64 x3, .int .i64 x4] 64)
      have hSa := HS1.out _ ((hba.block _ (Array.getElem?_eq_some_iff.1 HN0.out).1).trans HN0.out)
      have hSb : (fun X : World => X.cell? ⟨F, 0, none⟩ = some (.slice a k c)) (W0.alloc (.cells #[.int .i64 x1, .int .i64 x2, .int .i64 x3, .int .i64 x4] 64)) := cell_of_block (o := 0) ((hba.block _ (Array.getElem?_eq_some_iff.1 HV0.out).1).trans HV0.out) rfl
      refine Ap.anyK_val1 (i := 6) (v := .slice (some ⟨W0.heap.size, 0, none⟩) 1 1) (w' := W0.alloc (.cells #[.int .i64 x1, .int .i64 x2, .int .i64 x3, .int .i64 x4] 64)) (by decide +kernel) rfl rfl (by first | (go_simp; done) | (go_simp; rfl)) ⟨hSa, hSb⟩ ?_
      clear hSa hSb hba
      have HO1 := Lib.hid (show W0.ownsRow (F + 1) 64 4 (.slice a k c) k (flatR l) from by have := HO0.out; unfold OwnR at this; rw [HLN.out] at this; exact this)
      obtain ⟨v9, W9, g0, g1, g2, g3, g4, g5⟩ := Ao.app_one eltR 49 HO1.out (cellR (x1, x2, x3, x4)) rfl (cellR_one _) (by have := HCNT.out; have := HLT.out; omega) (by decide) (Array.getElem?_eq_some_iff.1 HV0.out).1
      have ho9 : OwnR W9 (F + 1) v9 (l ++ [(x1, x2, x3, x4)]) := by
        unfold OwnR
        rw [List.length_append, flatR_snoc, HLN.out]
        exact g1
      obtain ⟨a9, c9, hf9⟩ := ho9.form
      have hf8 : v9 = .slice a9 (k + 1) c9 := by rw [hf9, List.length_append, HLN.out]; rfl
      subst hf8
      have hq9 := (g2 q (Array.getElem?_eq_some_iff.1 HN0.out).1 (fun e => Nat.lt_irrefl _ (HROWQ.out q e))).trans HN0.out
      have hF9 := (g5.block F (Nat.lt_succ_self _)).trans HV0.out
      refine Ap.anyK_val1 (i := 7) (v := .slice a9 (k + 1) c9) (w' := W9) (by decide +kernel) rfl rfl (Ap.exec_app rfl (by go_simp) (by go_simp) g0) ⟨HS1.out _ hq9, cell_of_block (o := 0) hF9 rfl⟩ ?_
      have hSS : (fun X : World => X.cell? ⟨q, 0, none⟩ = some (.int .i64 x1) ∧ X.cell? ⟨q, 1, none⟩ = some (.int .i64 x2) ∧ X.cell? ⟨q, 2, none⟩ = some (.int .i64 x3) ∧ X.cell? ⟨q, 3, none⟩ = some (.int .i64 x4)) W9 ∧ (fun X : World => X.cell? ⟨F, 0, none⟩ = some (.slice a k c)) W9 := ⟨HS1.out _ hq9, cell_of_block (o := 0) hF9 rfl⟩
      refine Ap.wpAnyK_take1 (i := 10) (v := .pointer (some ⟨F, 0, none⟩)) rfl (by decide) (by decide +kernel) (by decide +kernel) (by decide +kernel) (fun _ _ _ h => h) (.inl ⟨by first | rfl | (go_simp; done), fun X hX => by have hx1 := hX.1; have hx2 := hX.2.1; have hx3 := hX.2.2.1; have hx4 := hX.2.2.2; clear hX; first | (go_simp; done) | (go_simp; rfl)⟩) hSS ?_
      refine Ap.wpAnyK_take1 (i := 11) (v := .pointer (some ⟨F, 0, none⟩)) rfl (by decide) (by decide +kernel) (by decide +kernel) (by decide +kernel) (fun _ _ _ h => h) (.inl ⟨by first | rfl | (go_simp; done), fun X hX => by have hx1 := hX.1; have hx2 := hX.2.1; have hx3 := hX.2.2.1; have hx4 := hX.2.2.2; clear hX; first | (go_simp; done) | (go_simp; rfl)⟩) hSS ?_
      clear hSS
      have z0 := cell_of_block (o := 0) hF9 rfl
      have z1 := free_of_block 0 hF9
      have hw := (wrote_refl hF9).set 0 (.slice a9 (k + 1) c9)
      have HRX := Lib.hid (show RL w (W9.setCell ⟨F, 0, none⟩ (.slice a9 (k + 1) c9)) C F s4 (l ++ [(x1, x2, x3, x4)]) nx from
        HRd.out.lay (hw.below (g5.mono (Nat.le_succ _)) (Nat.le_refl _)) hw.there (ho9.keep fun j hj => hw.rest j (by have := Ap.own_blk ho9 j hj; omega)))
      have hs9 := HS1.out _ ((hw.rest q (by omega)).trans hq9)
      clear hw g0 g1 g2 g3 g4 g5 ho9 hf9
      refine Ap.anyK_store (i := 12) (w' := W9.setCell ⟨F, 0, none⟩ (.slice a9 (k + 1) c9)) (by decide +kernel) rfl rfl (by decide +kernel) (by first | (go_simp; done) | (go_simp; rfl)) hs9 ?_
      clear z0 z1 hF9 hq9
      generalize W9.setCell ⟨F, 0, none⟩ (.slice a9 (k + 1) c9) = WX at *
      refine anyK_lastR (i := 13) (v := .int .i64 x1) (by decide +kernel) rfl rfl (by decide +kernel) (by first | (go_simp; done) | (go_simp; rfl)) hs9 ?_
      refine Ap.wpAnyK_done (by decide +kernel) ?_ _
      clear hs9
      have HREL := Lib.hid (show ∃ k' : Nat, k' ≤ n ∧ Value.int .i64 ((k : Int) + 1) = .int .i64 k' ∧ Value.int .i64 x1 = .int .i64 (lastI (rdL bs k').2) ∧ okL k' (rdL bs k').2 = true ∧ RL w WX C F (rdL bs k').1 (rdL bs k').2 nx from
        ⟨k + 1, by have := HLT.out; omega, by simp, by rw [HSTEP.out]; dsimp only; rw [lastI_snoc], by rw [HSTEP.out]; exact HB2.out, by rw [HSTEP.out]; exact HRX.out⟩)
      have HLT2 := Lib.hid HLT.out
      go_simp
      go_wp2_with fail
      go_roundw
      case rel => exact HREL.out
      case measure => have := HLT2.out; simp [intOf]; omega
    case neg =>
      obtain rfl : k = n := by omega
      have hd : decide (k < k) = false := decide_eq_false (by omega)
      have hd2 : decide ((k : Int) < (k : Int)) = false := decide_eq_false (by omega)
      have HOKR := Lib.hid (show okRd bs = (((rdL bs k).1.bad == 0) && decide (1 ≤ nx)) by unfold okRd; rw [← HN.out, HOK.out, HX.out]; rfl)
      have HYE := Lib.hid (fun (hh : okRd bs = true) e w' (he : e = .returned (.tuple #[.pointer (some ⟨F, 0, none⟩), .int .i64 ((bs.length : Int) - ((rdL bs k).1.xs.length : Int)), .int .i64 0])) (hr : Rs w' w.heap.size F (rdL bs k).2 nx) (hb : Below w.heap.size w w') => HYES.out hh e w' F (by rw [← HN.out]; exact he) HGF.out (by rw [← HN.out, ← HX.out]; exact hr) hb)
      have HLN := Lib.hid (show (rdL bs k).2.length = k from rdVs_len _ _ _)
      have KB := Lib.hid (bad_cur HRL.out.cur (HE.out _ HRL.out.bel))
      have HFT := Lib.hid HRL.out.cur.fits
      generalize rdL bs k = rk at *
      obtain ⟨st, l⟩ := rk
      dsimp only at HRL HLN HOKR KB HYE HFT ⊢
      obtain ⟨bd, hbd⟩ : ∃ x, x = st.bad := ⟨_, rfl⟩
      rw [← hbd] at KB HOKR
      clear hbd HYES
      go_wp2_with fail
      refine KB.out.mono ?_
      rintro e w5 ⟨rfl, hb⟩
      have HR5 := Lib.hid (HRL.out.below hb)
      clear hb KB HRL
      by_cases h0 : bd = 0
      case neg =>
        have hne : (bd == 0) = false := by simpa using h0
        have hne2 : (bd != 0) = true := by simp [h0]
        have HOF := Lib.hid (show okRd bs = false by rw [HOKR.out, hne]; rfl)
        clear h0
        go_wp2_with fail
        try go_ret3
        exact HNO.out HOF.out _ _ rfl HR5.out.bel
      case pos =>
      subst h0
      have c1 : w5.cell? ⟨F, 1, none⟩ = some (.int .i64 nx) := by obtain ⟨v, h1, _⟩ := HR5.out.blk; exact cell_of_block (o := 1) h1 rfl
      by_cases hn1 : nx < 1
      case pos =>
        have d1 : decide (nx < 1) = true := decide_eq_true hn1
        have HOF := Lib.hid (show okRd bs = false by rw [HOKR.out, decide_eq_false (by omega)]; rfl)
        clear hn1
        go_wp2_with fail
        try go_ret3
        exact HNO.out HOF.out _ _ rfl HR5.out.bel
      case neg =>
      have d1 : decide (nx < 1) = false := decide_eq_false hn1
      have HOT := Lib.hid (show okRd bs = true by rw [HOKR.out, decide_eq_true (by omega)]; rfl)
      have HRS := Lib.hid (show Rs w5 w.heap.size F l nx from by
        obtain ⟨v, h1, h2⟩ := HR5.out.blk
        exact ⟨⟨v, h1, h2.base (by have := HGF.out; omega), fun e => by have := Ap.own_blk h2 F e; omega⟩, by have := HNXB.out; omega, by rw [HLN.out]; exact HCNT.out.2⟩)
      have KRS := Lib.hid (rest_cur HR5.out.cur)
      obtain ⟨rl, hrl⟩ : ∃ x, x = st.xs.length := ⟨_, rfl⟩
      rw [← hrl] at KRS HFT HYE
      have hws : IntKind.i64.wrap ((nb : Int) - (rl : Int)) = (nb : Int) - (rl : Int) := by have := HFT.out; have := HNB.out; have := HBL.out; rw [IntKind.wrap_i64]; omega
      clear hrl hn1
      go_wp2_with fail
      refine KRS.out.mono ?_
      rintro e w' ⟨rfl, rfl⟩
      have HNBB := Lib.hid HNB.out
      rw [← HNB.out] at HYE
      go_wp2_with fail
      try go_ret3
      exact HYE.out HOT.out _ _ rfl HRS.out HR5.out.bel
end Go.Proofs.YtddoknkmmchkmaaDoor
namespace Go.Proofs.YtddoknkmmchkmaaDoor
set_option linter.unusedVariables false
open Go.ChangeShapes Go.WideShapes Go.ChangeAt Go.RowKit
attribute [local go_sem ↓] Go.wp_at_zero Go.wp_at_succ comesTo_value_eq comesTo_skip_eq comesTo_enter_eq

theorem Rs.lt_le {w : World} {B F : Nat} {l : List RV} {n : Int} (h : Rs w B F l n) : F ≤ w.heap.size := Nat.le_of_lt h.lt
/-- a list that may be -/
structure RG (l : List RV) (n : Int) : Prop where
  may : ∀ r ∈ l, 1 ≤ r.1 ∧ r.1 < n ∧ mayR r.2.1 r.2.2.1 r.2.2.2 = true
  inc : l.Pairwise (fun a b => a.1 < b.1)
  pos : 1 ≤ n ∧ n ≤ 1073741825
  len : l.length ≤ 8
theorem RG.new : RG [] 1 := ⟨fun r hr => (by cases hr), List.Pairwise.nil, by decide, by decide⟩
theorem RG.add {l : List RV} {n : Int} (h : RG l n) (L : List (Int × Int)) (f t W : Int) : RG (addR L l n f t W).2.2.1 (addR L l n f t W).2.2.2 := by
  have hp := h.pos
  unfold addR
  split
  · exact h
  · rename_i h1
    split
    · exact h
    · rename_i h2
      split
      · exact h
      · have h1' : mayR f t W = true := by simpa using h1
        rw [not_or] at h2
        refine ⟨fun r hr => ?_, List.pairwise_append.2 ⟨h.inc, List.pairwise_singleton _ _, fun a ha b hb => ?_⟩, by dsimp only; omega, by dsimp only; rw [List.length_append]; simp only [List.length_cons, List.length_nil]; omega⟩
        · rcases List.mem_append.1 hr with hr | hr
          · have := h.may r hr
            exact ⟨this.1, by dsimp only; omega, this.2.2⟩
          · obtain rfl := List.mem_singleton.1 hr
            exact ⟨hp.1, by dsimp only; omega, h1'⟩
        · obtain rfl := List.mem_singleton.1 hb
          exact (h.may a ha).2.1
theorem RG.rvb {l : List RV} {n : Int} (h : RG l n) : ∀ r ∈ l, RVB r := fun r hr => by
  have h1 := h.may r hr
  have h2 := h.pos
  have h3 := h1.2.2
  unfold mayR at h3
  rw [decide_eq_true_eq] at h3
  exact ⟨by unfold i64R; omega, by unfold i64R; omega, by unfold i64R; omega, by unfold i64R; omega⟩
theorem rdV1_put {nx : Int} {r : RV} (h1 : 0 ≤ r.1 ∧ r.1 ≤ nx - 1) (h0 : nx - 1 ≤ 9223372036854775807) (h2 : i64R r.2.1) (h3 : i64R r.2.2.1) (h4 : 0 ≤ r.2.2.2 ∧ r.2.2.2 ≤ 64) (ys : List Int) : rdV1 nx ⟨putRv r ++ ys, 0⟩ = (⟨ys, 0⟩, r) := by
  unfold rdV1 putRv
  rw [List.append_assoc, List.append_assoc, List.append_assoc, smallF_put h1.1 h1.2 (by omega)]
  dsimp only
  rw [intF_put h2]
  dsimp only
  rw [intF_put h3]
  dsimp only
  rw [smallF_put h4.1 h4.2 (by omega)]
theorem rdVs_put {nx : Int} {l : List RV} (hnx : nx ≤ 1073741825) (h : ∀ r ∈ l, (0 ≤ r.1 ∧ r.1 ≤ nx - 1) ∧ i64R r.2.1 ∧ i64R r.2.2.1 ∧ (0 ≤ r.2.2.2 ∧ r.2.2.2 ≤ 64)) (ys : List Int) : ∀ k, k ≤ l.length → rdVs nx ⟨putRs l ++ ys, 0⟩ k = (⟨putRs (l.drop k) ++ ys, 0⟩, l.take k)
  | 0, _ => by simp [rdVs]
  | k + 1, hk => by
    have hlt : k < l.length := by omega
    obtain ⟨h1, h2, h3, h4⟩ := h l[k] (List.getElem_mem hlt)
    unfold rdVs
    rw [rdVs_put hnx h ys k (by omega)]
    dsimp only
    rw [List.drop_eq_getElem_cons hlt, show putRs (l[k] :: l.drop (k + 1)) = putRv l[k] ++ putRs (l.drop (k + 1)) from by unfold putRs; rw [List.flatMap_cons], List.append_assoc, rdV1_put h1 (by omega) h2 h3 h4]
    dsimp only
    rw [List.take_succ_eq_append_getElem hlt]
theorem RG.fields {l : List RV} {n : Int} (h : RG l n) : ∀ r ∈ l, (0 ≤ r.1 ∧ r.1 ≤ n - 1) ∧ i64R r.2.1 ∧ i64R r.2.2.1 ∧ (0 ≤ r.2.2.2 ∧ r.2.2.2 ≤ 64) := fun r hr => by
  have h1 := h.may r hr
  have h2 := h.rvb r hr
  have h3 := h1.2.2
  unfold mayR at h3
  rw [decide_eq_true_eq] at h3
  exact ⟨by omega, h2.b, h2.c, by omega⟩
theorem okL_RG {l : List RV} {n : Int} (h : RG l n) : ∀ k, k ≤ l.length → okL k l = true
  | 0, _ => rfl
  | k + 1, hk => by
    have hlt : k < l.length := by omega
    have hg : l.getD k zR = l[k] := by simp [List.getD, List.getElem?_eq_getElem hlt]
    have h1 := h.may l[k] (List.getElem_mem hlt)
    unfold okL
    rw [okL_RG h k (by omega), hg, h1.2.2]
    have hl : lastI (l.take k) < l[k].1 := by
      rcases Nat.eq_zero_or_pos k with rfl | hp
      · unfold lastI; simp; omega
      · obtain ⟨j, rfl⟩ : ∃ j, k = j + 1 := ⟨k - 1, by omega⟩
        rw [List.take_succ_eq_append_getElem (by omega), lastI_snoc]
        exact List.pairwise_iff_getElem.1 h.inc j (j + 1) (by omega) hlt (by omega)
    rw [decide_eq_true hl]
    rfl
/-- what is read of a list's bytes, and more -/
theorem rd_put {l : List RV} {n : Int} (h : RG l n) (ys : List Int) : okRd (bytesR l n ++ ys) = true ∧ (rd0 (bytesR l n ++ ys)).2 = n ∧ rdL (bytesR l n ++ ys) (cntR (bytesR l n ++ ys)) = (⟨ys, 0⟩, l) := by
  have hp := h.pos
  have hl := h.len
  have e : bytesR l n ++ ys = putI n ++ (putI (l.length : Int) ++ (putRs l ++ ys)) := by unfold bytesR; simp only [List.append_assoc]
  have e0 : rd0 (bytesR l n ++ ys) = (⟨putI (l.length : Int) ++ (putRs l ++ ys), 0⟩, n) := by
    unfold rd0
    rw [e, smallF_put (by omega) (by omega) (by omega)]
  have e1 : rdN0 (bytesR l n ++ ys) = (⟨putRs l ++ ys, 0⟩, (l.length : Int)) := by
    unfold rdN0
    rw [e0, smallF_put (by omega) (by omega) (by omega)]
  have e2 : cntR (bytesR l n ++ ys) = l.length := by unfold cntR; rw [e1]; exact Int.toNat_natCast _
  have e3 : rdL (bytesR l n ++ ys) l.length = (⟨ys, 0⟩, l) := by
    unfold rdL
    rw [e1, e0]
    dsimp only
    rw [rdVs_put hp.2 h.fields ys l.length (Nat.le_refl _), List.drop_length, List.take_length]
    rfl
  refine ⟨?_, by rw [e0], by rw [e2, e3]⟩
  unfold okRd
  rw [e2, e3, e0, okL_RG h _ (Nat.le_refl _), decide_eq_true hp.1]
  rfl
theorem rightF (n : Int) : RightU [(0, boundU n)] :=
  ⟨⟨_, _, rfl⟩, List.pairwise_singleton _ _, fun a b p q e => by
    have := congrArg List.length e
    simp at this
    omega, fun p hp => by obtain rfl := List.mem_singleton.1 hp; show (0 : Int) < 1099511627776; decide, fun p hp => by obtain rfl := List.mem_singleton.1 hp; exact boundU_in n⟩
theorem one_a : addR [(0, boundU 4)] [] 1 5 9 3 = (1, 0, [(1, 5, 9, 3)], 2) := by kernel_rfl
theorem one_b : addR [(0, boundU 4)] [(1, 5, 9, 3)] 2 8 10 2 = (0, 16, [(1, 5, 9, 3)], 2) := by kernel_rfl
theorem one_c : findR [(0, boundU 4)] [(1, 5, 9, 3)] 3 3 2 = (9, 0) := by kernel_rfl
set_option maxRecDepth 100000 in
set_option maxHeartbeats 4000000 in
theorem rone (w : World) : Calls Tryd.prog 8 #[] w fun e w' => e = .returned (.bool true) ∧ Below w.heap.size w w' := by
  have KN := Lib.hid (new_rs w)
  have KF := Lib.hid (fun X => flat_any 4 X)
  have KA := Lib.hid (fun X F S (h : Rs X F F [] 1) (hu : USt X S [(0, boundU 4)]) => (show Calls Tryd.prog 11 #[.pointer (some ⟨F, 0, none⟩), .pointer (some ⟨S, 0, none⟩), .agg #[.int .i64 5, .int .i64 9], .int .i64 3] X fun e w' => e = .returned (.tuple #[.int .i64 1, .int .i64 0]) ∧ Rs w' F F [(1, 5, 9, 3)] 2 ∧ FrL F X w' from by
    have := add_rs h hu (rightF 4) (by decide) (Nat.le_refl _) 5 9 3
    unfold AddREnd at this
    rw [one_a] at this
    exact this))
  have KB := Lib.hid (fun X F S (h : Rs X F F [(1, 5, 9, 3)] 2) (hu : USt X S [(0, boundU 4)]) => (show Calls Tryd.prog 11 #[.pointer (some ⟨F, 0, none⟩), .pointer (some ⟨S, 0, none⟩), .agg #[.int .i64 8, .int .i64 10], .int .i64 2] X fun e w' => e = .returned (.tuple #[.int .i64 0, .int .i64 16]) ∧ Rs w' F F [(1, 5, 9, 3)] 2 ∧ FrL F X w' from by
    have := add_rs h hu (rightF 4) (by decide) (Nat.le_refl _) 8 10 2
    unfold AddREnd at this
    rw [one_b] at this
    exact this))
  have KC := Lib.hid (fun X F S (h : Rs X F F [(1, 5, 9, 3)] 2) (hu : USt X S [(0, boundU 4)]) => (show Calls Tryd.prog 17 #[.pointer (some ⟨F, 0, none⟩), .pointer (some ⟨S, 0, none⟩), .int .i64 3, .int .i64 3, .int .i64 2] X fun e w' => e = .returned (.tuple #[.int .i64 9, .int .i64 0]) ∧ Below X.heap.size X w' from by
    have := find_rs h hu (rightF 4) (by decide) 3 3 2
    rw [one_c] at this
    exact this))
  go_enter Tryd.func8, Tryd.ntmps8
  go_wp2_with fail
  refine KN.out.mono ?_
  rintro e W1 ⟨rfl, hr, hb⟩
  have HR1 := Lib.hid hr
  have HB1 := Lib.hid hb
  obtain ⟨F, hF⟩ : ∃ F, F = w.heap.size := ⟨_, rfl⟩
  rw [← hF] at HR1 HB1 ⊢
  have HFE := Lib.hid hF
  clear hr hb KN hF
  go_wp2_with fail
  refine (KF.out _).mono ?_
  rintro e W2 ⟨S, rfl, _, hu, hb⟩
  have HR2 := Lib.hid (HR1.out.below hb)
  have HB2 := Lib.hid (HB1.out.trans (hb.mono HR1.out.lt_le))
  have HU2 := Lib.hid hu
  clear hu hb HR1
  go_wp2_with fail
  refine (KA.out _ _ _ HR2.out HU2.out).mono ?_
  rintro e W3 ⟨rfl, hr, hf⟩
  have HB3 := Lib.hid (HB2.out.trans (hf.below HR2.out (Nat.le_refl _)))
  have HR3 := Lib.hid hr
  clear hr hf HR2 HU2
  go_wp2_with fail
  refine (KF.out _).mono ?_
  rintro e W4 ⟨S2, rfl, _, hu, hb⟩
  have HR4 := Lib.hid (HR3.out.below hb)
  have HB4 := Lib.hid (HB3.out.trans (hb.mono HR3.out.lt_le))
  have HU4 := Lib.hid hu
  clear hu hb HR3
  go_wp2_with fail
  refine (KB.out _ _ _ HR4.out HU4.out).mono ?_
  rintro e W5 ⟨rfl, hr, hf⟩
  have HB5 := Lib.hid (HB4.out.trans (hf.below HR4.out (Nat.le_refl _)))
  have HR5 := Lib.hid hr
  clear hr hf HR4 HU4
  go_wp2_with fail
  refine (KF.out _).mono ?_
  rintro e W6 ⟨S3, rfl, _, hu, hb⟩
  have HR6 := Lib.hid (HR5.out.below hb)
  have HB6 := Lib.hid (HB5.out.trans (hb.mono HR5.out.lt_le))
  have HU6 := Lib.hid hu
  clear hu hb HR5
  go_wp2_with fail
  refine (KC.out _ _ _ HR6.out HU6.out).mono ?_
  rintro e W7 ⟨rfl, hb⟩
  have HB7 := Lib.hid (HB6.out.trans (hb.mono HR6.out.lt_le))
  clear hb
  go_wp2_with fail
  go_ret
  exact ⟨rfl, by have := HB7.out; rw [HFE.out] at this; exact this⟩
end Go.Proofs.YtddoknkmmchkmaaDoor
namespace Go.Proofs.YtddoknkmmchkmaaDoor
set_option linter.unusedVariables false
open Go.ChangeShapes Go.WideShapes Go.ChangeAt Go.RowKit
attribute [local go_sem ↓] Go.wp_at_zero Go.wp_at_succ comesTo_value_eq comesTo_skip_eq comesTo_enter_eq

theorem NoRs.below {w w' : World} {v : Value} (h : NoRs w v) (hb : Below w.heap.size w w') : NoRs w' v := by
  rcases h with h | ⟨F, h1, h2⟩
  · exact .inl h
  · exact .inr ⟨F, h1, (hb.block _ (Array.getElem?_eq_some_iff.1 h2).1).trans h2⟩
theorem NoRs.ptr {w : World} {v : Value} (h : NoRs w v) : ∃ o, v = .pointer o := by
  rcases h with h | ⟨F, h, _⟩
  · exact ⟨_, h⟩
  · exact ⟨_, h⟩
set_option maxRecDepth 100000 in
theorem next_rno {w : World} {v : Value} (h : NoRs w v) : Calls Tryd.prog 16 #[v] w fun e w' => e = .returned (.int .i64 0) ∧ Below w.heap.size w w' := by
  obtain ⟨po, rfl⟩ := h.ptr
  have HB := Lib.hid (show Below w.heap.size w w from Below.refl _ w)
  have KT := Lib.hid (there_rno (h.below HB.out))
  clear h
  go_enter Tryd.func16, Tryd.ntmps16
  go_wp2_with fail
  refine KT.out.mono ?_
  rintro e w' ⟨rfl, rfl⟩
  go_wp2_with fail
  go_ret
  exact ⟨rfl, HB.out⟩
set_option maxRecDepth 100000 in
theorem all_rno {w : World} {v : Value} (h : NoRs w v) : Calls Tryd.prog 15 #[v] w fun e w' => e = .returned (.slice none 0 0) ∧ Below w.heap.size w w' := by
  obtain ⟨po, rfl⟩ := h.ptr
  have HB := Lib.hid (show Below w.heap.size w w from Below.refl _ w)
  have KT := Lib.hid (there_rno (h.below HB.out))
  clear h
  go_enter Tryd.func15, Tryd.ntmps15
  go_wp2_with fail
  refine KT.out.mono ?_
  rintro e w' ⟨rfl, rfl⟩
  go_wp2_with fail
  go_ret
  exact ⟨rfl, HB.out⟩
set_option maxRecDepth 100000 in
theorem clone_rno {w : World} {v : Value} (h : NoRs w v) : Calls Tryd.prog 13 #[v] w fun e w' => e = .returned (.pointer none) ∧ Below w.heap.size w w' := by
  obtain ⟨po, rfl⟩ := h.ptr
  have HB := Lib.hid (show Below w.heap.size w w from Below.refl _ w)
  have KT := Lib.hid (there_rno (h.below HB.out))
  clear h
  go_enter Tryd.func13, Tryd.ntmps13
  go_wp2_with fail
  refine KT.out.mono ?_
  rintro e w' ⟨rfl, rfl⟩
  go_wp2_with fail
  go_ret
  exact ⟨rfl, HB.out⟩
set_option maxRecDepth 100000 in
theorem drop_rno {w : World} {v : Value} (h : NoRs w v) (i : Int) : Calls Tryd.prog 18 #[v, .int .i64 i] w fun e w' => e = .returned (.int .i64 1) ∧ Below w.heap.size w w' := by
  obtain ⟨po, rfl⟩ := h.ptr
  have HB := Lib.hid (show Below w.heap.size w (w.alloc (.cells #[.int .i64 i] 3)) from below_alloc (Below.refl _ w) (.cells #[.int .i64 i] 3))
  have KT := Lib.hid (there_rno (h.below HB.out))
  clear h
  go_enter Tryd.func18, Tryd.ntmps18
  go_wp2_with fail
  refine KT.out.mono ?_
  rintro e w' ⟨rfl, rfl⟩
  go_wp2_with fail
  go_ret
  exact ⟨rfl, HB.out⟩
set_option maxRecDepth 100000 in
theorem past_rno {w : World} {v : Value} (h : NoRs w v) (t : Int) : Calls Tryd.prog 14 #[v, .int .i64 t] w fun e w' => e = .returned (.slice none 0 0) ∧ Below w.heap.size w w' := by
  obtain ⟨po, rfl⟩ := h.ptr
  have HB := Lib.hid (show Below w.heap.size w (w.alloc (.cells #[.int .i64 t] 36)) from below_alloc (Below.refl _ w) (.cells #[.int .i64 t] 36))
  have KT := Lib.hid (there_rno (h.below HB.out))
  clear h
  go_enter Tryd.func14, Tryd.ntmps14
  go_wp2_with fail
  refine KT.out.mono ?_
  rintro e w' ⟨rfl, rfl⟩
  go_wp2_with fail
  go_ret
  exact ⟨rfl, HB.out⟩
set_option maxRecDepth 100000 in
theorem add_rno {w : World} {v : Value} (h : NoRs w v) (u : Value) (f t W : Int) : Calls Tryd.prog 11 #[v, u, .agg #[.int .i64 f, .int .i64 t], .int .i64 W] w fun e w' => e = .returned (.tuple #[.int .i64 0, .int .i64 1]) ∧ Below w.heap.size w w' := by
  obtain ⟨po, rfl⟩ := h.ptr
  have HB := Lib.hid (show Below w.heap.size w (w.alloc (.cells #[.int .i64 f, .int .i64 t] 38)) from below_alloc (Below.refl _ w) (.cells #[.int .i64 f, .int .i64 t] 38))
  have KT := Lib.hid (there_rno (h.below HB.out))
  clear h
  go_enter Tryd.func11, Tryd.ntmps11
  go_wp2_with fail
  refine KT.out.mono ?_
  rintro e w' ⟨rfl, rfl⟩
  go_wp2_with fail
  go_ret2
  exact ⟨rfl, HB.out⟩
set_option maxRecDepth 100000 in
theorem find_rno {w : World} {v : Value} (h : NoRs w v) (u : Value) (f m W : Int) : Calls Tryd.prog 17 #[v, u, .int .i64 f, .int .i64 m, .int .i64 W] w fun e w' => e = .returned (.tuple #[.int .i64 0, .int .i64 1]) ∧ Below w.heap.size w w' := by
  obtain ⟨po, rfl⟩ := h.ptr
  have HB := Lib.hid (show Below w.heap.size w w from Below.refl _ w)
  have KT := Lib.hid (there_rno (h.below HB.out))
  clear h
  go_enter Tryd.func17, Tryd.ntmps17
  go_wp2_with fail
  refine KT.out.mono ?_
  rintro e w' ⟨rfl, rfl⟩
  go_wp2_with fail
  go_ret2
  exact ⟨rfl, HB.out⟩
theorem lower_no (w : World) : Calls Tryd.prog 19 #[.pointer none, .slice none 0 0] w fun e w' => e = .returned (.int .i64 1) ∧ Below w.heap.size w w' := by
  have KL := Lib.hid (fun X => list_no (w := X) (v := .pointer none) (.inl rfl))
  have KM : ∀ X, Calls Tryd.prog 32 #[.pointer none] X fun e w' => e = .returned (.bool false) ∧ Below X.heap.size X w' := by
    intro X
    go_enter Tryd.func32, Tryd.ntmps32
    go_wp2_with fail
    refine (KL.out _).mono ?_
    rintro e w1 ⟨rfl, hb⟩
    have HB := Lib.hid hb
    clear hb
    go_wp2_with fail
    go_ret
    exact ⟨rfl, HB.out⟩
  have HM := Lib.hid KM
  clear KM
  go_enter Tryd.func19, Tryd.ntmps19
  go_wp2_with fail
  refine (HM.out _).mono ?_
  rintro e w1 ⟨rfl, hb⟩
  have HB := Lib.hid hb
  clear hb
  go_wp2_with fail
  go_ret
  exact ⟨rfl, HB.out⟩
end Go.Proofs.YtddoknkmmchkmaaDoor
namespace Go.Proofs.YtddoknkmmchkmaaDoor
set_option linter.unusedVariables false
open Go.ChangeShapes Go.WideShapes Go.RowKit Go.Deep
namespace R18

theorem fields_at {P : Program} {fs : Array Field} {l : List (Nat × Nat × TypeId)} (h : fs.toList.map (fun f => (f.offset, P.cellsOf f.type, f.type)) = l) {i o c : Nat} {t : TypeId} (hi : l[i]? = some (o, c, t)) : ∃ f, fs[i]? = some f ∧ f.offset = o ∧ P.cellsOf f.type = c ∧ f.type = t := by
  rw [← h, List.getElem?_map] at hi
  cases hf : fs.toList[i]? with
  | none => rw [hf] at hi; cases hi
  | some f =>
    rw [hf] at hi
    injection hi with hi
    injection hi with h1 h2
    injection h2 with h2 h3
    exact ⟨f, by simpa using hf, h1, h2, h3⟩
/-- the part of a struct that a field is, as the reading of the struct tells it -/
theorem trod_field {H : Type} {enc : TypeId × Value → H} {P : Program} {w : World} {base : Nat} {spare : Nat → Bool} {held : Bool} {fuel : Nat} {t : TypeId} {cs : List Value} {x : DataW H × List MemPlace} {fs : Array Field} (hs : P.underlying t = some (.struct fs)) (h : DataW.trod enc P w base spare held fuel t cs = some x)
    {l : List (Nat × Nat × TypeId)} (hl : fs.toList.map (fun f => (f.offset, P.cellsOf f.type, f.type)) = l) {i o c : Nat} {u : TypeId} (hi : l[i]? = some (o, c, u)) : ∃ n y, DataW.trod enc P w base spare held n u ((cs.drop o).take c) = some y := by
  obtain ⟨xs, n, _, _, _, hlen, hfs⟩ := DataW.trod_struct hs h
  obtain ⟨f, hf, rfl, rfl, rfl⟩ := fields_at hl hi
  have hlt : i < xs.length := by rw [hlen]; exact (Array.getElem?_eq_some_iff.1 hf).1
  exact ⟨n, xs[i], (hfs i f hf).trans (List.getElem?_eq_getElem hlt)⟩
theorem sAct : Tryd.prog.underlying 40 = some (.struct (Tryd.prog.fieldsOf 40)) := by kernel_rfl
theorem fAct : (Tryd.prog.fieldsOf 40).toList.map (fun f => (f.offset, Tryd.prog.cellsOf f.type, f.type)) = [(0, 1, 3), (1, 1, 3), (2, 2, 38)] := by kernel_rfl
theorem sSpan : Tryd.prog.underlying 38 = some (.struct (Tryd.prog.fieldsOf 38)) := by kernel_rfl
theorem fSpan : (Tryd.prog.fieldsOf 38).toList.map (fun f => (f.offset, Tryd.prog.cellsOf f.type, f.type)) = [(0, 1, 36), (1, 1, 36)] := by kernel_rfl
theorem cellsAct : Tryd.prog.cellsOf 40 = 4 := by kernel_rfl
set_option maxRecDepth 10000 in
theorem act_open {H : Type} {enc : TypeId × Value → H} {W : World} {base b0 : Nat} {spare : Nat → Bool} {held : Bool} {r : Reach} {v : Value} {d : DataW H} {p : List MemPlace}
    (hv : Value.okWide Tryd.prog W r b0 40 v) (h : DataW.Trod enc Tryd.prog W base spare held 40 v d p) :
    ∃ k n f t : Int, (i64R n ∧ i64R f ∧ i64R t) ∧ v = .agg #[.int .i64 k, .int .i64 n, .int .i64 f, .int .i64 t] := by
  obtain ⟨cs, rfl, hsz⟩ := okWide_struct sAct hv
  rw [cellsAct] at hsz
  obtain ⟨fuel, hf⟩ := h
  have hcs : (Value.agg cs).cells.toList = cs.toList := rfl
  rw [hcs] at hf
  obtain ⟨l, rfl⟩ : ∃ l : List Value, cs = l.toArray := ⟨cs.toList, by simp⟩
  match l, hsz with
  | [c0, c1, c2, c3], _ =>
    obtain ⟨n0, y0, h0⟩ := trod_field sAct hf fAct (i := 0) rfl
    obtain ⟨n1, y1, h1⟩ := trod_field sAct hf fAct (i := 1) rfl
    obtain ⟨n2, y2, h2⟩ := trod_field sAct hf fAct (i := 2) rfl
    obtain ⟨n3, y3, h3⟩ := trod_field sSpan h2 fSpan (i := 0) rfl
    obtain ⟨n4, y4, h4⟩ := trod_field sSpan h2 fSpan (i := 1) rfl
    obtain ⟨a0, e0, _, _⟩ := DataW.trod_int Tryd.underlying3 h0
    obtain ⟨a2, e2, _, w2⟩ := DataW.trod_int Tryd.underlying3 h1
    obtain ⟨a3, e3, _, w3⟩ := DataW.trod_int Tryd.underlying36 h3
    obtain ⟨a4, e4, _, w4⟩ := DataW.trod_int Tryd.underlying36 h4
    have f0 : c0 = .int .i64 a0 := by simpa using e0
    have f2 : c1 = .int .i64 a2 := by simpa using e2
    have f3 : c2 = .int .i64 a3 := by simpa using e3
    have f4 : c3 = .int .i64 a4 := by simpa using e4
    subst f0 f2 f3 f4
    refine ⟨_, _, _, _, ⟨?_, ?_, ?_⟩, rfl⟩
    · unfold i64R; simpa [Lit.wf, IntKind.min, IntKind.max, IntKind.signed, IntKind.bits] using w2
    · unfold i64R; simpa [Lit.wf, IntKind.min, IntKind.max, IntKind.signed, IntKind.bits] using w3
    · unfold i64R; simpa [Lit.wf, IntKind.min, IntKind.max, IntKind.signed, IntKind.bits] using w4
/-- an act: what it is, the span, how much -/
structure ActR where
  kind : Int
  n : Int
  fr : Int
  to_ : Int
structure ActR.Cells (w : World) (b o : Nat) (a : ActR) : Prop where
  c0 : w.cell? ⟨b, o, none⟩ = some (.int .i64 a.kind)
  c1 : w.cell? ⟨b, o + 1, none⟩ = some (.int .i64 a.n)
  c2 : w.cell? ⟨b, o + 2, none⟩ = some (.int .i64 a.fr)
  c3 : w.cell? ⟨b, o + 3, none⟩ = some (.int .i64 a.to_)
  n64 : -9223372036854775808 ≤ a.n ∧ a.n ≤ 9223372036854775807
  f64 : -9223372036854775808 ≤ a.fr ∧ a.fr ≤ 9223372036854775807
  t64 : -9223372036854775808 ≤ a.to_ ∧ a.to_ ≤ 9223372036854775807
def ActsR (w : World) (ad : Option Addr) (len : Nat) (A : Nat → ActR) : Prop := len ≤ 9223372036854775807 ∧ (0 < len → ∃ b off, ad = some ⟨b, off, none⟩ ∧ ∀ k, k < len → ActR.Cells w b (off + k * 4) (A k))
instance : Inhabited ActR := ⟨⟨0, 0, 0, 0⟩⟩
set_option maxRecDepth 10000 in
theorem acts_open {H : Type} {enc : TypeId × Value → H} {W : World} {a : Option Addr} {len cap : Nat} {d : DataW H} {p : List MemPlace}
    (h : DataW.Trod enc Tryd.prog W 0 (fun _ => true) true 35 (.slice a len cap) d p) : ∃ A : Nat → ActR, ActsR W a len A ∧ len ≤ cap := by
  obtain ⟨fuel, hf⟩ := h
  rcases Go.Deep.open_slice Tryd.underlying35 hf with ⟨hcs, _⟩ | ⟨x, l, c, m, n, D, Pl, hcs, _, hl, hm, hmm, hd, hcell⟩
  · simp [Value.cells] at hcs
    obtain ⟨rfl, rfl, rfl⟩ := hcs
    exact ⟨fun _ => ⟨0, 0, 0, 0⟩, ⟨by omega, fun h => absurd h (by omega)⟩, Nat.le_refl _⟩
  · simp [Value.cells] at hcs
    obtain ⟨rfl, rfl, rfl⟩ := hcs
    have hlm : len ≤ m := by rw [hmm]; split <;> omega
    rw [cellsAct] at hcell
    by_cases h0 : len = 0
    · exact ⟨fun _ => ⟨0, 0, 0, 0⟩, ⟨by omega, fun h => absurd h (by omega)⟩, hl⟩
    obtain ⟨b, off, spot⟩ := x
    have hspot : spot = none := by
      obtain ⟨cs', h1, _⟩ := hcell 0 (by omega)
      obtain ⟨_, hlen, hc⟩ := World.cells?_some h1
      have := hc 0 (by omega)
      have hs : cs'[0]? = some cs'[0] := List.getElem?_eq_getElem (by omega)
      rw [hs] at this
      simpa [Addr.add] using World.cell?_spot this
    subst hspot
    have hplain : ∀ k, (⟨b, off, none⟩ : Addr).add k = ⟨b, off + k, none⟩ := fun k => by unfold Addr.add; split <;> simp_all
    have hplain2 : ∀ k j, ((⟨b, off, none⟩ : Addr).add k).add j = ⟨b, off + k + j, none⟩ := fun k j => by rw [Go.Deep.add_add, hplain, Nat.add_assoc]
    have each : ∀ i, i < len → ∃ q : ActR, ActR.Cells W b (off + i * 4) q := by
      intro i hi
      obtain ⟨cs', h1, h2⟩ := hcell i (by omega)
      obtain ⟨_, hlen, hc⟩ := World.cells?_some h1
      match cs', hlen with
      | [v0, v1, v2, v3], _ =>
        obtain ⟨n0, y0, g0⟩ := trod_field sAct h2 fAct (i := 0) rfl
        obtain ⟨n1, y1, g1⟩ := trod_field sAct h2 fAct (i := 1) rfl
        obtain ⟨n2, y2, g2⟩ := trod_field sAct h2 fAct (i := 2) rfl
        obtain ⟨n3, y3, g3⟩ := trod_field sSpan g2 fSpan (i := 0) rfl
        obtain ⟨n4, y4, g4⟩ := trod_field sSpan g2 fSpan (i := 1) rfl
        obtain ⟨a0, e0, _, _⟩ := DataW.trod_int Tryd.underlying3 g0
        obtain ⟨a2, e2, _, w2⟩ := DataW.trod_int Tryd.underlying3 g1
        obtain ⟨a3, e3, _, w3⟩ := DataW.trod_int Tryd.underlying36 g3
        obtain ⟨a4, e4, _, w4⟩ := DataW.trod_int Tryd.underlying36 g4
        have f0 : v0 = .int .i64 a0 := by simpa using e0
        have f2 : v1 = .int .i64 a2 := by simpa using e2
        have f3 : v2 = .int .i64 a3 := by simpa using e3
        have f4 : v3 = .int .i64 a4 := by simpa using e4
        subst f0 f2 f3 f4
        have b2 : -9223372036854775808 ≤ a2 ∧ a2 ≤ 9223372036854775807 := by simpa [Lit.wf, IntKind.min, IntKind.max, IntKind.signed, IntKind.bits] using w2
        have b3 : -9223372036854775808 ≤ a3 ∧ a3 ≤ 9223372036854775807 := by simpa [Lit.wf, IntKind.min, IntKind.max, IntKind.signed, IntKind.bits] using w3
        have b4 : -9223372036854775808 ≤ a4 ∧ a4 ≤ 9223372036854775807 := by simpa [Lit.wf, IntKind.min, IntKind.max, IntKind.signed, IntKind.bits] using w4
        have c : ∀ j, j < 4 → W.cell? ⟨b, off + i * 4 + j, none⟩ = [Value.int .i64 a0, .int .i64 a2, .int .i64 a3, .int .i64 a4][j]? := fun j hj => by rw [← hplain2]; exact hc j hj
        exact ⟨⟨a0, a2, a3, a4⟩, { c0 := c 0 (by decide), c1 := c 1 (by decide), c2 := c 2 (by decide), c3 := c 3 (by decide), n64 := b2, f64 := b3, t64 := b4 }⟩
    obtain ⟨A, hA⟩ := Go.Deep.choose_lt (α := ActR) (p := fun i q => ActR.Cells W b (off + i * 4) q) each
    exact ⟨A, ⟨by unfold maxLen at hm; omega, fun _ => ⟨b, off, rfl, hA⟩⟩, hl⟩
end R18
end Go.Proofs.YtddoknkmmchkmaaDoor
namespace Go.Proofs.YtddoknkmmchkmaaDoor
set_option linter.unusedVariables false
open Go.ChangeShapes Go.WideShapes Go.ChangeAt Go.RowKit
attribute [local go_sem ↓] Go.wp_at_zero Go.wp_at_succ comesTo_value_eq comesTo_skip_eq comesTo_enter_eq Rl.comesToR_value_eq Rl.comesToR_skip_eq Rl.comesToR_enter_eq

theorem R18.ActR.Cells.below {w w' : World} {b o : Nat} {a : R18.ActR} (h : R18.ActR.Cells w b o a) (hb : Below w.heap.size w w') : R18.ActR.Cells w' b o a :=
  ⟨(hb.cell (World.block_lt_of_cell? w _ h.c0)).trans h.c0, (hb.cell (World.block_lt_of_cell? w _ h.c1)).trans h.c1, (hb.cell (World.block_lt_of_cell? w _ h.c2)).trans h.c2, (hb.cell (World.block_lt_of_cell? w _ h.c3)).trans h.c3, h.n64, h.f64, h.t64⟩
theorem pastL_never {l : List RV} {n : Int} (h : RG l n) : pastL 1099511627776 l = [] := by
  unfold pastL
  rw [List.filter_eq_nil_iff]
  intro r hr
  have h1 := (h.may r hr).2.2
  unfold mayR at h1
  rw [decide_eq_true_eq] at h1
  simp
  omega
theorem bytesR_len {l : List RV} {n : Int} (h : RG l n) : (bytesR l n).length ≤ 400 := by
  have h1 := putRs_len h.rvb
  have h2 := putI_len (v := n) (by have := h.pos; omega)
  have h3 := putI_len (v := (l.length : Int)) (by have := h.len; omega)
  have h4 := h.len
  unfold bytesR
  simp only [List.length_append]
  omega
theorem own0 {w : World} {B : Nat} {v : Value} (h : OwnTxt w B v []) : ∃ a c, v = .slice a 0 c := by
  obtain ⟨a, c, h1, _⟩ := h.shape
  exact ⟨a, c, h1⟩
set_option maxRecDepth 100000 in
set_option maxHeartbeats 16000000 in
theorem resvback_walk (lad : Option Addr) (ll lcap : Nat) (A : Nat → R18.ActR) (ak an af at_ : Int) (w : World) (hA : R18.ActsR w lad ll A) (hE : ErrAt w) :
    Calls Tryd.prog 4 #[.slice lad ll lcap, .agg #[.int .i64 ak, .int .i64 an, .int .i64 af, .int .i64 at_]] w fun e w' => e = .returned (.bool true) ∧ Below w.heap.size w w' := by
  have hmx : Tryd.prog.follows .mixedOrders = true := by kernel_rfl
  have HA := Lib.hid hA
  have HEE := Lib.hid (fun X (hX : Below w.heap.size w X) => hE.below hX)
  have hb0 := below_alloc (Below.refl _ w) (.cells #[.int .i64 ak, .int .i64 an, .int .i64 af, .int .i64 at_] 40)
  have HZ := Lib.hid (World.alloc_heap_new w (.cells #[.int .i64 ak, .int .i64 an, .int .i64 af, .int .i64 at_] 40))
  have HB0 := Lib.hid hb0
  have KF := Lib.hid (fun X => flat_any 20 X)
  have KN := Lib.hid (fun X => new_rs X)
  clear hA hE hb0
  go_enter Tryd.func4, Tryd.ntmps4
  go_upto_region 1 with fail
  generalize w.alloc (.cells #[.int .i64 ak, .int .i64 an, .int .i64 af, .int .i64 at_] 40) = W0 at *
  go_wp2_with fail
  refine (KF.out _).mono ?_
  rintro e W1 ⟨S, rfl, _, hu, hb⟩
  have HU := Lib.hid hu
  have HZ1 := Lib.hid ((hb.block _ (Array.getElem?_eq_some_iff.1 HZ.out).1).trans HZ.out)
  have HB1 := Lib.hid (below_next HB0.out hb)
  clear hu hb KF HZ HB0
  go_wp2_with fail
  refine (KN.out _).mono ?_
  rintro e W2 ⟨rfl, hr, hb⟩
  obtain ⟨F, hF⟩ : ∃ F, F = W1.heap.size := ⟨_, rfl⟩
  rw [← hF] at hr ⊢
  have HR2 := Lib.hid hr
  have HB2 := Lib.hid hb
  have HF := Lib.hid hF
  have HWF := Lib.hid (show w.heap.size ≤ F from by rw [hF]; exact HB1.out.size)
  clear hr hb hF KN
  go_wp2_with fail
  go_loopw [7] (fun i wr => ∃ (j : Nat) (lst : List RV) (nx : Int), j ≤ 20 ∧ i = .int .i64 j ∧ Rs wr F F lst nx ∧ RG lst nx ∧ Below W1.heap.size W1 wr) (fun i _ => 20 - (intOf i).toNat)
  case atStart => exact ⟨0, [], 1, by decide, rfl, HR2.out, RG.new, HB2.out⟩
  case round =>
    obtain ⟨j, lst, nx, hj, rfl, hr, hg, hbw⟩ := hrel
    have HR := Lib.hid hr
    have HG := Lib.hid hg
    have HBW := Lib.hid hbw
    clear hr hg hbw HR2 HB2
    by_cases hj2 : j < ll ∧ j < 20
    case pos =>
      obtain ⟨hjl, hj20⟩ := hj2
      have d1 : decide (j < ll) = true := decide_eq_true hjl
      have d2 : decide ((j : Int) < (ll : Int)) = true := decide_eq_true (by omega)
      have d3 : decide ((j : Int) < 20) = true := decide_eq_true (by omega)
      have d4 : decide (j < 20) = true := decide_eq_true hj20
      have hjI : (j : Int) < (ll : Int) := by omega
      have hw1 : IntKind.i64.wrap ((j : Int) + 1) = (j : Int) + 1 := by rw [IntKind.wrap_i64]; omega
      obtain ⟨tb, toff, had, hcells⟩ := HA.out.2 (by omega)
      have HCL := Lib.hid (fun X (hX : Below w.heap.size w X) => (hcells j hjl).below hX)
      have HBJ := Lib.hid (below_next HB1.out HBW.out)
      subst had
      clear hcells
      generalize A j = aj at *
      obtain ⟨jk, jn, jf, jt⟩ := aj
      have HJ20 := Lib.hid hj20
      clear hjl hj20
      have KA := Lib.hid (fun X (hX : Below wr.heap.size wr X) => add_rs (HR.out.below hX) ((HU.out.below HBW.out).below hX) (rightF 20) (by decide) (Nat.le_refl _) jf jt jn)
      have HGA := Lib.hid (HG.out.add [(0, boundU 20)] jf jt jn)
      go_upto_region 6 with fail
      refine wp_region_held (S := fun X => X.cell? ⟨tb, toff + j * 4 + 1, none⟩ = some (.int .i64 jn) ∧ X.cell? ⟨tb, toff + j * 4 + 2, none⟩ = some (.int .i64 jf) ∧ X.cell? ⟨tb, toff + j * 4 + 3, none⟩ = some (.int .i64 jt)) hmx ?_
      have HBD := Lib.hid (show Below wr.heap.size wr wr.drew from (Below.refl _ _).drew)
      change wpAnyH _ _ _ _ _ 13 _ _ wr.drew
      generalize wr.drew = wd at *
      have hc := HCL.out wd (below_next HBJ.out HBD.out)
      have hS : wd.cell? ⟨tb, toff + j * 4 + 1, none⟩ = some (.int .i64 jn) ∧ wd.cell? ⟨tb, toff + j * 4 + 2, none⟩ = some (.int .i64 jf) ∧ wd.cell? ⟨tb, toff + j * 4 + 3, none⟩ = some (.int .i64 jt) := ⟨hc.c1, hc.c2, hc.c3⟩
      clear hc
      (refine wpAnyH_take (i := 0) (v := .pointer (some ⟨F, 0, none⟩)) rfl (by decide +kernel) (by decide +kernel) (by decide +kernel) (fun _ _ _ h => h) (.inl ⟨by first | rfl | (go_simp; done), fun X hX => by obtain ⟨hx0, hx1, hx2⟩ := hX; first | (go_simp; done) | (go_simp; rfl)⟩) hS ?_)
      (refine wpAnyH_take (i := 1) (v := .pointer (some ⟨S, 0, none⟩)) rfl (by decide +kernel) (by decide +kernel) (by decide +kernel) (fun _ _ _ h => h) (.inl ⟨by first | rfl | (go_simp; done), fun X hX => by obtain ⟨hx0, hx1, hx2⟩ := hX; first | (go_simp; done) | (go_simp; rfl)⟩) hS ?_)
      (refine wpAnyH_take (i := 2) (v := .slice (some ⟨tb, toff, none⟩) ll lcap) rfl (by decide +kernel) (by decide +kernel) (by decide +kernel) (fun _ _ _ h => h) (.inl ⟨by first | rfl | (go_simp; done), fun X hX => by obtain ⟨hx0, hx1, hx2⟩ := hX; first | (go_simp; done) | (go_simp; rfl)⟩) hS ?_)
      (refine wpAnyH_take (i := 3) (v := .int .i64 j) rfl (by decide +kernel) (by decide +kernel) (by decide +kernel) (fun _ _ _ h => h) (.inl ⟨by first | rfl | (go_simp; done), fun X hX => by obtain ⟨hx0, hx1, hx2⟩ := hX; first | (go_simp; done) | (go_simp; rfl)⟩) hS ?_)
      (refine wpAnyH_take (i := 4) (v := .pointer (some ⟨tb, toff + j * 4, none⟩)) rfl (by decide +kernel) (by decide +kernel) (by decide +kernel) (fun _ _ _ h => h) (.inl ⟨by first | rfl | (go_simp; done), fun X hX => by obtain ⟨hx0, hx1, hx2⟩ := hX; first | (go_simp; done) | (go_simp; rfl)⟩) hS ?_)
      (refine wpAnyH_take (i := 5) (v := .pointer (some ⟨tb, toff + j * 4 + 2, none⟩)) rfl (by decide +kernel) (by decide +kernel) (by decide +kernel) (fun _ _ _ h => h) (.inl ⟨by first | rfl | (go_simp; done), fun X hX => by obtain ⟨hx0, hx1, hx2⟩ := hX; first | (go_simp; done) | (go_simp; rfl)⟩) hS ?_)
      (refine wpAnyH_take (i := 6) (v := .agg #[.int .i64 jf, .int .i64 jt]) rfl (by decide +kernel) (by decide +kernel) (by decide +kernel) (fun _ _ _ h => h) (.inl ⟨by first | rfl | (go_simp; done), fun X hX => by obtain ⟨hx0, hx1, hx2⟩ := hX; first | (go_simp; done) | (go_simp; rfl)⟩) hS ?_)
      (refine wpAnyH_take (i := 7) (v := .slice (some ⟨tb, toff, none⟩) ll lcap) rfl (by decide +kernel) (by decide +kernel) (by decide +kernel) (fun _ _ _ h => h) (.inl ⟨by first | rfl | (go_simp; done), fun X hX => by obtain ⟨hx0, hx1, hx2⟩ := hX; first | (go_simp; done) | (go_simp; rfl)⟩) hS ?_)
      (refine wpAnyH_take (i := 8) (v := .int .i64 j) rfl (by decide +kernel) (by decide +kernel) (by decide +kernel) (fun _ _ _ h => h) (.inl ⟨by first | rfl | (go_simp; done), fun X hX => by obtain ⟨hx0, hx1, hx2⟩ := hX; first | (go_simp; done) | (go_simp; rfl)⟩) hS ?_)
      (refine wpAnyH_take (i := 9) (v := .pointer (some ⟨tb, toff + j * 4, none⟩)) rfl (by decide +kernel) (by decide +kernel) (by decide +kernel) (fun _ _ _ h => h) (.inl ⟨by first | rfl | (go_simp; done), fun X hX => by obtain ⟨hx0, hx1, hx2⟩ := hX; first | (go_simp; done) | (go_simp; rfl)⟩) hS ?_)
      (refine wpAnyH_take (i := 10) (v := .pointer (some ⟨tb, toff + j * 4 + 1, none⟩)) rfl (by decide +kernel) (by decide +kernel) (by decide +kernel) (fun _ _ _ h => h) (.inl ⟨by first | rfl | (go_simp; done), fun X hX => by obtain ⟨hx0, hx1, hx2⟩ := hX; first | (go_simp; done) | (go_simp; rfl)⟩) hS ?_)
      (refine wpAnyH_take (i := 11) (v := .int .i64 jn) rfl (by decide +kernel) (by decide +kernel) (by decide +kernel) (fun _ _ _ h => h) (.inl ⟨by first | rfl | (go_simp; done), fun X hX => by obtain ⟨hx0, hx1, hx2⟩ := hX; first | (go_simp; done) | (go_simp; rfl)⟩) hS ?_)
      clear hS
      refine anyH_call (i := 12) (by decide +kernel) rfl (by first | rfl | (go_simp; done)) (by go_simp) (KA.out wd HBD.out) ?_
      rintro e w2 ⟨rfl, hr2, hf2⟩
      have HBX := Lib.hid (HBW.out.trans (show Below W1.heap.size wr w2 from (HBD.out.mono (HBW.out.size)).trans (by rw [← HF.out]; exact hf2.below (HR.out.below HBD.out) (Nat.le_refl _))))
      have HR3 := Lib.hid hr2
      have hc := HCL.out w2 (below_next HB1.out HBX.out)
      refine ⟨_, rfl, ⟨hc.c1, hc.c2, hc.c3⟩, ?_⟩
      clear hr2 hf2 hc HCL KA HBD HBJ HR HBW HG
      refine wpAnyH_done (by decide +kernel) ?_ _
      generalize addR [(0, boundU 20)] lst nx jf jt jn = ar at *
      obtain ⟨ar1, ar2, ar3, ar4⟩ := ar
      dsimp only at HR3 HGA ⊢
      go_simp
      go_wp2_with fail
      go_roundw
      case rel => exact ⟨j + 1, ar3, ar4, by have := HJ20.out; omega, by go_num, HR3.out, HGA.out, HBX.out⟩
      case measure => have := HJ20.out; simp [intOf]; omega
    case neg =>
    go_upto_region 4 with fail
    go_cut [28] (fun c wx => c = .bool false ∧ wx = wr)
    case first =>
      by_cases hjl : j < ll
      · have d1 : decide (j < ll) = true := decide_eq_true hjl
        have d2 : decide ((j : Int) < (ll : Int)) = true := decide_eq_true (by omega)
        have d3 : decide ((j : Int) < 20) = false := decide_eq_false (by omega)
        have d4 : decide (j < 20) = false := decide_eq_false (by omega)
        clear hj2 hjl hj
        go_wp2_with fail
        go_meet
        exact ⟨rfl, rfl⟩
      · have d1 : decide (j < ll) = false := decide_eq_false hjl
        have d2 : decide ((j : Int) < (ll : Int)) = false := decide_eq_false (by omega)
        clear hj2 hjl hj
        go_wp2_with fail
        go_meet
        exact ⟨rfl, rfl⟩
    case rest =>
    obtain ⟨rfl, rfl⟩ := hcut
    clear hj2 hj
    have HBB := Lib.hid (below_next HB1.out HBW.out)
    have hnilT : ∀ X : World, TxtAt X (.slice none 0 0) [] := fun X => .inr ⟨rfl, none, 0, rfl, fun _ => rfl⟩
    have KP := Lib.hid (fun X (hX : Below wc.heap.size wc X) => put_rs (HR.out.below hX) HG.out.rvb (hnilT X) (by simp))
    clear hnilT
    go_wp2_with fail
    refine (KP.out wc (Below.refl _ _)).mono ?_
    rintro e w3 ⟨u, rfl, hu3, hb3⟩
    rw [List.nil_append] at hu3
    obtain ⟨xs, hxs⟩ : ∃ xs, xs = bytesR lst nx := ⟨_, rfl⟩
    have HXL := Lib.hid (show xs.length ≤ 400 by rw [hxs]; exact bytesR_len HG.out)
    have HRP := Lib.hid (show okRd (xs ++ [3]) = true ∧ (rd0 (xs ++ [3])).2 = nx ∧ rdL (xs ++ [3]) (cntR (xs ++ [3])) = (⟨[3], 0⟩, lst) by rw [hxs]; exact rd_put HG.out [3])
    rw [← hxs] at hu3
    rw [List.nil_append, ← hxs] at KP
    have HU3 := Lib.hid hu3
    have HB3 := Lib.hid hb3
    obtain ⟨ua, uc, hue, _⟩ := hu3.shape
    subst hue
    have HXS := Lib.hid hxs
    clear hu3 hb3 hxs
    have hT3 := HU3.out.at
    -- append(append([]byte{}, b...), 3)
    go_upto_region 8 with fail
    refine wp_region_lit ?_
    have b4 := below_alloc (Below.refl _ w3) (.cells #[] 5)
    have ho4 : OwnTxt (w3.alloc (.cells #[] 5)) w3.heap.size (.slice (some ⟨w3.heap.size, 0, none⟩) 0 0) [] := OwnTxt.new (Nat.le_refl _)
    refine wpList_yield (w' := w3.alloc (.cells #[] 5)) (v := .slice (some ⟨w3.heap.size, 0, none⟩) 0 0) rfl (by first | (go_simp; done) | (go_simp; rfl)) ?_
    refine wpList_yield (w' := w3.alloc (.cells #[] 5)) (v := .slice ua xs.length uc) rfl (by first | (go_simp; done) | (go_simp; rfl)) ?_
    obtain ⟨v5, w5, g0, g1, g2, _⟩ := A8.run_app8 ho4 (hT3.below b4) (by have := HXL.out; simp; omega) b4.size 22
    rw [List.nil_append] at g1
    have hb5 := b4.trans g2
    obtain ⟨a5, c5, h5, _⟩ := g1.shape
    subst h5
    refine wpList_yield (w' := w5) (v := .slice a5 xs.length c5) rfl (Ap.exec_app rfl (by go_simp) (by go_simp) g0) ?_
    have b6 := below_alloc (Below.refl _ w5) (.cells #[.int .u8 3] 5)
    have n6 := World.alloc_heap_new w5 (.cells #[.int .u8 3] 5)
    refine wpList_yield (w' := w5.alloc (.cells #[.int .u8 3] 5)) (v := .slice (some ⟨w5.heap.size, 0, none⟩) 1 1) rfl (by first | (go_simp; done) | (go_simp; rfl)) ?_
    have ht6 : TxtAt (w5.alloc (.cells #[.int .u8 3] 5)) (.slice (some ⟨w5.heap.size, 0, none⟩) 1 1) [3] := .inl ⟨w5.heap.size, 0, 1, rfl, by decide, ⟨fun k hk => (by
        obtain rfl : k = 0 := by simpa using hk
        exact cell_of_block (o := 0) n6 rfl), fun k hk => (by
        obtain rfl : k = 0 := by simpa using hk
        decide), fun k hk => (by
        obtain rfl : k = 0 := by simpa using hk
        decide), by decide⟩⟩
    have hT8 : OwnTxt (w5.alloc (.cells #[.int .u8 3] 5)) w3.heap.size (.slice a5 xs.length c5) xs := g1.of_block fun g hg => b6.block g (ownBlock_lt g1 hg)
    obtain ⟨v7, w7, e0, e1, e2, _⟩ := A8.run_app8 hT8 ht6 (by have := HXL.out; simp; omega) (Nat.le_trans hb5.size b6.size) 22
    have hb7 := (hb5.trans (b6.mono hb5.size)).trans e2
    obtain ⟨a7, c7, h7, _⟩ := e1.shape
    subst h7
    refine wpList_yield (w' := w7) (v := .slice a7 (xs ++ [3]).length c7) rfl (Ap.exec_app rfl (by go_simp) (by go_simp) e0) ?_
    have HB7 := Lib.hid (below_next HB3.out hb7)
    have H37 := Lib.hid hb7
    have KRD := Lib.hid (resvread_any e1.at (by have := HXL.out; simp; omega) (HEE.out _ (below_next HBB.out HB7.out)))
    clear g0 g1 g2 hb5 b4 ho4 b6 n6 ht6 hT8 e0 e2 hb7 hT3
    generalize hxl : (xs ++ [3]).length = xl at *
    refine wpList_enter rfl (by go_simp) KRD.out ?_
    rintro e w8 (⟨h1, _, _⟩ | ⟨_, F8, rfl, hF8, hr8, hb8⟩)
    · rw [HRP.out.1] at h1; cases h1
    rw [HRP.out.2.2, HRP.out.2.1] at hr8
    rw [HRP.out.2.2]
    have HR8 := Lib.hid hr8
    have HB8 := Lib.hid (below_next HB7.out hb8)
    have H38 := Lib.hid (below_next H37.out hb8)
    clear hr8 hb8 KRD e1 hF8
    have hlen : ((xs ++ [3]).length : Int) - (([3] : List Int).length : Int) = (xs.length : Int) := by simp
    dsimp only
    rw [hlen]
    clear hlen hxl
    refine ⟨_, rfl, ?_⟩
    have KCL := Lib.hid (clone_rs (HR.out.below HB8.out))
    go_wp2_with fail
    refine KCL.out.mono ?_
    rintro e w9 ⟨F9, rfl, hF9, hr9, hb9⟩
    have HR9 := Lib.hid hr9
    have HB9 := Lib.hid (below_next HB8.out hb9)
    have HB89 := Lib.hid hb9
    have HF9 := Lib.hid hF9
    clear hr9 hb9 hF9 KCL
    have KPA := Lib.hid (past_rs HR9.out HF9.out 1099511627776)
    rw [pastL_never HG.out] at KPA
    go_wp2_with fail
    refine KPA.out.mono ?_
    rintro e w10 ⟨vz, rfl, _, hr10, hf10⟩
    have HR10 := Lib.hid hr10
    have hb10 := hf10.below HR9.out HF9.out
    have HB10 := Lib.hid (show Below wc.heap.size wc w10 from HB9.out.trans (hb10.mono HB8.out.size))
    have HT8 := Lib.hid (show Rs w10 w7.heap.size F8 lst nx from by
      have h1 := HR8.out.below HB89.out
      obtain ⟨x, x1, x2, x3⟩ := HR8.out.at_
      have hlt8 := HR8.out.lt
      refine ⟨⟨x, (hb10.block F8 hlt8).trans ((HB89.out.block F8 hlt8).trans x1), x2.keep fun k hk => ?_, x3⟩, HR8.out.pos, HR8.out.len⟩
      have := Ap.own_lt x2 k hk
      exact (hb10.block k this).trans (HB89.out.block k this))
    have HTX := Lib.hid (show TxtAt w10 (.slice ua xs.length uc) xs from HU3.out.at.below ((below_next H38.out HB89.out).trans (hb10.mono H38.out.size)))
    have HRX := Lib.hid (show Rs w10 F F lst nx from (HR.out.below HB10.out))
    clear hr10 hf10 hb10 HR9 HF9 HR8 HB8 HB9 HB89 H37 H38 HU3 HB7 HB3 KPA
    have KP8 := Lib.hid (fun X (hX : Below w10.heap.size w10 X) => (show Calls Tryd.prog 12 #[.pointer (some ⟨F8, 0, none⟩), .slice none 0 0] X fun e w' => ∃ u, e = .returned u ∧ OwnTxt w' X.heap.size u xs ∧ Below X.heap.size X w' from by
      have h := put_rs (HT8.out.below hX) HG.out.rvb (.inr ⟨rfl, none, 0, rfl, fun _ => rfl⟩ : TxtAt X (.slice none 0 0) []) (by simp)
      rw [List.nil_append, ← HXS.out] at h
      exact h))
    have KPT := Lib.hid (fun X (hX : Below w10.heap.size w10 X) => (show Calls Tryd.prog 12 #[.pointer (some ⟨F, 0, none⟩), .slice none 0 0] X fun e w' => ∃ u, e = .returned u ∧ OwnTxt w' X.heap.size u xs ∧ Below X.heap.size X w' from by
      have h := put_rs (HRX.out.below hX) HG.out.rvb (.inr ⟨rfl, none, 0, rfl, fun _ => rfl⟩ : TxtAt X (.slice none 0 0) []) (by simp)
      rw [List.nil_append, ← HXS.out] at h
      exact h))
    have KAL := Lib.hid (fun X (hX : Below w10.heap.size w10 X) => all_rs (HR10.out.below hX))
    have KN9 := Lib.hid (fun X (hX : Below w10.heap.size w10 X) => next_rs (HR10.out.below hX))
    have KNT := Lib.hid (fun X (hX : Below w10.heap.size w10 X) => next_rs (HRX.out.below hX))
    have HCV := Lib.hid (fun X (hX : Below w10.heap.size w10 X) => txt_conv HTX.out X hX)
    generalize hsx : strOfNums xs = sx at *
    clear KP
    generalize xs.length = xn at *
    go_upto_region 11 with fail
    refine Rl.wp_region_rel (fun a b => Below a.heap.size a b) w10 (fun a b c h h' => below_next h h') (fun a => Below.refl _ _) hmx (by kernel_rfl) (Below.refl _ _).drew ?_
    iterate 10 (refine Rl.textR_run ?_ (fun ρ => ?_) (fun ρ W hS hd => ?_) ?_; rotate_left; (focus go_simp); (focus (obtain ⟨hc, hf⟩ := bcell hS; go_simp; first | exact ⟨rfl, Below.refl _ _⟩ | (refine ⟨?_, Below.refl _ _⟩; rfl))); (try go_simp))
    refine Rl.textR_rel 70 (fun v w => TxtAt w v xs) rfl (fun v w w' hg h => h.below hg) (fun ρ => ?_) (fun ρ W hS hd => ?_) ?_
    · go_simp
    · go_simp
      refine (KP8.out W hS).mono ?_
      rintro e w1 ⟨u, rfl, ho, hb⟩
      exact ⟨u, rfl, ho.at, hb⟩
    (try go_simp)
    refine Rl.textR_run (.string sx) (fun ρ => ?_) (fun ρ W hS hd => ?_) ?_
    · go_simp
    · have hcv := txt_conv (hd (70, fun v w => TxtAt w v xs) List.mem_cons_self (show (70 : Nat) ∈ _ by decide)) W (Below.refl _ _)
      rw [hsx] at hcv
      simp only at hcv
      go_simp
      first | exact ⟨rfl, Below.refl _ _⟩ | exact Below.refl _ _
    (try go_simp)
    (refine Rl.textR_run ?_ (fun ρ => ?_) (fun ρ W hS hd => ?_) ?_; rotate_left; (focus go_simp); (focus (obtain ⟨hc, hf⟩ := bcell hS; go_simp; first | exact ⟨rfl, Below.refl _ _⟩ | (refine ⟨?_, Below.refl _ _⟩; rfl))); (try go_simp))
    (refine Rl.textR_run ?_ (fun ρ => ?_) (fun ρ W hS hd => ?_) ?_; rotate_left; (focus go_simp); (focus (have hfact := HCV.out W hS; go_simp; first | exact ⟨rfl, Below.refl _ _⟩ | (refine ⟨?_, Below.refl _ _⟩; rfl))); (try go_simp))
    iterate 4 (refine Rl.textR_run ?_ (fun ρ => ?_) (fun ρ W hS hd => ?_) ?_; rotate_left; (focus go_simp); (focus (obtain ⟨hc, hf⟩ := bcell hS; go_simp; first | exact ⟨rfl, Below.refl _ _⟩ | (refine ⟨?_, Below.refl _ _⟩; rfl))); (try go_simp))
    refine Rl.textR_rel 78 (fun v w => TxtAt w v xs) rfl (fun v w w' hg h => h.below hg) (fun ρ => ?_) (fun ρ W hS hd => ?_) ?_
    · go_simp
    · go_simp
      refine (KPT.out W hS).mono ?_
      rintro e w1 ⟨u, rfl, ho, hb⟩
      exact ⟨u, rfl, ho.at, hb⟩
    (try go_simp)
    refine Rl.textR_run (.string sx) (fun ρ => ?_) (fun ρ W hS hd => ?_) ?_
    · go_simp
    · have hcv := txt_conv (hd (78, fun v w => TxtAt w v xs) List.mem_cons_self (show (78 : Nat) ∈ _ by decide)) W (Below.refl _ _)
      rw [hsx] at hcv
      simp only at hcv
      go_simp
      first | exact ⟨rfl, Below.refl _ _⟩ | exact Below.refl _ _
    (try go_simp)
    (refine Rl.textR_run ?_ (fun ρ => ?_) (fun ρ W hS hd => ?_) ?_; rotate_left; (focus go_simp); (focus (obtain ⟨hc, hf⟩ := bcell hS; go_simp; first | exact ⟨rfl, Below.refl _ _⟩ | (refine ⟨?_, Below.refl _ _⟩; rfl))); (try go_simp))
    (refine Rl.textR_run ?_ (fun ρ => ?_) (fun ρ W hS hd => ?_) ?_; rotate_left; (focus go_simp); (focus (have hfact := HCV.out W hS; go_simp; first | exact ⟨rfl, Below.refl _ _⟩ | (refine ⟨?_, Below.refl _ _⟩; rfl))); (try go_simp))
    iterate 4 (refine Rl.textR_run ?_ (fun ρ => ?_) (fun ρ W hS hd => ?_) ?_; rotate_left; (focus go_simp); (focus (obtain ⟨hc, hf⟩ := bcell hS; go_simp; first | exact ⟨rfl, Below.refl _ _⟩ | (refine ⟨?_, Below.refl _ _⟩; rfl))); (try go_simp))
    refine Rl.textR_rel 86 (fun v w => ∃ a c, v = .slice a 0 c) rfl (fun v w w' hg h => h) (fun ρ => ?_) (fun ρ W hS hd => ?_) ?_
    · go_simp
    · go_simp
      refine (KAL.out W hS).mono ?_
      rintro e w1 ⟨u, rfl, ho, hb⟩
      obtain ⟨a, c, hc⟩ := ho.form
      exact ⟨u, rfl, ⟨a, c, hc⟩, hb⟩
    (try go_simp)
    refine Rl.textR_run (.int .i64 0) (fun ρ => ?_) (fun ρ W hS hd => ?_) ?_
    · go_simp
    · obtain ⟨a8, c8, h8⟩ := hd (86, fun v w => ∃ a c, v = .slice a 0 c) List.mem_cons_self (show (86 : Nat) ∈ _ by decide)
      simp only at h8
      go_simp
      first | exact ⟨rfl, Below.refl _ _⟩ | exact Below.refl _ _
    (try go_simp)
    iterate 4 (refine Rl.textR_run ?_ (fun ρ => ?_) (fun ρ W hS hd => ?_) ?_; rotate_left; (focus go_simp); (focus (obtain ⟨hc, hf⟩ := bcell hS; go_simp; first | exact ⟨rfl, Below.refl _ _⟩ | (refine ⟨?_, Below.refl _ _⟩; rfl))); (try go_simp))
    (refine Rl.textR_run ?_ (fun ρ => ?_) (fun ρ W hS hd => ?_) ?_; rotate_left; (focus go_simp); (focus (obtain ⟨hc, hf⟩ := bcell hS; go_simp; refine (KN9.out W hS).mono ?_; rintro e w1 ⟨rfl, rfl⟩; refine ⟨_, rfl, ?_, Below.refl _ _⟩; rfl)); (try go_simp))
    (refine Rl.textR_run ?_ (fun ρ => ?_) (fun ρ W hS hd => ?_) ?_; rotate_left; (focus go_simp); (focus (obtain ⟨hc, hf⟩ := bcell hS; go_simp; first | exact ⟨rfl, Below.refl _ _⟩ | (refine ⟨?_, Below.refl _ _⟩; rfl))); (try go_simp))
    (refine Rl.textR_run ?_ (fun ρ => ?_) (fun ρ W hS hd => ?_) ?_; rotate_left; (focus go_simp); (focus (obtain ⟨hc, hf⟩ := bcell hS; go_simp; refine (KNT.out W hS).mono ?_; rintro e w1 ⟨rfl, rfl⟩; refine ⟨_, rfl, ?_, Below.refl _ _⟩; rfl)); (try go_simp))
    iterate 2 (refine Rl.textR_run ?_ (fun ρ => ?_) (fun ρ W hS hd => ?_) ?_; rotate_left; (focus go_simp); (focus (obtain ⟨hc, hf⟩ := bcell hS; go_simp; first | exact ⟨rfl, Below.refl _ _⟩ | (refine ⟨?_, Below.refl _ _⟩; rfl))); (try go_simp))
    refine Rl.textR_nil ?_
    intro ρ wA hgA hkA
    dsimp only
    have HBA := Lib.hid (below_next (below_next HBB.out HB10.out) hgA)
    have HZA := Lib.hid ((hgA.block _ (Array.getElem?_eq_some_iff.1 ((HB10.out.block _ (Array.getElem?_eq_some_iff.1 ((HBW.out.block _ (Array.getElem?_eq_some_iff.1 HZ1.out).1).trans HZ1.out)).1).trans ((HBW.out.block _ (Array.getElem?_eq_some_iff.1 HZ1.out).1).trans HZ1.out))).1).trans ((HB10.out.block _ (Array.getElem?_eq_some_iff.1 ((HBW.out.block _ (Array.getElem?_eq_some_iff.1 HZ1.out).1).trans HZ1.out)).1).trans ((HBW.out.block _ (Array.getElem?_eq_some_iff.1 HZ1.out).1).trans HZ1.out)))
    clear hgA hkA
    generalize ρ 70 = r70
    generalize ρ 78 = r78
    generalize ρ 86 = r86
    go_simp
    clear KP8 KPT KAL KN9 KNT HCV HTX HRX HT8 HR10 HB10 HR HG HBW HZ1 HRP
    go_wp2_with fail
    go_loopw [13] (fun i wr => ∃ j : Nat, j ≤ 2 ∧ i = .int .i64 j ∧ Below w.heap.size w wr ∧ wr.heap[w.heap.size]? = some (.cells #[.int .i64 ak, .int .i64 an, .int .i64 af, .int .i64 at_] 40 (0, 0))) (fun i _ => 2 - (intOf i).toNat)
    case atStart => exact ⟨0, by decide, rfl, HBA.out, HZA.out⟩
    case round =>
      obtain ⟨j, hj, rfl, hbw, hz⟩ := hrel
      have HBW := Lib.hid hbw
      have HZW := Lib.hid hz
      clear hbw hz HBA HZA
      by_cases hlt : j < 2
      case pos =>
        rcases (by omega : j = 0 ∨ j = 1) with rfl | rfl
        · skip
          clear hj hlt
          have hw1 : IntKind.i64.wrap (((0 : Nat) : Int) + 1) = 1 := by decide
          have hbq := below_alloc (Below.refl _ wr) (.cells #[.slice none 0 0, .int .i64 0] 53)
          have HNO := Lib.hid (show NoRs (wr.alloc (.cells #[.slice none 0 0, .int .i64 0] 53)) (.pointer (some ⟨wr.heap.size, 0, none⟩)) from .inr ⟨_, rfl, World.alloc_heap_new wr _⟩)
          have HBQ := Lib.hid (below_next HBW.out hbq)
          have HZQ := Lib.hid ((hbq.block _ (Array.getElem?_eq_some_iff.1 HZW.out).1).trans HZW.out)
          clear hbq
          go_upto_region 19 with fail
          generalize wr.alloc (.cells #[.slice none 0 0, .int .i64 0] 53) = X0 at *
          have z1 : X0.cell? ⟨w.heap.size, 1, none⟩ = some (.int .i64 an) := cell_of_block (o := 1) HZQ.out rfl
          have z2 : X0.cell? ⟨w.heap.size, 2, none⟩ = some (.int .i64 af) := cell_of_block (o := 2) HZQ.out rfl
          have z3 : X0.cell? ⟨w.heap.size, 3, none⟩ = some (.int .i64 at_) := cell_of_block (o := 3) HZQ.out rfl
          go_wp2_with fail
          refine (add_rno HNO.out (.pointer (some ⟨S, 0, none⟩)) af at_ an).mono ?_
          rintro e X1 ⟨rfl, hb⟩
          have HNO1 := Lib.hid (HNO.out.below hb)
          have HBQ1 := Lib.hid (below_next HBQ.out hb)
          have HZQ1 := Lib.hid ((hb.block _ (Array.getElem?_eq_some_iff.1 HZQ.out).1).trans HZQ.out)
          clear hb z1 z2 z3 HNO HBQ HZQ
          have z1 : X1.cell? ⟨w.heap.size, 1, none⟩ = some (.int .i64 an) := cell_of_block (o := 1) HZQ1.out rfl
          have z2 : X1.cell? ⟨w.heap.size, 2, none⟩ = some (.int .i64 af) := cell_of_block (o := 2) HZQ1.out rfl
          have z3 : X1.cell? ⟨w.heap.size, 3, none⟩ = some (.int .i64 at_) := cell_of_block (o := 3) HZQ1.out rfl
          go_wp2_with fail
          refine (find_rno HNO1.out (.pointer (some ⟨S, 0, none⟩)) af at_ an).mono ?_
          rintro e X2 ⟨rfl, hb⟩
          have HNO2 := Lib.hid (HNO1.out.below hb)
          have HBQ2 := Lib.hid (below_next HBQ1.out hb)
          have HZQ2 := Lib.hid ((hb.block _ (Array.getElem?_eq_some_iff.1 HZQ1.out).1).trans HZQ1.out)
          clear hb z1 z2 z3 HNO1 HBQ1 HZQ1
          have HZX := Lib.hid (fun X (hX : Below X2.heap.size X2 X) => (hX.block _ (Array.getElem?_eq_some_iff.1 HZQ2.out).1).trans HZQ2.out)
          have HNX := Lib.hid (fun X (hX : Below X2.heap.size X2 X) => HNO2.out.below hX)
          clear HNO2
          have hz0 : IntKind.i64.wrap (0 + 0) = 0 := by decide
          have hz1 : IntKind.i64.wrap 0 = 0 := by decide
          go_upto_region 21 with fail
          refine Rl.wp_region_rel (fun a b => Below a.heap.size a b) X2 (fun a b c h h' => below_next h h') (fun a => Below.refl _ _) hmx (by kernel_rfl) (Below.refl _ _).drew ?_
          iterate 9 (refine Rl.textR_run ?_ (fun ρ => ?_) (fun ρ W hS hd => ?_) ?_; rotate_left; (focus go_simp); (focus (obtain ⟨hc, hf⟩ := bcell hS; go_simp; first | exact ⟨rfl, Below.refl _ _⟩ | (refine ⟨?_, Below.refl _ _⟩; rfl))); (try go_simp))
          (refine Rl.textR_run ?_ (fun ρ => ?_) (fun ρ W hS hd => ?_) ?_; rotate_left; (focus go_simp); (focus (have hfact0 := cell_of_block (o := 1) (HZX.out W hS) rfl; go_simp; first | exact ⟨rfl, Below.refl _ _⟩ | (refine ⟨?_, Below.refl _ _⟩; rfl))); (try go_simp))
          (refine Rl.textR_run ?_ (fun ρ => ?_) (fun ρ W hS hd => ?_) ?_; rotate_left; (focus go_simp); (focus (obtain ⟨hc, hf⟩ := bcell hS; go_simp; refine (drop_rno (HNX.out W hS) an).mono ?_; rintro e w1 ⟨rfl, hb⟩; refine ⟨_, rfl, ?_, hb⟩; rfl)); (try go_simp))
          iterate 4 (refine Rl.textR_run ?_ (fun ρ => ?_) (fun ρ W hS hd => ?_) ?_; rotate_left; (focus go_simp); (focus (obtain ⟨hc, hf⟩ := bcell hS; go_simp; first | exact ⟨rfl, Below.refl _ _⟩ | (refine ⟨?_, Below.refl _ _⟩; rfl))); (try go_simp))
          (refine Rl.textR_run ?_ (fun ρ => ?_) (fun ρ W hS hd => ?_) ?_; rotate_left; (focus go_simp); (focus (obtain ⟨hc, hf⟩ := bcell hS; go_simp; refine (all_rno (HNX.out W hS)).mono ?_; rintro e w1 ⟨rfl, hb⟩; refine ⟨_, rfl, ?_, hb⟩; rfl)); (try go_simp))
          iterate 4 (refine Rl.textR_run ?_ (fun ρ => ?_) (fun ρ W hS hd => ?_) ?_; rotate_left; (focus go_simp); (focus (obtain ⟨hc, hf⟩ := bcell hS; go_simp; first | exact ⟨rfl, Below.refl _ _⟩ | (refine ⟨?_, Below.refl _ _⟩; rfl))); (try go_simp))
          (refine Rl.textR_run ?_ (fun ρ => ?_) (fun ρ W hS hd => ?_) ?_; rotate_left; (focus go_simp); (focus (have hfact0 := cell_of_block (o := 2) (HZX.out W hS) rfl; go_simp; first | exact ⟨rfl, Below.refl _ _⟩ | (refine ⟨?_, Below.refl _ _⟩; rfl))); (try go_simp))
          (refine Rl.textR_run ?_ (fun ρ => ?_) (fun ρ W hS hd => ?_) ?_; rotate_left; (focus go_simp); (focus (obtain ⟨hc, hf⟩ := bcell hS; go_simp; refine (past_rno (HNX.out W hS) af).mono ?_; rintro e w1 ⟨rfl, hb⟩; refine ⟨_, rfl, ?_, hb⟩; rfl)); (try go_simp))
          (refine Rl.textR_run ?_ (fun ρ => ?_) (fun ρ W hS hd => ?_) ?_; rotate_left; (focus go_simp); (focus (obtain ⟨hc, hf⟩ := bcell hS; go_simp; first | exact ⟨rfl, Below.refl _ _⟩ | (refine ⟨?_, Below.refl _ _⟩; rfl))); (try go_simp))
          refine Rl.textR_run (.int .i64 0) (fun ρ => ?_) (fun ρ W hS hd => ?_) ?_
          · go_simp
          · go_simp
            first | exact ⟨rfl, Below.refl _ _⟩ | exact Below.refl _ _
          (try go_simp)
          (refine Rl.textR_run ?_ (fun ρ => ?_) (fun ρ W hS hd => ?_) ?_; rotate_left; (focus go_simp); (focus (obtain ⟨hc, hf⟩ := bcell hS; go_simp; first | exact ⟨rfl, Below.refl _ _⟩ | (refine ⟨?_, Below.refl _ _⟩; rfl))); (try go_simp))
          refine Rl.textR_rel 154 (fun v w => ∃ a c, v = .slice a 0 c) rfl (fun v w w' hg h => h) (fun ρ => ?_) (fun ρ W hS hd => ?_) ?_
          · go_simp
          · go_simp
            refine (put_rno (HNX.out W hS) (.inr ⟨rfl, none, 0, rfl, fun _ => rfl⟩ : TxtAt W (.slice none 0 0) []) (by simp)).mono ?_
            rintro e w1 ⟨u, rfl, ho, hb⟩
            exact ⟨u, rfl, own0 ho, hb⟩
          (try go_simp)
          refine Rl.textR_run (.int .i64 0) (fun ρ => ?_) (fun ρ W hS hd => ?_) ?_
          · go_simp
          · obtain ⟨a8, c8, h8⟩ := hd (154, fun v w => ∃ a c, v = .slice a 0 c) List.mem_cons_self (show (154 : Nat) ∈ _ by decide)
            simp only at h8
            go_simp
            first | exact ⟨rfl, Below.refl _ _⟩ | exact Below.refl _ _
          (try go_simp)
          refine Rl.textR_run (.int .i64 0) (fun ρ => ?_) (fun ρ W hS hd => ?_) ?_
          · go_simp
          · go_simp
            first | exact ⟨rfl, Below.refl _ _⟩ | exact Below.refl _ _
          (try go_simp)
          refine Rl.textR_run (.bool false) (fun ρ => ?_) (fun ρ W hS hd => ?_) ?_
          · go_simp
          · go_simp
            first | exact ⟨rfl, Below.refl _ _⟩ | exact Below.refl _ _
          (try go_simp)
          (refine Rl.textR_run ?_ (fun ρ => ?_) (fun ρ W hS hd => ?_) ?_; rotate_left; (focus go_simp); (focus (obtain ⟨hc, hf⟩ := bcell hS; go_simp; first | exact ⟨rfl, Below.refl _ _⟩ | (refine ⟨?_, Below.refl _ _⟩; rfl))); (try go_simp))
          (refine Rl.textR_run ?_ (fun ρ => ?_) (fun ρ W hS hd => ?_) ?_; rotate_left; (focus go_simp); (focus (obtain ⟨hc, hf⟩ := bcell hS; go_simp; first | exact ⟨rfl, Below.refl _ _⟩ | (refine ⟨?_, Below.refl _ _⟩; rfl))); (try go_simp))
          (refine Rl.textR_run ?_ (fun ρ => ?_) (fun ρ W hS hd => ?_) ?_; rotate_left; (focus go_simp); (focus (obtain ⟨hc, hf⟩ := bcell hS; go_simp; first | exact ⟨rfl, Below.refl _ _⟩ | (refine ⟨?_, Below.refl _ _⟩; rfl))); (try go_simp))
          (refine Rl.textR_run ?_ (fun ρ => ?_) (fun ρ W hS hd => ?_) ?_; rotate_left; (focus go_simp); (focus (obtain ⟨hc, hf⟩ := bcell hS; go_simp; refine (next_rno (HNX.out W hS)).mono ?_; rintro e w1 ⟨rfl, hb⟩; refine ⟨_, rfl, ?_, hb⟩; rfl)); (try go_simp))
          iterate 4 (refine Rl.textR_run ?_ (fun ρ => ?_) (fun ρ W hS hd => ?_) ?_; rotate_left; (focus go_simp); (focus (obtain ⟨hc, hf⟩ := bcell hS; go_simp; first | exact ⟨rfl, Below.refl _ _⟩ | (refine ⟨?_, Below.refl _ _⟩; rfl))); (try go_simp))
          (refine Rl.textR_run ?_ (fun ρ => ?_) (fun ρ W hS hd => ?_) ?_; rotate_left; (focus go_simp); (focus (obtain ⟨hc, hf⟩ := bcell hS; go_simp; refine (clone_rno (HNX.out W hS)).mono ?_; rintro e w1 ⟨rfl, hb⟩; refine ⟨_, rfl, ?_, hb⟩; rfl)); (try go_simp))
          iterate 2 (refine Rl.textR_run ?_ (fun ρ => ?_) (fun ρ W hS hd => ?_) ?_; rotate_left; (focus go_simp); (focus (obtain ⟨hc, hf⟩ := bcell hS; go_simp; first | exact ⟨rfl, Below.refl _ _⟩ | (refine ⟨?_, Below.refl _ _⟩; rfl))); (try go_simp))
          refine Rl.textR_nil ?_
          intro ρ wA hgA hkA
          dsimp only
          have HBA := Lib.hid (below_next HBQ2.out hgA)
          have HZA := Lib.hid (HZX.out _ hgA)
          clear hgA hkA
          generalize ρ 154 = r154
          go_simp
          go_wp2_with fail
          go_roundw
          case rel => exact ⟨1, by decide, by go_num, HBA.out, HZA.out⟩
          case measure => simp [intOf]
        · skip
          clear hj hlt
          have hw1 : IntKind.i64.wrap (((1 : Nat) : Int) + 1) = 2 := by decide
          have hbq := below_alloc (Below.refl _ wr) (.cells #[.slice none 0 0, .int .i64 0] 53)
          have HNO := Lib.hid (show NoRs (wr.alloc (.cells #[.slice none 0 0, .int .i64 0] 53)) (.pointer none) from .inl rfl)
          have HBQ := Lib.hid (below_next HBW.out hbq)
          have HZQ := Lib.hid ((hbq.block _ (Array.getElem?_eq_some_iff.1 HZW.out).1).trans HZW.out)
          clear hbq
          go_upto_region 19 with fail
          generalize wr.alloc (.cells #[.slice none 0 0, .int .i64 0] 53) = X0 at *
          have z1 : X0.cell? ⟨w.heap.size, 1, none⟩ = some (.int .i64 an) := cell_of_block (o := 1) HZQ.out rfl
          have z2 : X0.cell? ⟨w.heap.size, 2, none⟩ = some (.int .i64 af) := cell_of_block (o := 2) HZQ.out rfl
          have z3 : X0.cell? ⟨w.heap.size, 3, none⟩ = some (.int .i64 at_) := cell_of_block (o := 3) HZQ.out rfl
          go_wp2_with fail
          refine (add_rno HNO.out (.pointer (some ⟨S, 0, none⟩)) af at_ an).mono ?_
          rintro e X1 ⟨rfl, hb⟩
          have HNO1 := Lib.hid (HNO.out.below hb)
          have HBQ1 := Lib.hid (below_next HBQ.out hb)
          have HZQ1 := Lib.hid ((hb.block _ (Array.getElem?_eq_some_iff.1 HZQ.out).1).trans HZQ.out)
          clear hb z1 z2 z3 HNO HBQ HZQ
          have z1 : X1.cell? ⟨w.heap.size, 1, none⟩ = some (.int .i64 an) := cell_of_block (o := 1) HZQ1.out rfl
          have z2 : X1.cell? ⟨w.heap.size, 2, none⟩ = some (.int .i64 af) := cell_of_block (o := 2) HZQ1.out rfl
          have z3 : X1.cell? ⟨w.heap.size, 3, none⟩ = some (.int .i64 at_) := cell_of_block (o := 3) HZQ1.out rfl
          go_wp2_with fail
          refine (find_rno HNO1.out (.pointer (some ⟨S, 0, none⟩)) af at_ an).mono ?_
          rintro e X2 ⟨rfl, hb⟩
          have HNO2 := Lib.hid (HNO1.out.below hb)
          have HBQ2 := Lib.hid (below_next HBQ1.out hb)
          have HZQ2 := Lib.hid ((hb.block _ (Array.getElem?_eq_some_iff.1 HZQ1.out).1).trans HZQ1.out)
          clear hb z1 z2 z3 HNO1 HBQ1 HZQ1
          have HZX := Lib.hid (fun X (hX : Below X2.heap.size X2 X) => (hX.block _ (Array.getElem?_eq_some_iff.1 HZQ2.out).1).trans HZQ2.out)
          have HNX := Lib.hid (fun X (hX : Below X2.heap.size X2 X) => HNO2.out.below hX)
          clear HNO2
          have hz0 : IntKind.i64.wrap (0 + 0) = 0 := by decide
          have hz1 : IntKind.i64.wrap 0 = 0 := by decide
          go_upto_region 21 with fail
          refine Rl.wp_region_rel (fun a b => Below a.heap.size a b) X2 (fun a b c h h' => below_next h h') (fun a => Below.refl _ _) hmx (by kernel_rfl) (Below.refl _ _).drew ?_
          iterate 9 (refine Rl.textR_run ?_ (fun ρ => ?_) (fun ρ W hS hd => ?_) ?_; rotate_left; (focus go_simp); (focus (obtain ⟨hc, hf⟩ := bcell hS; go_simp; first | exact ⟨rfl, Below.refl _ _⟩ | (refine ⟨?_, Below.refl _ _⟩; rfl))); (try go_simp))
          (refine Rl.textR_run ?_ (fun ρ => ?_) (fun ρ W hS hd => ?_) ?_; rotate_left; (focus go_simp); (focus (have hfact0 := cell_of_block (o := 1) (HZX.out W hS) rfl; go_simp; first | exact ⟨rfl, Below.refl _ _⟩ | (refine ⟨?_, Below.refl _ _⟩; rfl))); (try go_simp))
          (refine Rl.textR_run ?_ (fun ρ => ?_) (fun ρ W hS hd => ?_) ?_; rotate_left; (focus go_simp); (focus (obtain ⟨hc, hf⟩ := bcell hS; go_simp; refine (drop_rno (HNX.out W hS) an).mono ?_; rintro e w1 ⟨rfl, hb⟩; refine ⟨_, rfl, ?_, hb⟩; rfl)); (try go_simp))
          iterate 4 (refine Rl.textR_run ?_ (fun ρ => ?_) (fun ρ W hS hd => ?_) ?_; rotate_left; (focus go_simp); (focus (obtain ⟨hc, hf⟩ := bcell hS; go_simp; first | exact ⟨rfl, Below.refl _ _⟩ | (refine ⟨?_, Below.refl _ _⟩; rfl))); (try go_simp))
          (refine Rl.textR_run ?_ (fun ρ => ?_) (fun ρ W hS hd => ?_) ?_; rotate_left; (focus go_simp); (focus (obtain ⟨hc, hf⟩ := bcell hS; go_simp; refine (all_rno (HNX.out W hS)).mono ?_; rintro e w1 ⟨rfl, hb⟩; refine ⟨_, rfl, ?_, hb⟩; rfl)); (try go_simp))
          iterate 4 (refine Rl.textR_run ?_ (fun ρ => ?_) (fun ρ W hS hd => ?_) ?_; rotate_left; (focus go_simp); (focus (obtain ⟨hc, hf⟩ := bcell hS; go_simp; first | exact ⟨rfl, Below.refl _ _⟩ | (refine ⟨?_, Below.refl _ _⟩; rfl))); (try go_simp))
          (refine Rl.textR_run ?_ (fun ρ => ?_) (fun ρ W hS hd => ?_) ?_; rotate_left; (focus go_simp); (focus (have hfact0 := cell_of_block (o := 2) (HZX.out W hS) rfl; go_simp; first | exact ⟨rfl, Below.refl _ _⟩ | (refine ⟨?_, Below.refl _ _⟩; rfl))); (try go_simp))
          (refine Rl.textR_run ?_ (fun ρ => ?_) (fun ρ W hS hd => ?_) ?_; rotate_left; (focus go_simp); (focus (obtain ⟨hc, hf⟩ := bcell hS; go_simp; refine (past_rno (HNX.out W hS) af).mono ?_; rintro e w1 ⟨rfl, hb⟩; refine ⟨_, rfl, ?_, hb⟩; rfl)); (try go_simp))
          (refine Rl.textR_run ?_ (fun ρ => ?_) (fun ρ W hS hd => ?_) ?_; rotate_left; (focus go_simp); (focus (obtain ⟨hc, hf⟩ := bcell hS; go_simp; first | exact ⟨rfl, Below.refl _ _⟩ | (refine ⟨?_, Below.refl _ _⟩; rfl))); (try go_simp))
          refine Rl.textR_run (.int .i64 0) (fun ρ => ?_) (fun ρ W hS hd => ?_) ?_
          · go_simp
          · go_simp
            first | exact ⟨rfl, Below.refl _ _⟩ | exact Below.refl _ _
          (try go_simp)
          (refine Rl.textR_run ?_ (fun ρ => ?_) (fun ρ W hS hd => ?_) ?_; rotate_left; (focus go_simp); (focus (obtain ⟨hc, hf⟩ := bcell hS; go_simp; first | exact ⟨rfl, Below.refl _ _⟩ | (refine ⟨?_, Below.refl _ _⟩; rfl))); (try go_simp))
          refine Rl.textR_rel 154 (fun v w => ∃ a c, v = .slice a 0 c) rfl (fun v w w' hg h => h) (fun ρ => ?_) (fun ρ W hS hd => ?_) ?_
          · go_simp
          · go_simp
            refine (put_rno (HNX.out W hS) (.inr ⟨rfl, none, 0, rfl, fun _ => rfl⟩ : TxtAt W (.slice none 0 0) []) (by simp)).mono ?_
            rintro e w1 ⟨u, rfl, ho, hb⟩
            exact ⟨u, rfl, own0 ho, hb⟩
          (try go_simp)
          refine Rl.textR_run (.int .i64 0) (fun ρ => ?_) (fun ρ W hS hd => ?_) ?_
          · go_simp
          · obtain ⟨a8, c8, h8⟩ := hd (154, fun v w => ∃ a c, v = .slice a 0 c) List.mem_cons_self (show (154 : Nat) ∈ _ by decide)
            simp only at h8
            go_simp
            first | exact ⟨rfl, Below.refl _ _⟩ | exact Below.refl _ _
          (try go_simp)
          refine Rl.textR_run (.int .i64 0) (fun ρ => ?_) (fun ρ W hS hd => ?_) ?_
          · go_simp
          · go_simp
            first | exact ⟨rfl, Below.refl _ _⟩ | exact Below.refl _ _
          (try go_simp)
          refine Rl.textR_run (.bool false) (fun ρ => ?_) (fun ρ W hS hd => ?_) ?_
          · go_simp
          · go_simp
            first | exact ⟨rfl, Below.refl _ _⟩ | exact Below.refl _ _
          (try go_simp)
          (refine Rl.textR_run ?_ (fun ρ => ?_) (fun ρ W hS hd => ?_) ?_; rotate_left; (focus go_simp); (focus (obtain ⟨hc, hf⟩ := bcell hS; go_simp; first | exact ⟨rfl, Below.refl _ _⟩ | (refine ⟨?_, Below.refl _ _⟩; rfl))); (try go_simp))
          (refine Rl.textR_run ?_ (fun ρ => ?_) (fun ρ W hS hd => ?_) ?_; rotate_left; (focus go_simp); (focus (obtain ⟨hc, hf⟩ := bcell hS; go_simp; first | exact ⟨rfl, Below.refl _ _⟩ | (refine ⟨?_, Below.refl _ _⟩; rfl))); (try go_simp))
          (refine Rl.textR_run ?_ (fun ρ => ?_) (fun ρ W hS hd => ?_) ?_; rotate_left; (focus go_simp); (focus (obtain ⟨hc, hf⟩ := bcell hS; go_simp; first | exact ⟨rfl, Below.refl _ _⟩ | (refine ⟨?_, Below.refl _ _⟩; rfl))); (try go_simp))
          (refine Rl.textR_run ?_ (fun ρ => ?_) (fun ρ W hS hd => ?_) ?_; rotate_left; (focus go_simp); (focus (obtain ⟨hc, hf⟩ := bcell hS; go_simp; refine (next_rno (HNX.out W hS)).mono ?_; rintro e w1 ⟨rfl, hb⟩; refine ⟨_, rfl, ?_, hb⟩; rfl)); (try go_simp))
          iterate 4 (refine Rl.textR_run ?_ (fun ρ => ?_) (fun ρ W hS hd => ?_) ?_; rotate_left; (focus go_simp); (focus (obtain ⟨hc, hf⟩ := bcell hS; go_simp; first | exact ⟨rfl, Below.refl _ _⟩ | (refine ⟨?_, Below.refl _ _⟩; rfl))); (try go_simp))
          (refine Rl.textR_run ?_ (fun ρ => ?_) (fun ρ W hS hd => ?_) ?_; rotate_left; (focus go_simp); (focus (obtain ⟨hc, hf⟩ := bcell hS; go_simp; refine (clone_rno (HNX.out W hS)).mono ?_; rintro e w1 ⟨rfl, hb⟩; refine ⟨_, rfl, ?_, hb⟩; rfl)); (try go_simp))
          iterate 2 (refine Rl.textR_run ?_ (fun ρ => ?_) (fun ρ W hS hd => ?_) ?_; rotate_left; (focus go_simp); (focus (obtain ⟨hc, hf⟩ := bcell hS; go_simp; first | exact ⟨rfl, Below.refl _ _⟩ | (refine ⟨?_, Below.refl _ _⟩; rfl))); (try go_simp))
          refine Rl.textR_nil ?_
          intro ρ wA hgA hkA
          dsimp only
          have HBA := Lib.hid (below_next HBQ2.out hgA)
          have HZA := Lib.hid (HZX.out _ hgA)
          clear hgA hkA
          generalize ρ 154 = r154
          go_simp
          go_wp2_with fail
          go_roundw
          case rel => exact ⟨2, by decide, by go_num, HBA.out, HZA.out⟩
          case measure => simp [intOf]
      case neg =>
      obtain rfl : j = 2 := by omega
      clear hj hlt
      have KL := Lib.hid (lower_no wr)
      go_wp2_with fail
      refine KL.out.mono ?_
      rintro e X1 ⟨rfl, hb⟩
      have HB1' := Lib.hid (below_next HBW.out hb)
      have K1 := Lib.hid (rone X1)
      clear hb KL
      go_wp2_with fail
      refine K1.out.mono ?_
      rintro e X2 ⟨rfl, hb⟩
      have HB2' := Lib.hid (below_next HB1'.out hb)
      clear hb K1
      go_wp2_with fail
      go_ret
      exact ⟨rfl, HB2'.out⟩
end Go.Proofs.YtddoknkmmchkmaaDoor
