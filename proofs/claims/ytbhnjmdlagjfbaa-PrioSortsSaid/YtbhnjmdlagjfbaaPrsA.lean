/- The document's Less and Sort of items (layer 13). Condition: at most a million items. -/
import Derived.Test.YtbhnjmdlagjfbaaPrioKeeps
namespace Go.Proofs.Ytbhnjmdlagjfbaa
set_option linter.unusedVariables false
open Go.ChangeShapes Go.WideShapes Go.ChangeAt Go.RowKit Go.Sort Go.Shelf
attribute [local go_sem ↓] Go.wp_at_zero Go.wp_at_succ comesTo_value_eq comesTo_skip_eq comesTo_enter_eq Rl.comesToR_value_eq Rl.comesToR_skip_eq Rl.comesToR_enter_eq

theorem rless_any (x1 x2 y1 y2 : Int) (r : Bool) (h : lessB (x1, x2) (y1, y2) = r) (w : World) : Calls Try.prog 109 #[.agg #[.int .i64 x1, .int .i64 x2], .agg #[.int .i64 y1, .int .i64 y2]] w fun e w' => e = .returned (.bool r) ∧ Below w.heap.size w w' := by
  unfold lessB at h
  simp only at h
  rcases (by omega : y2 < x2 ∨ x2 = y2 ∨ x2 < y2) with h1 | h1 | h1
  · rw [if_neg (by omega), decide_eq_true h1] at h
    subst h
    have d1 : decide (x2 > y2) = true := decide_eq_true h1
    have d2 : decide (y2 < x2) = true := decide_eq_true h1
    go_enter Try.func109, Try.ntmps109
    go_wp2
    go_ret
    exact ⟨rfl, by exact (by repeat (first | exact Below.refl _ _ | assumption | refine below_drewN ?_ _ | refine Below.drew ?_ | refine below_alloc ?_ _ | refine Below.alloc ?_ (by first | omega | (simp; done) | (simp; omega)) _ | refine Below.setCell ?_ (Below.size (by assumption)) _ | refine Below.setCell ?_ (by first | omega | (simp; done) | (simp; omega)) _ | (refine Below.trans ?_ (Below.mono (by assumption) (by first | omega | (simp; done) | (simp; omega)))) | refine below_next ?_ (by assumption)))⟩
  · subst h1
    rw [if_pos rfl] at h
    have d1 : decide (x2 > x2) = false := decide_eq_false (by omega)
    have d2 : decide (x2 < x2) = false := decide_eq_false (by omega)
    subst h
    go_enter Try.func109, Try.ntmps109
    go_wp2
    go_ret
    exact ⟨rfl, by exact (by repeat (first | exact Below.refl _ _ | assumption | refine below_drewN ?_ _ | refine Below.drew ?_ | refine below_alloc ?_ _ | refine Below.alloc ?_ (by first | omega | (simp; done) | (simp; omega)) _ | refine Below.setCell ?_ (Below.size (by assumption)) _ | refine Below.setCell ?_ (by first | omega | (simp; done) | (simp; omega)) _ | (refine Below.trans ?_ (Below.mono (by assumption) (by first | omega | (simp; done) | (simp; omega)))) | refine below_next ?_ (by assumption)))⟩
  · rw [if_neg (by omega), decide_eq_false (by omega)] at h
    subst h
    have d1 : decide (x2 > y2) = false := decide_eq_false (by omega)
    have d2 : decide (y2 < x2) = false := decide_eq_false (by omega)
    have d3 : (x2 == y2) = false := by simp; omega
    go_enter Try.func109, Try.ntmps109
    go_wp2
    go_ret
    exact ⟨rfl, by exact (by repeat (first | exact Below.refl _ _ | assumption | refine below_drewN ?_ _ | refine Below.drew ?_ | refine below_alloc ?_ _ | refine Below.alloc ?_ (by first | omega | (simp; done) | (simp; omega)) _ | refine Below.setCell ?_ (Below.size (by assumption)) _ | refine Below.setCell ?_ (by first | omega | (simp; done) | (simp; omega)) _ | (refine Below.trans ?_ (Below.mono (by assumption) (by first | omega | (simp; done) | (simp; omega)))) | refine below_next ?_ (by assumption)))⟩
theorem comesToR_load2r {o : Oper} {a : Act} {W : World} {S : Rl.Rel} (x : Operand) (ho : o.op = .load 98 x) {b off : Nat} (hx : a.eval x = .pointer (some ⟨b, off, none⟩)) {r1 r2 : Int}
    (x0 : W.cell? ⟨b, off, none⟩ = some (.int .i64 r1)) (x1 : W.cell? ⟨b, off + 1, none⟩ = some (.int .i64 r2))
    (h : S (.agg #[.int .i64 r1, .int .i64 r2]) W) : Rl.comesToR Try.prog S ((execOp a.eval o).run Try.prog W) := by
  refine Rl.comesToR_ok (v := .agg #[.int .i64 r1, .int .i64 r2]) ?_ h
  unfold execOp
  simp only [ho, hx]
  go_simp
theorem info_ritem : (Try.prog.info? 98).map (fun i => (i.zero, i.size, i.bytes)) = some (some (.agg #[.int .i64 0, .int .i64 0]), 2, 16) := by kernel_rfl
theorem eltQ : Ap.Elt Try.prog 95 98 2 16 :=
  ⟨Try.underlying95, (by obtain ⟨i0, hi, hz0, hz1, hz2⟩ := info_parts info_ritem; exact ⟨i0, _, hi, hz0, hz1, hz2, rfl⟩), by decide⟩
/-- a row of the document's items of the call's own -/
def OwnQ (w : World) (B : Nat) (v : Value) (l : List (Int × Int)) : Prop := w.ownsRow B 98 2 v l.length (flatS l)
theorem OwnQ.rowP {w : World} {B : Nat} {v : Value} {l : List (Int × Int)} (h : OwnQ w B v l) : RowP w v l := by
  rcases h.2 with ⟨rfl, h0⟩ | ⟨g, cap, cur, hv, hB, hg, hc, _, _, ht⟩
  · have : l = [] := by
      cases l with
      | nil => rfl
      | cons p r => simp [flatS] at h0
    subst this
    exact ⟨none, 0, rfl, Nat.le_refl _, fun h => by simp at h⟩
  · refine ⟨_, cap, hv, hc, fun h0 => ⟨g, 0, rfl, fun k hk => ?_⟩⟩
    subst hv
    have hx := World.ownsRow.cells h (g := g) rfl
    have a0 := hx (k * 2) _ (flatS_get0 l k hk)
    have a1 := hx (k * 2 + 1) _ (flatS_get1 l k hk)
    rw [addp] at a0 a1
    exact ⟨a0, a1⟩
theorem OwnQ.below {w w' : World} {B : Nat} {v : Value} {l : List (Int × Int)} (h : OwnQ w B v l) (hb : Below w.heap.size w w') : OwnQ w' B v l := Ap.own_below h hb
theorem OwnQ.form {w : World} {B : Nat} {v : Value} {l : List (Int × Int)} (h : OwnQ w B v l) : (v = .slice none 0 0 ∧ l = []) ∨ ∃ g c, v = .slice (some ⟨g, 0, none⟩) l.length c ∧ l.length ≤ c := by
  rcases h.2 with ⟨rfl, h0⟩ | ⟨g, cap, cur, hv, hB, hg, hc, _⟩
  · refine .inl ⟨rfl, ?_⟩
    cases l with
    | nil => rfl
    | cons p r => simp [flatS] at h0
  · exact .inr ⟨g, cap, hv, hc⟩
theorem RowP.drop {w : World} {b off n c : Nat} {l : List (Int × Int)} (h : RowP w (.slice (some ⟨b, off, none⟩) n c) l) (k : Nat) (hk : k ≤ l.length) :
    RowP w (.slice (if c = k then some ⟨b, off, none⟩ else some ⟨b, off + k * 2, none⟩) (l.length - k) (c - k)) (l.drop k) := by
  obtain ⟨a', c', h1, h2, h3⟩ := h
  injection h1 with e1 e2 e3
  subst e1 e3
  refine ⟨_, c - k, by rw [List.length_drop], by rw [List.length_drop]; omega, fun h0 => ?_⟩
  rw [List.length_drop] at h0
  obtain ⟨b', off', e, hc⟩ := h3 (by omega)
  cases e
  refine ⟨b, off + k * 2, by rw [if_neg (by omega)], fun j hj => ?_⟩
  rw [List.length_drop] at hj
  have : (l.drop k).getD j (0, 0) = l.getD (k + j) (0, 0) := by simp [List.getD, List.getElem?_drop]
  rw [this]
  have := hc (k + j) (by omega)
  rw [show off + (k + j) * 2 = off + k * 2 + j * 2 by omega] at this
  exact this
theorem ownsRow_base_le {W : World} {B B' : Nat} {e : TypeId} {size k : Nat} {v : Value} {xs : List Value} (h : W.ownsRow B e size v k xs) (hb : B' ≤ B) : W.ownsRow B' e size v k xs := by
  refine ⟨h.1, ?_⟩
  rcases h.2 with h0 | ⟨g, cap, cur, hv, hB, rest⟩
  · exact .inl h0
  · exact .inr ⟨g, cap, cur, hv, Nat.le_trans hb hB, rest⟩
/-- where an item goes in -/
theorem isort_in {u : List (Int × Int)} {x : Int × Int} {k : Nat} (hk : k ≤ u.length) (h1 : ∀ j, k ≤ j → j < u.length → lessB x (u.getD j (0, 0)) = true) (h2 : 0 < k → lessB x (u.getD (k - 1) (0, 0)) = false) (hs : Ss.Srt lessB u) :
    Ss.mrg lessB u [x] = u.take k ++ x :: u.drop k := by
  have e := Ss.mrg_split lessB (u.take k) [] (u.drop k) [x] (fun _ _ _ hz => by cases hz) (fun z hz y hy => by
    rw [List.mem_singleton.1 hy]
    obtain ⟨j, hj, e⟩ := List.getElem_of_mem hz
    have hj' : j < k := by simpa using (Nat.lt_of_lt_of_le hj (by simp; omega))
    have e2 : u[j]'(by omega) = z := by rw [← e]; simp
    have h3 := h2 (by omega)
    by_cases hjk : j = k - 1
    · rw [← e2]; subst hjk; simpa [List.getD, show k - 1 < u.length by omega] using h3
    · have h4 := List.pairwise_iff_getElem.1 hs j (k - 1) (by omega) (by omega) (by omega)
      rw [← e2]
      refine swoP.ntrans _ _ _ (by simpa [List.getD, show k - 1 < u.length by omega] using h3) h4)
  rw [List.take_append_drop, List.nil_append, Ss.mrg_nil] at e
  rw [e]
  congr 1
  cases hd : u.drop k with
  | nil => rw [Ss.nil_mrg]
  | cons y r =>
    have hlt : k < u.length := by
      rcases Nat.lt_or_ge k u.length with h | h
      · exact h
      · rw [List.drop_of_length_le h] at hd; cases hd
    have hy : u.getD k (0, 0) = y := by
      have : (u.drop k)[0]? = some y := by rw [hd]; rfl
      rw [List.getElem?_drop, Nat.add_zero] at this
      simp [List.getD, this]
    have := h1 k (Nat.le_refl _) hlt
    rw [hy] at this
    rw [Ss.mrg_take _ _ _ this, Ss.mrg_nil]
theorem isort_snoc (u : List (Int × Int)) (x : Int × Int) : Ss.isort lessB (u ++ [x]) = Ss.mrg lessB (Ss.isort lessB u) [x] := Ss.isort_append swoP u [x]
set_option maxRecDepth 100000 in
set_option maxHeartbeats 16000000 in
theorem rsort_any {w : World} {v : Value} {l : List (Int × Int)} (hr : RowP w v l) (hl : l.length ≤ 1000000) :
    Calls Try.prog 48 #[v] w fun e w' => ∃ v', e = .returned v' ∧ OwnQ w' w.heap.size v' (Ss.isort lessB l) ∧ Below w.heap.size w w' := by
  have hmx : Try.prog.follows .mixedOrders = true := by kernel_rfl
  obtain ⟨n, hn⟩ : ∃ n, n = l.length := ⟨_, rfl⟩
  obtain ⟨a, c, rfl⟩ : ∃ a c, v = .slice a n c := by obtain ⟨a, c, h, _⟩ := hr; rw [hn]; exact ⟨a, c, h⟩
  have HR := Lib.hid hr
  have HN := Lib.hid hn
  have HL := Lib.hid (show n ≤ 1000000 by omega)
  clear hr hl hn
  go_enter Try.func48, Try.ntmps48
  go_wp2_with fail
  go_loopw [3, 4] (fun so si wr => ∃ i : Nat, i ≤ n ∧ si = .int .i64 i ∧ OwnQ wr w.heap.size so (Ss.isort lessB (l.take i)) ∧ Below w.heap.size w wr) (fun _ si _ => n - (intOf si).toNat)
  case atStart => exact ⟨0, Nat.zero_le _, rfl, by simp only [List.take_zero, Ss.isort]; exact ⟨rfl, .inl ⟨rfl, rfl⟩⟩, Below.refl _ _⟩
  case round =>
    obtain ⟨i, hin, rfl, hown, hbr⟩ := hrel
    obtain ⟨wo, hwo⟩ : ∃ x, x = wr := ⟨_, rfl⟩
    subst hwo
    have HBR := Lib.hid hbr
    have HO := Lib.hid hown
    clear hbr hown
    by_cases hlt : i < n
    case neg =>
      obtain rfl : i = n := by omega
      have hge : ¬ (i : Int) < (i : Int) := by omega
      have HO2 := HO.out
      rw [List.take_of_length_le (by have := HN.out; omega)] at HO2
      have HO3 := Lib.hid HO2
      clear hlt HO2 HO
      go_wp2_with fail
      go_ret
      exact ⟨_, rfl, HO3.out, HBR.out⟩
    case pos =>
    obtain ⟨bl, ol, rfl, hll, hLc⟩ := HR.out.at (i := i) (by have := HN.out; omega)
    have XL := Lib.hid (fun (Y : World) (hY : Below w.heap.size w Y) => (hLc i (by have := HN.out; omega)).below hY)
    obtain ⟨u, hu⟩ : ∃ u, u = Ss.isort lessB (l.take i) := ⟨_, rfl⟩
    have hul : u.length = i := by rw [hu, Ss.isort_length]; simp; have := HN.out; omega
    have HUS := Lib.hid (show Ss.Srt lessB u from by rw [hu]; exact Ss.isort_srt swoP _)
    have HNX := Lib.hid (show Ss.isort lessB (l.take (i + 1)) = Ss.mrg lessB u [l.getD i (0, 0)] from by
      have : l.take (i + 1) = l.take i ++ [l.getD i (0, 0)] := by
        rw [List.take_add_one, List.getElem?_eq_getElem (by have := HN.out; omega)]
        simp [List.getD, List.getElem?_eq_getElem (show i < l.length by have := HN.out; omega)]
      rw [this, isort_snoc, ← hu])
    rw [← hu] at HO
    clear hu hLc hll
    generalize l.getD i (0, 0) = p at *
    obtain ⟨p1, p2⟩ := p
    dsimp only at XL
    have hltI : (i : Int) < (n : Int) := by omega
    have hw1 : IntKind.i64.wrap ((i : Int) + 1) = (i : Int) + 1 := by have := HL.out; rw [IntKind.wrap_i64]; omega
    have HLT := Lib.hid hlt
    have HUL := Lib.hid hul
    clear hlt hin
    rcases HO.out.form with ⟨rfl, hu0⟩ | ⟨g, co, rfl, hco⟩
    case inl =>
      have hi0 := Lib.hid (show i = 0 by rw [← HUL.out, hu0]; rfl)
      go_wp2_with fail
      go_loopw [5] (fun s wx => s = .int .i64 0 ∧ wx = wo) (fun _ _ => 0)
      case atStart => exact ⟨rfl, rfl⟩
      case round =>
        obtain ⟨rfl, rfl⟩ := hrel
        go_upto_region 6 with fail
        refine Rl.wp_region_rel (fun a b => Below a.heap.size a b) wr (fun a b c h h' => below_next h h') (fun a => Below.refl _ _) hmx (by kernel_rfl) (Below.refl _ _).drew ?_
        iterate 3 (refine Rl.textR_run ?_ (fun ρ => ?_) (fun ρ W hS hd => ?_) ?_; rotate_left; (focus go_simp); (focus (obtain ⟨hc, hf⟩ := bcell hS; go_simp; first | exact ⟨rfl, Below.refl _ _⟩ | (refine ⟨?_, Below.refl _ _⟩; rfl))); (try go_simp))
        iterate 10 (refine Rl.textR_skip (fun ρ => ?_) ?_; (focus (first | rfl | (go_simp; done) | (go_simp; rfl))); (try go_simp))
        (refine Rl.textR_run ?_ (fun ρ => ?_) (fun ρ W hS hd => ?_) ?_; rotate_left; (focus go_simp); (focus (obtain ⟨hc, hf⟩ := bcell hS; go_simp; first | exact ⟨rfl, Below.refl _ _⟩ | (refine ⟨?_, Below.refl _ _⟩; rfl))); (try go_simp))
        refine Rl.textR_nil ?_
        intro ρ wz hg hk
        dsimp only
        have HBY := Lib.hid (below_next HBR.out hg)
        have HOG := Lib.hid hg
        clear hg hk
        go_simp
        go_upto_region 8 with fail
        have hS0 := XL.out wz HBY.out
        refine Ap.wp_region_K (S1 := fun X => X.cell? ⟨bl, ol + i * 2, none⟩ = some (.int .i64 p1) ∧ X.cell? ⟨bl, ol + i * 2 + 1, none⟩ = some (.int .i64 p2)) (S2 := fun _ => True) (js := 15) hmx ?_
        change Ap.wpAnyK _ _ _ _ _ _ _ 16 _ _ wz.drew
        have hS : wz.drew.cell? ⟨bl, ol + i * 2, none⟩ = some (.int .i64 p1) ∧ wz.drew.cell? ⟨bl, ol + i * 2 + 1, none⟩ = some (.int .i64 p2) := ⟨hS0.c0, hS0.c1⟩
        clear hS0
        refine Ap.wpAnyK_take1 (i := 1) (v := .slice none 0 0) rfl (by decide) (by decide +kernel) (by decide +kernel) (by decide +kernel) (fun _ _ _ h => h) (.inl ⟨by first | rfl | (go_simp; done), fun X hX => by clear hX; first | (go_simp; done) | (go_simp; rfl)⟩) ⟨hS, trivial⟩ ?_
        refine Ap.wpAnyK_take1 (i := 2) (v := .int .i64 0) rfl (by decide) (by decide +kernel) (by decide +kernel) (by decide +kernel) (fun _ _ _ h => h) (.inl ⟨by first | rfl | (go_simp; done), fun X hX => by clear hX; first | (go_simp; done) | (go_simp; rfl)⟩) ⟨hS, trivial⟩ ?_
        refine Ap.wpAnyK_take1 (i := 3) (v := .slice none 0 0) rfl (by decide) (by decide +kernel) (by decide +kernel) (by decide +kernel) (fun _ _ _ h => h) (.inl ⟨by first | rfl | (go_simp; done), fun X hX => by clear hX; first | (go_simp; done) | (go_simp; rfl)⟩) ⟨hS, trivial⟩ ?_
        refine Ap.wpAnyK_take1 (i := 5) (v := .slice (some ⟨bl, ol, none⟩) n c) rfl (by decide) (by decide +kernel) (by decide +kernel) (by decide +kernel) (fun _ _ _ h => h) (.inl ⟨by first | rfl | (go_simp; done), fun X hX => by clear hX; first | (go_simp; done) | (go_simp; rfl)⟩) ⟨hS, trivial⟩ ?_
        refine Ap.wpAnyK_take1 (i := 6) (v := .int .i64 i) rfl (by decide) (by decide +kernel) (by decide +kernel) (by decide +kernel) (fun _ _ _ h => h) (.inl ⟨by first | rfl | (go_simp; done), fun X hX => by clear hX; first | (go_simp; done) | (go_simp; rfl)⟩) ⟨hS, trivial⟩ ?_
        refine Ap.wpAnyK_take1 (i := 7) (v := .pointer (some ⟨bl, ol + i * 2, none⟩)) rfl (by decide) (by decide +kernel) (by decide +kernel) (by decide +kernel) (fun _ _ _ h => h) (.inl ⟨by first | rfl | (go_simp; done), fun X hX => by clear hX; first | (go_simp; done) | (go_simp; rfl)⟩) ⟨hS, trivial⟩ ?_
        refine Ap.wpAnyK_take1 (i := 8) (v := .agg #[.int .i64 p1, .int .i64 p2]) rfl (by decide) (by decide +kernel) (by decide +kernel) (by decide +kernel) (fun _ _ _ h => h) (.inl ⟨by first | rfl | (go_simp; done), fun X hX => by obtain ⟨hx0, hx1⟩ := hX; first | (go_simp; done) | (go_simp; rfl)⟩) ⟨hS, trivial⟩ ?_
        refine Ap.wpAnyK_take1 (i := 11) (v := .slice none 0 0) rfl (by decide) (by decide +kernel) (by decide +kernel) (by decide +kernel) (fun _ _ _ h => h) (.inl ⟨by first | rfl | (go_simp; done), fun X hX => by clear hX; first | (go_simp; done) | (go_simp; rfl)⟩) ⟨hS, trivial⟩ ?_
        refine Ap.wpAnyK_take1 (i := 12) (v := .int .i64 0) rfl (by decide) (by decide +kernel) (by decide +kernel) (by decide +kernel) (fun _ _ _ h => h) (.inl ⟨by first | rfl | (go_simp; done), fun X hX => by clear hX; first | (go_simp; done) | (go_simp; rfl)⟩) ⟨hS, trivial⟩ ?_
        refine Ap.wpAnyK_take1 (i := 13) (v := .slice none 0 0) rfl (by decide) (by decide +kernel) (by decide +kernel) (by decide +kernel) (fun _ _ _ h => h) (.inl ⟨by first | rfl | (go_simp; done), fun X hX => by clear hX; first | (go_simp; done) | (go_simp; rfl)⟩) ⟨hS, trivial⟩ ?_
        have rd1 : Ap.RdG wz 2 (.slice none 0 0) 0 (flatS []) := ⟨⟨none, 0, rfl, (fun _ => rfl), (fun a ha => by cases ha), (fun a ha => by cases ha)⟩, rfl, fun u hu => by cases hu⟩
        have rd2 := rd1
        have hb300 := HL.out
        have hmn : 0 ≤ 1000000 ∧ 0 ≤ 1000000 := by constructor <;> (try have := HLT.out) <;> (try have := HUL.out) <;> (try have := HUL2.out) <;> (try have := HKM.out) <;> omega
        refine Ap.anyK_app2 (j0 := 0) (j1 := 4) (j2 := 9) (j3 := 10) (fuel := 2) (cs := #[.int .i64 p1, .int .i64 p2]) eltQ wz.heap.size (.inl (by decide +kernel)) (.inl (by decide +kernel)) (by decide +kernel) (by decide +kernel) (by decide +kernel) (by decide +kernel) (by decide) rfl rfl rfl rfl ⟨rfl, rfl, rfl, rfl⟩ (by decide) ⟨rfl, rfl, rfl, rfl⟩ rfl rfl
          (by simp [Act.put]) (fun a' X => by first | (go_simp; done) | (go_simp; rfl)) (.slice none 0 0) 0 (flatS ([])) (fun u0 u2 => ⟨by simp [Act.put, Act.eval], by simp [Act.put, Act.eval]⟩) (rd1.mono (Below.refl _ _).drew)
          (fun u0 u1 X => ⟨by first | (go_simp; done) | (go_simp; rfl), by first | (go_simp; done) | (go_simp; rfl), by first | (go_simp; done) | (go_simp; rfl)⟩) rfl (by intro u hu; simp at hu; rcases hu with rfl | rfl <;> rfl) (by unfold maxLen; omega) (by omega) (Nat.le_refl _)
          (fun X hb => ⟨(by have hh := (XL.out wz HBY.out).below (Below.trans (Below.drew (Below.refl _ _)) hb); exact ⟨hh.c0, hh.c1⟩), trivial⟩) ?_
        intro u0 u1 u2 v0 X ho hb
        obtain ⟨v1, X1, hrun, hown2, _, hbel⟩ := Ap.run_app eltQ 95 wz.heap.size v0 (0 + 1) _ ho _ 0 _ ((rd2.mono (Below.refl _ _).drew).mono hb) (by unfold maxLen; omega) (by omega) (hb.size)
        have hB := Lib.hid (show Below wz.heap.size wz X1 from Below.trans (Below.drew (Below.refl _ _)) (Below.trans hb hbel))
        have hS1 : X1.cell? ⟨bl, ol + i * 2, none⟩ = some (.int .i64 p1) ∧ X1.cell? ⟨bl, ol + i * 2 + 1, none⟩ = some (.int .i64 p2) := ⟨((XL.out wz HBY.out).below hB.out).c0, ((XL.out wz HBY.out).below hB.out).c1⟩
        refine Ap.anyK_val1 (i := 14) (v := v1) (w' := X1) (by decide +kernel) rfl rfl (Ap.exec_app rfl (by simp [Act.put, Act.eval]) (by simp [Act.put, Act.eval]) hrun) ⟨hS1, trivial⟩ ?_
        have hO := Lib.hid (show OwnQ X1 w.heap.size v1 (Ss.isort lessB (l.take (i + 1))) from by
          rw [HNX.out, isort_in (k := 0) (by simp) (fun j h1 h2 => by rw [hu0] at h2; simp at h2) (fun h => by omega) HUS.out]
          have hl2 : 0 + 1 + 0 = (List.take 0 u ++ (p1, p2) :: List.drop 0 u).length := by simp; have := HUL.out; (try have := HUL2.out); (try have := HKM.out); omega
          have hf2 : flatS ([]) ++ [Value.int .i64 p1, .int .i64 p2] ++ flatS ([]) = flatS (List.take 0 u ++ (p1, p2) :: List.drop 0 u) := by subst hu0; rw [flatS_append]; simp [flatS]
          have hq : X1.ownsRow wz.heap.size 98 2 v1 (List.take 0 u ++ (p1, p2) :: List.drop 0 u).length (flatS (List.take 0 u ++ (p1, p2) :: List.drop 0 u)) := by rw [← hl2, ← hf2]; exact hown2
          exact ownsRow_base_le hq (HBY.out).size)
        clear hown2 hrun hbel ho hb rd1 rd2 hmn hb300
        refine Ap.anyK_val1 (i := 15) (v := v1) (w' := X1) (by decide +kernel) rfl rfl (by first | (go_simp; done) | (go_simp; rfl)) ⟨hS1, trivial⟩ ?_
        clear hS hS1
        refine Ap.wpAnyK_done (by decide +kernel) ?_ _
        go_simp
        go_wp2_with fail
        go_roundw
        case rel => exact ⟨i + 1, by have := HLT.out; omega, by go_num, hO.out, below_next HBY.out hB.out⟩
        case measure => have := HLT.out; simp [intOf]; omega
    case inr =>
      have HCO := Lib.hid hco
      obtain ⟨m, hm⟩ : ∃ m, m = u.length := ⟨_, rfl⟩
      have HUL2 := Lib.hid (show u.length = m from hm.symm)
      have hmi : m = i := by rw [hm, HUL.out]
      have HMI := Lib.hid hmi
      have hcom : (m : Int) ≤ (co : Int) := by omega
      have hcom2 : m ≤ co := by omega
      rw [← hm] at HO ⊢
      have HO1 := Lib.hid HO.out
      have hpos : 0 < u.length ∨ u.length = 0 := by omega
      clear hm hco hmi
      go_wp2_with fail
      go_loopw [5] (fun s wx => ∃ k : Nat, k ≤ m ∧ s = .int .i64 k ∧ (∀ j, k ≤ j → j < u.length → lessB (p1, p2) (u.getD j (0, 0)) = true) ∧ Below wo.heap.size wo wx) (fun s _ => (intOf s).toNat)
      case atStart => exact ⟨m, Nat.le_refl _, rfl, fun j h1 h2 => by have := HUL2.out; omega, Below.refl _ _⟩
      case round =>
        obtain ⟨k, hkm, rfl, hall, hbx⟩ := hrel
        have HBX := Lib.hid hbx
        have HALL := Lib.hid hall
        have HKM := Lib.hid hkm
        clear hbx hall
        have HBW := Lib.hid (below_next HBR.out HBX.out)
        by_cases hk0 : 0 < k
        case neg =>
          obtain rfl : k = 0 := by omega
          clear hk0 hkm
          go_upto_region 6 with fail
          refine Rl.wp_region_rel (fun a b => Below a.heap.size a b) wr (fun a b c h h' => below_next h h') (fun a => Below.refl _ _) hmx (by kernel_rfl) (Below.refl _ _).drew ?_
          iterate 3 (refine Rl.textR_run ?_ (fun ρ => ?_) (fun ρ W hS hd => ?_) ?_; rotate_left; (focus go_simp); (focus (obtain ⟨hc, hf⟩ := bcell hS; go_simp; first | exact ⟨rfl, Below.refl _ _⟩ | (refine ⟨?_, Below.refl _ _⟩; rfl))); (try go_simp))
          iterate 10 (refine Rl.textR_skip (fun ρ => ?_) ?_; (focus (first | rfl | (go_simp; done) | (go_simp; rfl))); (try go_simp))
          (refine Rl.textR_run ?_ (fun ρ => ?_) (fun ρ W hS hd => ?_) ?_; rotate_left; (focus go_simp); (focus (obtain ⟨hc, hf⟩ := bcell hS; go_simp; first | exact ⟨rfl, Below.refl _ _⟩ | (refine ⟨?_, Below.refl _ _⟩; rfl))); (try go_simp))
          refine Rl.textR_nil ?_
          intro ρ wz hg hk
          dsimp only
          have HBY := Lib.hid (below_next HBW.out hg)
          have HOG := Lib.hid hg
          clear hg hk
          go_simp
          have HOW := Lib.hid ((HO1.out.below HBX.out).below HOG.out)
          go_upto_region 8 with fail
          have hS0 := XL.out wz HBY.out
          refine Ap.wp_region_K (S1 := fun X => X.cell? ⟨bl, ol + i * 2, none⟩ = some (.int .i64 p1) ∧ X.cell? ⟨bl, ol + i * 2 + 1, none⟩ = some (.int .i64 p2)) (S2 := fun _ => True) (js := 15) hmx ?_
          change Ap.wpAnyK _ _ _ _ _ _ _ 16 _ _ wz.drew
          have hS : wz.drew.cell? ⟨bl, ol + i * 2, none⟩ = some (.int .i64 p1) ∧ wz.drew.cell? ⟨bl, ol + i * 2 + 1, none⟩ = some (.int .i64 p2) := ⟨hS0.c0, hS0.c1⟩
          clear hS0
          refine Ap.wpAnyK_take1 (i := 1) (v := .slice (some ⟨g, 0, none⟩) m co) rfl (by decide) (by decide +kernel) (by decide +kernel) (by decide +kernel) (fun _ _ _ h => h) (.inl ⟨by first | rfl | (go_simp; done), fun X hX => by clear hX; first | (go_simp; done) | (go_simp; rfl)⟩) ⟨hS, trivial⟩ ?_
          refine Ap.wpAnyK_take1 (i := 2) (v := .int .i64 0) rfl (by decide) (by decide +kernel) (by decide +kernel) (by decide +kernel) (fun _ _ _ h => h) (.inl ⟨by first | rfl | (go_simp; done), fun X hX => by clear hX; first | (go_simp; done) | (go_simp; rfl)⟩) ⟨hS, trivial⟩ ?_
          refine Ap.wpAnyK_take1 (i := 3) (v := .slice (some ⟨g, 0, none⟩) 0 co) rfl (by decide) (by decide +kernel) (by decide +kernel) (by decide +kernel) (fun _ _ _ h => h) (.inl ⟨by first | rfl | (go_simp; done), fun X hX => by clear hX; first | (go_simp; done) | (go_simp; rfl)⟩) ⟨hS, trivial⟩ ?_
          refine Ap.wpAnyK_take1 (i := 5) (v := .slice (some ⟨bl, ol, none⟩) n c) rfl (by decide) (by decide +kernel) (by decide +kernel) (by decide +kernel) (fun _ _ _ h => h) (.inl ⟨by first | rfl | (go_simp; done), fun X hX => by clear hX; first | (go_simp; done) | (go_simp; rfl)⟩) ⟨hS, trivial⟩ ?_
          refine Ap.wpAnyK_take1 (i := 6) (v := .int .i64 i) rfl (by decide) (by decide +kernel) (by decide +kernel) (by decide +kernel) (fun _ _ _ h => h) (.inl ⟨by first | rfl | (go_simp; done), fun X hX => by clear hX; first | (go_simp; done) | (go_simp; rfl)⟩) ⟨hS, trivial⟩ ?_
          refine Ap.wpAnyK_take1 (i := 7) (v := .pointer (some ⟨bl, ol + i * 2, none⟩)) rfl (by decide) (by decide +kernel) (by decide +kernel) (by decide +kernel) (fun _ _ _ h => h) (.inl ⟨by first | rfl | (go_simp; done), fun X hX => by clear hX; first | (go_simp; done) | (go_simp; rfl)⟩) ⟨hS, trivial⟩ ?_
          refine Ap.wpAnyK_take1 (i := 8) (v := .agg #[.int .i64 p1, .int .i64 p2]) rfl (by decide) (by decide +kernel) (by decide +kernel) (by decide +kernel) (fun _ _ _ h => h) (.inl ⟨by first | rfl | (go_simp; done), fun X hX => by obtain ⟨hx0, hx1⟩ := hX; first | (go_simp; done) | (go_simp; rfl)⟩) ⟨hS, trivial⟩ ?_
          refine Ap.wpAnyK_take1 (i := 11) (v := .slice (some ⟨g, 0, none⟩) m co) rfl (by decide) (by decide +kernel) (by decide +kernel) (by decide +kernel) (fun _ _ _ h => h) (.inl ⟨by first | rfl | (go_simp; done), fun X hX => by clear hX; first | (go_simp; done) | (go_simp; rfl)⟩) ⟨hS, trivial⟩ ?_
          refine Ap.wpAnyK_take1 (i := 12) (v := .int .i64 0) rfl (by decide) (by decide +kernel) (by decide +kernel) (by decide +kernel) (fun _ _ _ h => h) (.inl ⟨by first | rfl | (go_simp; done), fun X hX => by clear hX; first | (go_simp; done) | (go_simp; rfl)⟩) ⟨hS, trivial⟩ ?_
          refine Ap.wpAnyK_take1 (i := 13) (v := .slice (some ⟨g, 0, none⟩) m co) rfl (by decide) (by decide +kernel) (by decide +kernel) (by decide +kernel) (fun _ _ _ h => h) (.inl ⟨by first | rfl | (go_simp; done), fun X hX => by clear hX; first | (go_simp; done) | (go_simp; rfl)⟩) ⟨hS, trivial⟩ ?_
          have rdp := HOW.out.rowP
          have rd1 : Ap.RdG wz 2 (.slice (some ⟨g, 0, none⟩) 0 co) 0 (flatS []) := ⟨⟨_, co, rfl, (fun h => by cases h), (fun a ha j u hj => by cases hj), (fun a ha h => absurd h (Nat.lt_irrefl 0))⟩, rfl, fun u hu => by cases hu⟩
          have rd2 : Ap.RdG wz 2 (.slice (some ⟨g, 0, none⟩) m co) m (flatS u) := by have := rdp.rdg; rw [HUL2.out] at this; exact this
          have hb300 := HL.out
          have hmn : 0 ≤ 1000000 ∧ m ≤ 1000000 := by constructor <;> (try have := HLT.out) <;> (try have := HUL.out) <;> (try have := HUL2.out) <;> (try have := HKM.out) <;> omega
          refine Ap.anyK_app2 (j0 := 0) (j1 := 4) (j2 := 9) (j3 := 10) (fuel := 2) (cs := #[.int .i64 p1, .int .i64 p2]) eltQ wz.heap.size (.inl (by decide +kernel)) (.inl (by decide +kernel)) (by decide +kernel) (by decide +kernel) (by decide +kernel) (by decide +kernel) (by decide) rfl rfl rfl rfl ⟨rfl, rfl, rfl, rfl⟩ (by decide) ⟨rfl, rfl, rfl, rfl⟩ rfl rfl
            (by simp [Act.put]) (fun a' X => by first | (go_simp; done) | (go_simp; rfl)) (.slice (some ⟨g, 0, none⟩) 0 co) 0 (flatS ([])) (fun u0 u2 => ⟨by simp [Act.put, Act.eval], by simp [Act.put, Act.eval]⟩) (rd1.mono (Below.refl _ _).drew)
            (fun u0 u1 X => ⟨by first | (go_simp; done) | (go_simp; rfl), by first | (go_simp; done) | (go_simp; rfl), by first | (go_simp; done) | (go_simp; rfl)⟩) rfl (by intro u hu; simp at hu; rcases hu with rfl | rfl <;> rfl) (by unfold maxLen; omega) (by omega) (Nat.le_refl _)
            (fun X hb => ⟨(by have hh := (XL.out wz HBY.out).below (Below.trans (Below.drew (Below.refl _ _)) hb); exact ⟨hh.c0, hh.c1⟩), trivial⟩) ?_
          intro u0 u1 u2 v0 X ho hb
          obtain ⟨v1, X1, hrun, hown2, _, hbel⟩ := Ap.run_app eltQ 95 wz.heap.size v0 (0 + 1) _ ho _ m _ ((rd2.mono (Below.refl _ _).drew).mono hb) (by unfold maxLen; omega) (by omega) (hb.size)
          have hB := Lib.hid (show Below wz.heap.size wz X1 from Below.trans (Below.drew (Below.refl _ _)) (Below.trans hb hbel))
          have hS1 : X1.cell? ⟨bl, ol + i * 2, none⟩ = some (.int .i64 p1) ∧ X1.cell? ⟨bl, ol + i * 2 + 1, none⟩ = some (.int .i64 p2) := ⟨((XL.out wz HBY.out).below hB.out).c0, ((XL.out wz HBY.out).below hB.out).c1⟩
          refine Ap.anyK_val1 (i := 14) (v := v1) (w' := X1) (by decide +kernel) rfl rfl (Ap.exec_app rfl (by simp [Act.put, Act.eval]) (by simp [Act.put, Act.eval]) hrun) ⟨hS1, trivial⟩ ?_
          have hO := Lib.hid (show OwnQ X1 w.heap.size v1 (Ss.isort lessB (l.take (i + 1))) from by
            rw [HNX.out, isort_in (k := 0) (by simp) (fun j h1 h2 => HALL.out j (Nat.zero_le _) h2) (fun h => by omega) HUS.out]
            have hl2 : 0 + 1 + m = (List.take 0 u ++ (p1, p2) :: List.drop 0 u).length := by simp; have := HUL.out; (try have := HUL2.out); (try have := HKM.out); omega
            have hf2 : flatS ([]) ++ [Value.int .i64 p1, .int .i64 p2] ++ flatS (u) = flatS (List.take 0 u ++ (p1, p2) :: List.drop 0 u) := by simp only [List.take_zero, List.drop_zero]; rw [flatS_append]; simp [flatS]
            have hq : X1.ownsRow wz.heap.size 98 2 v1 (List.take 0 u ++ (p1, p2) :: List.drop 0 u).length (flatS (List.take 0 u ++ (p1, p2) :: List.drop 0 u)) := by rw [← hl2, ← hf2]; exact hown2
            exact ownsRow_base_le hq (HBY.out).size)
          clear hown2 hrun hbel ho hb rd1 rd2 hmn hb300
          refine Ap.anyK_val1 (i := 15) (v := v1) (w' := X1) (by decide +kernel) rfl rfl (by first | (go_simp; done) | (go_simp; rfl)) ⟨hS1, trivial⟩ ?_
          clear hS hS1
          refine Ap.wpAnyK_done (by decide +kernel) ?_ _
          go_simp
          go_wp2_with fail
          go_roundw
          case rel => exact ⟨i + 1, by have := HLT.out; omega, by go_num, hO.out, below_next HBY.out hB.out⟩
          case measure => have := HLT.out; simp [intOf]; omega
        case pos =>
          obtain ⟨k1, hk1⟩ : ∃ z, z = k - 1 := ⟨_, rfl⟩
          have ek1 : (k : Int) - 1 = (k1 : Int) := by omega
          have rk1 : IntKind.i64.wrap (k1 : Int) = (k1 : Int) := by have := HL.out; have := HMI.out; have := HLT.out; rw [IntKind.wrap_i64]; omega
          have hk1m : (k1 : Int) < (m : Int) := by omega
          have hg1 : decide ((k : Int) > 0) = true := decide_eq_true (by omega)
          have hg2 : decide ((0 : Int) < (k : Int)) = true := decide_eq_true (by omega)
          have hg3 : decide (0 < k) = true := decide_eq_true hk0
          have hg4 : (0 : Int) < (k : Int) := by omega
          obtain ⟨bq, oq, hq, hqlt, hQc⟩ := (HO1.out.below HBX.out).rowP.at (i := k1) (by have := HUL2.out; omega)
          cases hq
          have XQ := Lib.hid (fun (Y : World) (hY : Below wr.heap.size wr Y) => (hQc k1 (by have := HUL2.out; omega)).below hY)
          have HK1 := Lib.hid hk1
          have HK0 := Lib.hid hk0
          clear hQc hqlt hk1 hk0 hkm
          obtain ⟨q, hq⟩ : ∃ q, q = u.getD k1 (0, 0) := ⟨_, rfl⟩
          rw [← hq] at XQ
          have HQ := Lib.hid hq
          clear hq
          obtain ⟨q1, q2⟩ := q
          dsimp only at XQ
          cases hless : lessB (p1, p2) (q1, q2)
          case true =>
            have KL := Lib.hid (fun (Y : World) => rless_any p1 p2 q1 q2 true hless Y)
            have HLS := Lib.hid hless
            clear hless
            go_upto_region 6 with fail
            refine Rl.wp_region_rel (fun a b => Below a.heap.size a b) wr (fun a b c h h' => below_next h h') (fun a => Below.refl _ _) hmx (by kernel_rfl) (Below.refl _ _).drew ?_
            iterate 6 (refine Rl.textR_run ?_ (fun ρ => ?_) (fun ρ W hS hd => ?_) ?_; rotate_left; (focus go_simp); (focus (obtain ⟨hc, hf⟩ := bcell hS; go_simp; first | exact ⟨rfl, Below.refl _ _⟩ | (refine ⟨?_, Below.refl _ _⟩; rfl))); (try go_simp))
            refine Rl.textR_run (.agg #[.int .i64 p1, .int .i64 p2]) (fun ρ => ?_) (fun ρ W hS hd => ?_) ?_
            · go_simp
            · exact comesToR_load2r _ rfl (b := bl) (off := ol + i * 2) (by go_simp) (XL.out W (below_next HBW.out hS)).c0 (XL.out W (below_next HBW.out hS)).c1 ⟨rfl, Below.refl _ _⟩
            (try go_simp)
            iterate 4 (refine Rl.textR_run ?_ (fun ρ => ?_) (fun ρ W hS hd => ?_) ?_; rotate_left; (focus go_simp); (focus (obtain ⟨hc, hf⟩ := bcell hS; go_simp; first | exact ⟨rfl, Below.refl _ _⟩ | (refine ⟨?_, Below.refl _ _⟩; rfl))); (try go_simp))
            refine Rl.textR_run (.agg #[.int .i64 q1, .int .i64 q2]) (fun ρ => ?_) (fun ρ W hS hd => ?_) ?_
            · go_simp
            · exact comesToR_load2r _ rfl (b := g) (off := k1 * 2) (by go_simp) (by simpa using (XQ.out W hS).c0) (by simpa using (XQ.out W hS).c1) ⟨rfl, Below.refl _ _⟩
            (try go_simp)
            (refine Rl.textR_run ?_ (fun ρ => ?_) (fun ρ W hS hd => ?_) ?_; rotate_left; (focus go_simp); (focus (obtain ⟨hc, hf⟩ := bcell hS; go_simp; refine (KL.out W).mono ?_; rintro e w1 ⟨rfl, hb⟩; refine ⟨_, rfl, ?_, hb⟩; rfl)); (try go_simp))
            (refine Rl.textR_run ?_ (fun ρ => ?_) (fun ρ W hS hd => ?_) ?_; rotate_left; (focus go_simp); (focus (obtain ⟨hc, hf⟩ := bcell hS; go_simp; first | exact ⟨rfl, Below.refl _ _⟩ | (refine ⟨?_, Below.refl _ _⟩; rfl))); (try go_simp))
            refine Rl.textR_nil ?_
            intro ρ wz hg hk
            dsimp only
            have HBY := Lib.hid (below_next HBX.out hg)
            have HOG := Lib.hid hg
            clear hg hk
            go_simp
            go_wp2_with fail
            go_roundw
            case rel => exact ⟨k1, by have := HK1.out; have := HKM.out; omega, by go_num, fun j h1 h2 => by
              by_cases hj : j = k1
              · rw [hj, ← HQ.out]; exact HLS.out
              · exact HALL.out j (by have := HK1.out; omega) h2, HBY.out⟩
            case measure => have := HK1.out; have := HK0.out; simp [intOf]; omega
          case false =>
            have KL := Lib.hid (fun (Y : World) => rless_any p1 p2 q1 q2 false hless Y)
            have HLS := Lib.hid hless
            clear hless
            go_upto_region 6 with fail
            refine Rl.wp_region_rel (fun a b => Below a.heap.size a b) wr (fun a b c h h' => below_next h h') (fun a => Below.refl _ _) hmx (by kernel_rfl) (Below.refl _ _).drew ?_
            iterate 6 (refine Rl.textR_run ?_ (fun ρ => ?_) (fun ρ W hS hd => ?_) ?_; rotate_left; (focus go_simp); (focus (obtain ⟨hc, hf⟩ := bcell hS; go_simp; first | exact ⟨rfl, Below.refl _ _⟩ | (refine ⟨?_, Below.refl _ _⟩; rfl))); (try go_simp))
            refine Rl.textR_run (.agg #[.int .i64 p1, .int .i64 p2]) (fun ρ => ?_) (fun ρ W hS hd => ?_) ?_
            · go_simp
            · exact comesToR_load2r _ rfl (b := bl) (off := ol + i * 2) (by go_simp) (XL.out W (below_next HBW.out hS)).c0 (XL.out W (below_next HBW.out hS)).c1 ⟨rfl, Below.refl _ _⟩
            (try go_simp)
            iterate 4 (refine Rl.textR_run ?_ (fun ρ => ?_) (fun ρ W hS hd => ?_) ?_; rotate_left; (focus go_simp); (focus (obtain ⟨hc, hf⟩ := bcell hS; go_simp; first | exact ⟨rfl, Below.refl _ _⟩ | (refine ⟨?_, Below.refl _ _⟩; rfl))); (try go_simp))
            refine Rl.textR_run (.agg #[.int .i64 q1, .int .i64 q2]) (fun ρ => ?_) (fun ρ W hS hd => ?_) ?_
            · go_simp
            · exact comesToR_load2r _ rfl (b := g) (off := k1 * 2) (by go_simp) (by simpa using (XQ.out W hS).c0) (by simpa using (XQ.out W hS).c1) ⟨rfl, Below.refl _ _⟩
            (try go_simp)
            (refine Rl.textR_run ?_ (fun ρ => ?_) (fun ρ W hS hd => ?_) ?_; rotate_left; (focus go_simp); (focus (obtain ⟨hc, hf⟩ := bcell hS; go_simp; refine (KL.out W).mono ?_; rintro e w1 ⟨rfl, hb⟩; refine ⟨_, rfl, ?_, hb⟩; rfl)); (try go_simp))
            (refine Rl.textR_run ?_ (fun ρ => ?_) (fun ρ W hS hd => ?_) ?_; rotate_left; (focus go_simp); (focus (obtain ⟨hc, hf⟩ := bcell hS; go_simp; first | exact ⟨rfl, Below.refl _ _⟩ | (refine ⟨?_, Below.refl _ _⟩; rfl))); (try go_simp))
            refine Rl.textR_nil ?_
            intro ρ wz hg hk
            dsimp only
            have HBY := Lib.hid (below_next HBW.out hg)
            have HOG := Lib.hid hg
            clear hg hk
            go_simp
            have HOW := Lib.hid ((HO1.out.below HBX.out).below HOG.out)
            have hkc1 : (k : Int) ≤ (co : Int) := by have := HKM.out; omega
            have hkc2 : (k : Int) ≤ (m : Int) := by have := HKM.out; omega
            have hkc3 : k ≤ co := by have := HKM.out; omega
            have hkc4 : k ≤ m := HKM.out
            clear hg1 hg2 hg3 hg4 ek1 rk1 hk1m
            go_upto_region 8 with fail
            have hS0 := XL.out wz HBY.out
            refine Ap.wp_region_K (S1 := fun X => X.cell? ⟨bl, ol + i * 2, none⟩ = some (.int .i64 p1) ∧ X.cell? ⟨bl, ol + i * 2 + 1, none⟩ = some (.int .i64 p2)) (S2 := fun _ => True) (js := 15) hmx ?_
            change Ap.wpAnyK _ _ _ _ _ _ _ 16 _ _ wz.drew
            have hS : wz.drew.cell? ⟨bl, ol + i * 2, none⟩ = some (.int .i64 p1) ∧ wz.drew.cell? ⟨bl, ol + i * 2 + 1, none⟩ = some (.int .i64 p2) := ⟨hS0.c0, hS0.c1⟩
            clear hS0
            refine Ap.wpAnyK_take1 (i := 1) (v := .slice (some ⟨g, 0, none⟩) m co) rfl (by decide) (by decide +kernel) (by decide +kernel) (by decide +kernel) (fun _ _ _ h => h) (.inl ⟨by first | rfl | (go_simp; done), fun X hX => by clear hX; first | (go_simp; done) | (go_simp; rfl)⟩) ⟨hS, trivial⟩ ?_
            refine Ap.wpAnyK_take1 (i := 2) (v := .int .i64 k) rfl (by decide) (by decide +kernel) (by decide +kernel) (by decide +kernel) (fun _ _ _ h => h) (.inl ⟨by first | rfl | (go_simp; done), fun X hX => by clear hX; first | (go_simp; done) | (go_simp; rfl)⟩) ⟨hS, trivial⟩ ?_
            refine Ap.wpAnyK_take1 (i := 3) (v := .slice (some ⟨g, 0, none⟩) k co) rfl (by decide) (by decide +kernel) (by decide +kernel) (by decide +kernel) (fun _ _ _ h => h) (.inl ⟨by first | rfl | (go_simp; done), fun X hX => by clear hX; first | (go_simp; done) | (go_simp; rfl)⟩) ⟨hS, trivial⟩ ?_
            refine Ap.wpAnyK_take1 (i := 5) (v := .slice (some ⟨bl, ol, none⟩) n c) rfl (by decide) (by decide +kernel) (by decide +kernel) (by decide +kernel) (fun _ _ _ h => h) (.inl ⟨by first | rfl | (go_simp; done), fun X hX => by clear hX; first | (go_simp; done) | (go_simp; rfl)⟩) ⟨hS, trivial⟩ ?_
            refine Ap.wpAnyK_take1 (i := 6) (v := .int .i64 i) rfl (by decide) (by decide +kernel) (by decide +kernel) (by decide +kernel) (fun _ _ _ h => h) (.inl ⟨by first | rfl | (go_simp; done), fun X hX => by clear hX; first | (go_simp; done) | (go_simp; rfl)⟩) ⟨hS, trivial⟩ ?_
            refine Ap.wpAnyK_take1 (i := 7) (v := .pointer (some ⟨bl, ol + i * 2, none⟩)) rfl (by decide) (by decide +kernel) (by decide +kernel) (by decide +kernel) (fun _ _ _ h => h) (.inl ⟨by first | rfl | (go_simp; done), fun X hX => by clear hX; first | (go_simp; done) | (go_simp; rfl)⟩) ⟨hS, trivial⟩ ?_
            refine Ap.wpAnyK_take1 (i := 8) (v := .agg #[.int .i64 p1, .int .i64 p2]) rfl (by decide) (by decide +kernel) (by decide +kernel) (by decide +kernel) (fun _ _ _ h => h) (.inl ⟨by first | rfl | (go_simp; done), fun X hX => by obtain ⟨hx0, hx1⟩ := hX; first | (go_simp; done) | (go_simp; rfl)⟩) ⟨hS, trivial⟩ ?_
            refine Ap.wpAnyK_take1 (i := 11) (v := .slice (some ⟨g, 0, none⟩) m co) rfl (by decide) (by decide +kernel) (by decide +kernel) (by decide +kernel) (fun _ _ _ h => h) (.inl ⟨by first | rfl | (go_simp; done), fun X hX => by clear hX; first | (go_simp; done) | (go_simp; rfl)⟩) ⟨hS, trivial⟩ ?_
            refine Ap.wpAnyK_take1 (i := 12) (v := .int .i64 k) rfl (by decide) (by decide +kernel) (by decide +kernel) (by decide +kernel) (fun _ _ _ h => h) (.inl ⟨by first | rfl | (go_simp; done), fun X hX => by clear hX; first | (go_simp; done) | (go_simp; rfl)⟩) ⟨hS, trivial⟩ ?_
            refine Ap.wpAnyK_take1 (i := 13) (v := .slice (if co = k then some ⟨g, 0, none⟩ else some ⟨g, k * 2, none⟩) (m - k) (co - k)) rfl (by decide) (by decide +kernel) (by decide +kernel) (by decide +kernel) (fun _ _ _ h => h) (.inl ⟨by first | rfl | (go_simp; done), fun X hX => by clear hX; first | (go_simp; done) | (go_simp; rfl)⟩) ⟨hS, trivial⟩ ?_
            have rdp := HOW.out.rowP
            have rd1 : Ap.RdG wz 2 (.slice (some ⟨g, 0, none⟩) k co) k (flatS (u.take k)) := by
              have := (rdp.take k (by have := HUL2.out; have := HKM.out; omega)).rdg
              rw [show (u.take k).length = k by simp; have := HUL2.out; have := HKM.out; omega] at this
              exact this
            have rd2 : Ap.RdG wz 2 (.slice (if co = k then some ⟨g, 0, none⟩ else some ⟨g, k * 2, none⟩) (m - k) (co - k)) (m - k) (flatS (u.drop k)) := by
              have := (rdp.drop k (by have := HUL2.out; have := HKM.out; omega)).rdg
              rw [List.length_drop, HUL2.out] at this
              simpa using this
            have hb300 := HL.out
            have hmn : k ≤ 1000000 ∧ (m - k) ≤ 1000000 := by constructor <;> (try have := HLT.out) <;> (try have := HUL.out) <;> (try have := HUL2.out) <;> (try have := HKM.out) <;> omega
            refine Ap.anyK_app2 (j0 := 0) (j1 := 4) (j2 := 9) (j3 := 10) (fuel := 2) (cs := #[.int .i64 p1, .int .i64 p2]) eltQ wz.heap.size (.inl (by decide +kernel)) (.inl (by decide +kernel)) (by decide +kernel) (by decide +kernel) (by decide +kernel) (by decide +kernel) (by decide) rfl rfl rfl rfl ⟨rfl, rfl, rfl, rfl⟩ (by decide) ⟨rfl, rfl, rfl, rfl⟩ rfl rfl
              (by simp [Act.put]) (fun a' X => by first | (go_simp; done) | (go_simp; rfl)) (.slice (some ⟨g, 0, none⟩) k co) k (flatS (u.take k)) (fun u0 u2 => ⟨by simp [Act.put, Act.eval], by simp [Act.put, Act.eval]⟩) (rd1.mono (Below.refl _ _).drew)
              (fun u0 u1 X => ⟨by first | (go_simp; done) | (go_simp; rfl), by first | (go_simp; done) | (go_simp; rfl), by first | (go_simp; done) | (go_simp; rfl)⟩) rfl (by intro u hu; simp at hu; rcases hu with rfl | rfl <;> rfl) (by unfold maxLen; omega) (by omega) (Nat.le_refl _)
              (fun X hb => ⟨(by have hh := (XL.out wz HBY.out).below (Below.trans (Below.drew (Below.refl _ _)) hb); exact ⟨hh.c0, hh.c1⟩), trivial⟩) ?_
            intro u0 u1 u2 v0 X ho hb
            obtain ⟨v1, X1, hrun, hown2, _, hbel⟩ := Ap.run_app eltQ 95 wz.heap.size v0 (k + 1) _ ho _ (m - k) _ ((rd2.mono (Below.refl _ _).drew).mono hb) (by unfold maxLen; omega) (by omega) (hb.size)
            have hB := Lib.hid (show Below wz.heap.size wz X1 from Below.trans (Below.drew (Below.refl _ _)) (Below.trans hb hbel))
            have hS1 : X1.cell? ⟨bl, ol + i * 2, none⟩ = some (.int .i64 p1) ∧ X1.cell? ⟨bl, ol + i * 2 + 1, none⟩ = some (.int .i64 p2) := ⟨((XL.out wz HBY.out).below hB.out).c0, ((XL.out wz HBY.out).below hB.out).c1⟩
            refine Ap.anyK_val1 (i := 14) (v := v1) (w' := X1) (by decide +kernel) rfl rfl (Ap.exec_app rfl (by simp [Act.put, Act.eval]) (by simp [Act.put, Act.eval]) hrun) ⟨hS1, trivial⟩ ?_
            have hO := Lib.hid (show OwnQ X1 w.heap.size v1 (Ss.isort lessB (l.take (i + 1))) from by
              rw [HNX.out, isort_in (k := k) (by have := HUL2.out; have := HKM.out; omega) (fun j h1 h2 => HALL.out j h1 h2) (fun _ => by rw [show k - 1 = k1 from HK1.out.symm, ← HQ.out]; exact HLS.out) HUS.out]
              have hl2 : k + 1 + (m - k) = (List.take k u ++ (p1, p2) :: List.drop k u).length := by simp; have := HUL.out; (try have := HUL2.out); (try have := HKM.out); omega
              have hf2 : flatS (u.take k) ++ [Value.int .i64 p1, .int .i64 p2] ++ flatS (u.drop k) = flatS (List.take k u ++ (p1, p2) :: List.drop k u) := by rw [flatS_append]; simp [flatS]
              have hq : X1.ownsRow wz.heap.size 98 2 v1 (List.take k u ++ (p1, p2) :: List.drop k u).length (flatS (List.take k u ++ (p1, p2) :: List.drop k u)) := by rw [← hl2, ← hf2]; exact hown2
              exact ownsRow_base_le hq (HBY.out).size)
            clear hown2 hrun hbel ho hb rd1 rd2 hmn hb300
            refine Ap.anyK_val1 (i := 15) (v := v1) (w' := X1) (by decide +kernel) rfl rfl (by first | (go_simp; done) | (go_simp; rfl)) ⟨hS1, trivial⟩ ?_
            clear hS hS1
            refine Ap.wpAnyK_done (by decide +kernel) ?_ _
            go_simp
            go_wp2_with fail
            go_roundw
            case rel => exact ⟨i + 1, by have := HLT.out; omega, by go_num, hO.out, below_next HBY.out hB.out⟩
            case measure => have := HLT.out; simp [intOf]; omega
end Go.Proofs.Ytbhnjmdlagjfbaa
