/- Levels (layer 10): rows of steps that come in; right, Of. No condition but the lengths' bounds. -/
import Derived.Test.YthdljigcfhjikaaUrc
import Derived.Test.YthdljigcfhjikaaRelT
import Derived.Test.YthdljigcfhjikaaRelL
namespace Go.Proofs.Ythdljigcfhjikaa
set_option linter.unusedVariables false
open Go.ChangeShapes Go.WideShapes Go.ChangeAt Go.RowKit Go.Deep

/-- steps in a row that came in -/
def StepsX (w : World) (ad : Option Addr) (len : Nat) (X : Nat → Int × Int) : Prop := len ≤ 9223372036854775807 ∧ (0 < len → ∃ b off, ad = some ⟨b, off, none⟩ ∧ b < w.heap.size ∧ ∀ k, k < len → w.cell? ⟨b, off + k * 2, none⟩ = some (.int .i64 (X k).1) ∧ w.cell? ⟨b, off + k * 2 + 1, none⟩ = some (.int .i64 (X k).2))
theorem StepsX.below {w w' : World} {ad : Option Addr} {len : Nat} {X : Nat → Int × Int} (h : StepsX w ad len X) (hb : Below w.heap.size w w') : StepsX w' ad len X := by
  refine ⟨h.1, fun hl => ?_⟩
  obtain ⟨b, off, rfl, hlt, hc⟩ := h.2 hl
  exact ⟨b, off, rfl, Nat.lt_of_lt_of_le hlt hb.size, fun k hk => ⟨(hb.cell (p := ⟨b, off + k * 2, none⟩) hlt).trans (hc k hk).1, (hb.cell (p := ⟨b, off + k * 2 + 1, none⟩) hlt).trans (hc k hk).2⟩⟩
theorem StepsX.of_row {w : World} {g : Nat} {L : List (Int × Int)} (h : URow w g L) (hg : g < w.heap.size) (hl : L.length ≤ 1099511627776) : StepsX w (some ⟨g, 0, none⟩) L.length (fun k => L.getD k (0, 0)) :=
  ⟨by omega, fun _ => ⟨g, 0, rfl, hg, fun k hk => by rw [Nat.zero_add]; exact h k hk⟩⟩
theorem sStep10 : Try.prog.underlying 60 = some (.struct (Try.prog.fieldsOf 60)) := by kernel_rfl
theorem fStep10 : (Try.prog.fieldsOf 60).toList.map (fun f => (f.offset, Try.prog.cellsOf f.type, f.type)) = [(0, 1, 23), (1, 1, 3)] := by kernel_rfl
theorem cellsStep10 : Try.prog.cellsOf 60 = 2 := by kernel_rfl
set_option maxRecDepth 10000 in
theorem stepsX_open {H : Type} {enc : TypeId × Value → H} {W : World} {a : Option Addr} {len cap : Nat} {d : DataW H} {p : List MemPlace}
    (h : DataW.Trod enc Try.prog W 0 (fun _ => true) true 55 (.slice a len cap) d p) : ∃ A : Nat → Int × Int, StepsX W a len A ∧ len ≤ cap := by
  obtain ⟨fuel, hf⟩ := h
  rcases Go.Deep.open_slice Try.underlying55 hf with ⟨hcs, _⟩ | ⟨x, l, c, m, n, D, Pl, hcs, _, hl, hm, hmm, hd, hcell⟩
  · simp [Value.cells] at hcs
    obtain ⟨rfl, rfl, rfl⟩ := hcs
    exact ⟨fun _ => (0, 0), ⟨by omega, fun h => absurd h (by omega)⟩, Nat.le_refl _⟩
  · simp [Value.cells] at hcs
    obtain ⟨rfl, rfl, rfl⟩ := hcs
    have hlm : len ≤ m := by rw [hmm]; split <;> omega
    rw [cellsStep10] at hcell
    by_cases h0 : len = 0
    · exact ⟨fun _ => (0, 0), ⟨by omega, fun h => absurd h (by omega)⟩, hl⟩
    obtain ⟨b, off, spot⟩ := x
    have hspot : spot = none := by
      obtain ⟨cs', h1, _⟩ := hcell 0 (by omega)
      obtain ⟨_, hlen, hc⟩ := World.cells?_some h1
      have := hc 0 (by omega)
      have hs : cs'[0]? = some cs'[0] := List.getElem?_eq_getElem (by omega)
      rw [hs] at this
      simpa [Addr.add] using World.cell?_spot this
    subst hspot
    have hplain : ∀ k, (⟨b, off, none⟩ : Addr).add k = ⟨b, off + k, none⟩ := fun k => by unfold Addr.add; split <;> simp_all
    have hplain2 : ∀ k j, ((⟨b, off, none⟩ : Addr).add k).add j = ⟨b, off + k + j, none⟩ := fun k j => by rw [Go.Deep.add_add, hplain, Nat.add_assoc]
    have each : ∀ i, i < len → ∃ q : Int × Int, W.cell? ⟨b, off + i * 2, none⟩ = some (.int .i64 q.1) ∧ W.cell? ⟨b, off + i * 2 + 1, none⟩ = some (.int .i64 q.2) := by
      intro i hi
      obtain ⟨cs', h1, h2⟩ := hcell i (by omega)
      obtain ⟨_, hlen, hc⟩ := World.cells?_some h1
      match cs', hlen with
      | [v0, v1], _ =>
        obtain ⟨n0, y0, g0⟩ := trod_field sStep10 h2 fStep10 (i := 0) rfl
        obtain ⟨n1, y1, g1⟩ := trod_field sStep10 h2 fStep10 (i := 1) rfl
        obtain ⟨a0, e0, _, _⟩ := DataW.trod_int Try.underlying23 g0
        obtain ⟨a1, e1, _, _⟩ := DataW.trod_int Try.underlying3 g1
        have f0 : v0 = .int .i64 a0 := by simpa using e0
        have f1 : v1 = .int .i64 a1 := by simpa using e1
        subst f0 f1
        have c : ∀ j, j < 2 → W.cell? ⟨b, off + i * 2 + j, none⟩ = [Value.int .i64 a0, .int .i64 a1][j]? := fun j hj => by rw [← hplain2]; exact hc j hj
        exact ⟨(a0, a1), c 0 (by decide), c 1 (by decide)⟩
    obtain ⟨A, hA⟩ := Go.Deep.choose_lt (α := Int × Int) (p := fun i q => W.cell? ⟨b, off + i * 2, none⟩ = some (.int .i64 q.1) ∧ W.cell? ⟨b, off + i * 2 + 1, none⟩ = some (.int .i64 q.2)) each
    refine ⟨A, ⟨by unfold maxLen at hm; omega, fun _ => ⟨b, off, rfl, ?_, hA⟩⟩, hl⟩
    exact World.block_lt_of_cell? W _ (hA 0 (by omega)).1
/-- no step is wrong by itself or beside the one ahead -/
def StepOk (X : Nat → Int × Int) (k : Nat) : Prop := boundU (X k).2 = (X k).2 ∧ (k = 0 ∨ (X (k - 1)).1 < (X k).1 ∧ (X (k - 1)).2 ≠ (X k).2)
/-- right steps -/
def RightX (X : Nat → Int × Int) (len : Nat) : Prop := 0 < len ∧ (X 0).1 = 0 ∧ (X (len - 1)).1 < 1099511627776 ∧ ∀ k, k < len → StepOk X k
theorem rightX_list {L : List (Int × Int)} (h : RightX (fun k => L.getD k (0, 0)) L.length) : RightU L := by
  obtain ⟨h0, h1, h2, h3⟩ := h
  have ga : ∀ k (hk : k < L.length), L[k] = L.getD k (0, 0) := fun k hk => by rw [List.getD_eq_getElem?_getD, List.getElem?_eq_getElem hk]; rfl
  have step : ∀ k, k + 1 < L.length → (L.getD k (0, 0)).1 < (L.getD (k + 1) (0, 0)).1 ∧ (L.getD k (0, 0)).2 ≠ (L.getD (k + 1) (0, 0)).2 := fun k hk => by
    rcases (h3 (k + 1) hk).2 with h | h
    · omega
    · simpa using h
  have mono : ∀ d k, k + d + 1 < L.length → (L.getD k (0, 0)).1 < (L.getD (k + d + 1) (0, 0)).1 := fun d => by
    induction d with
    | zero => intro k hk; exact (step k hk).1
    | succ d ih => intro k hk; exact Int.lt_trans (ih k (by omega)) (step (k + d + 1) (by omega)).1
  have last : ∀ k, k < L.length → (L.getD k (0, 0)).1 < 1099511627776 := fun k hk => by
    by_cases e : k = L.length - 1
    · rw [e]; exact h2
    · have := mono (L.length - 1 - k - 1) k (by omega)
      rw [show k + (L.length - 1 - k - 1) + 1 = L.length - 1 by omega] at this
      exact Int.lt_trans this h2
  refine ⟨?_, ?_, ?_, ?_, ?_⟩
  · cases L with
    | nil => simp at h0
    | cons p r =>
      refine ⟨p.2, r, ?_⟩
      have : p.1 = 0 := by simpa using h1
      rw [← this]
  · refine List.pairwise_iff_getElem.2 fun i j hi hj hij => ?_
    rw [ga i hi, ga j hj]
    have := mono (j - i - 1) i (by omega)
    rwa [show i + (j - i - 1) + 1 = j by omega] at this
  · intro a b p q e
    have hk : a.length + 1 < L.length := by rw [e]; simp
    have := (step a.length hk).2
    rw [e] at this
    simpa [List.getD_eq_getElem?_getD, List.getElem?_append_right] using this
  · intro p hp
    obtain ⟨k, hk, e⟩ := mem_at hp
    rw [← e]; exact last k hk
  · intro p hp
    obtain ⟨k, hk, e⟩ := mem_at hp
    have := (h3 k hk).1
    have hb := boundU_in (L.getD k (0, 0)).2
    simp only at this
    rw [this] at hb
    rw [← e]; exact hb
theorem list_rightX {L : List (Int × Int)} (h : RightU L) : RightX (fun k => L.getD k (0, 0)) L.length := by
  have hp := h.pos
  have hm : ∀ k, k < L.length → L.getD k (0, 0) ∈ L := fun k hk => by rw [List.getD_eq_getElem?_getD, List.getElem?_eq_getElem hk]; exact List.getElem_mem hk
  refine ⟨hp, ?_, h.hi _ (hm _ (by omega)), fun k hk => ⟨boundU_id (h.bd _ (hm k hk)), ?_⟩⟩
  · obtain ⟨v, r, e⟩ := h.head
    rw [e]; rfl
  · by_cases h0 : k = 0
    · exact .inl h0
    · refine .inr ⟨?_, ?_⟩
      · have := List.pairwise_iff_getElem.1 h.sorted (k - 1) k (by omega) hk (by omega)
        simpa [List.getD_eq_getElem?_getD, List.getElem?_eq_getElem hk, List.getElem?_eq_getElem (show k - 1 < L.length by omega)] using this
      · have hk1 : k - 1 < L.length := by omega
        have := h.diff (L.take (k - 1)) (L.drop (k + 1)) (L.getD (k - 1) (0, 0)) (L.getD k (0, 0)) (by
          rw [List.getD_eq_getElem?_getD, List.getElem?_eq_getElem hk1, List.getD_eq_getElem?_getD, List.getElem?_eq_getElem hk]
          show L = L.take (k - 1) ++ L[k - 1] :: L[k] :: L.drop (k + 1)
          rw [show L[k] :: L.drop (k + 1) = L.drop k from (List.drop_eq_getElem_cons hk).symm]
          have e2 : L[k - 1] :: L.drop k = L.drop (k - 1) := by
            have := List.drop_eq_getElem_cons hk1
            rw [show k - 1 + 1 = k by omega] at this
            exact this.symm
          rw [e2, List.take_append_drop])
        exact this
end Go.Proofs.Ythdljigcfhjikaa
