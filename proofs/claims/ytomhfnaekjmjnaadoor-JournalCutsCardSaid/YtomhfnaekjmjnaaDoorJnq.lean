/- Logs over a disk that is up, plainly. No condition but the lengths' bounds. -/
import Derived.Test.YtomhfnaekjmjnaaDoorJnm
import Derived.Test.YtomhfnaekjmjnaaDoorJno
namespace Go.Proofs.YtomhfnaekjmjnaaDoor
set_option linter.unusedVariables false
open Go.ChangeShapes Go.WideShapes Go.ChangeAt Go.RowKit

/-- a disk that is up, not armed; what a file has, how much of it is safe -/
structure DOk (ds : DS) (f : Int) (xs : List Int) : Prop where
  down : ds.down = false
  left : ds.left = -1
  b : ds.b f.toNat = xs
theorem wrongF_up {f : Int} (hf : 0 ≤ f ∧ f ≤ 3) : wrongF false f = 0 := by unfold wrongF; rw [if_neg (by simp), if_pos hf]
theorem call_ok {q : Nat} {ds : DS} {f : Int} {xs ys : List Int} (hf : 0 ≤ f ∧ f ≤ 3) (h : DOk ds f xs) (hl : xs.length + ys.length ≤ 1048576) : callF q ds f ys = ({ ds.deed q f.toNat ys with left := -1 }, 0) := by
  unfold callF
  rw [h.down, wrongF_up hf, h.b, h.left, if_neg (by simp), if_neg (by omega), if_neg (by decide), if_neg (by decide)]
theorem deed_b (ds : DS) (q k : Nat) (ys : List Int) : (ds.deed q k ys).b k = if q = 0 then ds.b k ++ ys else if q = 1 then ds.b k else [] := by
  unfold DS.deed
  split
  · simp [upd_at]
  · simp
  · rename_i h0 h1
    rw [if_neg h0, if_neg h1]; simp [upd_at]
theorem deed_s (ds : DS) (q k : Nat) (ys : List Int) : (ds.deed q k ys).s k = if q = 0 then ds.s k else if q = 1 then (ds.b k).length else 0 := by
  unfold DS.deed
  split
  · simp
  · simp [upd_at]
  · rename_i h0 h1
    rw [if_neg h0, if_neg h1]; simp [upd_at]
theorem deed_down (ds : DS) (q k : Nat) (ys : List Int) : (ds.deed q k ys).down = ds.down := by unfold DS.deed; split <;> rfl
theorem call_dok {q : Nat} {ds : DS} {f : Int} {xs ys : List Int} (hf : 0 ≤ f ∧ f ≤ 3) (h : DOk ds f xs) (hl : xs.length + ys.length ≤ 1048576) : DOk (callF q ds f ys).1 f (if q = 0 then xs ++ ys else if q = 1 then xs else []) := by
  rw [call_ok hf h hl]
  exact ⟨(deed_down ds q _ ys).trans h.down, rfl, by show (ds.deed q f.toNat ys).b f.toNat = _; rw [deed_b, h.b]⟩
theorem add_ok {f : Int} {rs : List JRec} {ln : Nat} {ds : DS} {xs : List Int} {r : JRec} (hf : 0 ≤ f ∧ f ≤ 3) (h : DOk ds f xs) (hr : r.2.length ≤ 65536) (hl : xs.length + (frameF r).length ≤ 1048576) :
    ∃ ds', addF ⟨f, rs, ln, false, false⟩ ds r = (⟨f, rs ++ [r], ln + (frameF r).length, false, false⟩, ds', 0) ∧ DOk ds' f (xs ++ frameF r) ∧ ds'.s f.toNat = (xs ++ frameF r).length := by
  have h1 := call_dok (q := 0) hf h hl
  have c1 := call_ok (q := 0) hf h hl
  rw [if_pos rfl] at h1
  have h2 := call_dok (q := 1) (ys := []) hf h1 (by simp; omega)
  have c2 := call_ok (q := 1) (ys := []) hf h1 (by simp; omega)
  rw [if_neg (by decide), if_pos rfl] at h2
  refine ⟨(callF 1 (callF 0 ds f (frameF r)).1 f []).1, ?_, h2, ?_⟩
  · unfold addF
    rw [if_neg (by simp), if_neg (by omega)]
    show (if (callF 0 ds f (frameF r)).2 ≠ 0 then _ else _) = _
    rw [if_neg (by rw [c1]; simp)]
    show (if (callF 1 (callF 0 ds f (frameF r)).1 f []).2 ≠ 0 then _ else _) = _
    rw [if_neg (by rw [c2]; simp)]
  · rw [c2]
    show ((callF 0 ds f (frameF r)).1.deed 1 f.toNat []).s f.toNat = _
    rw [deed_s, if_neg (by decide), if_pos rfl, h1.b]
theorem clear_ok {st : LS} {ds : DS} {xs : List Int} (hf : 0 ≤ st.f ∧ st.f ≤ 3) (h : DOk ds st.f xs) (hl : xs.length ≤ 1048576) :
    ∃ ds', clearF st ds = (⟨st.f, [], 0, false, false⟩, ds', 0) ∧ DOk ds' st.f [] ∧ ds'.s st.f.toNat = 0 := by
  have h1 := call_dok (q := 2) (ys := []) hf h (by simp; omega)
  have c1 := call_ok (q := 2) (ys := []) hf h (by simp; omega)
  rw [if_neg (by decide), if_neg (by decide)] at h1
  refine ⟨(callF 2 ds st.f []).1, ?_, h1, ?_⟩
  · unfold clearF
    rw [if_neg (by rw [c1]; simp)]
  · rw [c1]
    show (ds.deed 2 st.f.toNat []).s st.f.toNat = _
    rw [deed_s, if_neg (by decide), if_neg (by decide)]
theorem open_ok {ds : DS} {f : Int} {rs : List JRec} (h : DOk ds f (framesF rs)) (hg : ∀ r ∈ rs, GoodR r) : openF ds f = ⟨f, rs, (framesF rs).length, false, false⟩ := by
  unfold openF
  rw [h.b, parse_whole hg]
  simp
/-- the first records of a row -/
def recsN (A : Nat → JRec) (k : Nat) : List JRec := (List.range k).map A
theorem recsN_succ (A : Nat → JRec) (k : Nat) : recsN A (k + 1) = recsN A k ++ [A k] := by unfold recsN; rw [List.range_succ, List.map_append]; rfl
theorem recsN_len (A : Nat → JRec) (k : Nat) : (recsN A k).length = k := by simp [recsN]
theorem frames_snoc (l : List JRec) (r : JRec) : framesF (l ++ [r]) = framesF l ++ frameF r := by rw [frames_append, frames_one]
theorem frame_le {r : JRec} (hg : -9223372036854775808 ≤ r.1 ∧ r.1 ≤ 9223372036854775807) : (frameF r).length ≤ r.2.length + 18 := by
  rw [frame_len]
  have := putI_len hg
  unfold bodyF
  simp
  omega
end Go.Proofs.YtomhfnaekjmjnaaDoor
