/- An entry of a map that is there, found and stored into by its stamp; a map of numbers as a function. No condition. -/
import Derived.Maps.OwnSet
import Derived.Maps.Range
import Derived.WideKeyEntry
import Derived.Test.YtfakejfpicjedaaTmP
namespace Go.Proofs.Ytfakejfpicjedaa.Tm
set_option linter.unusedVariables false
open Go Go.ChangeShapes Go.WideShapes Go.MapKept Go.ChangeMaps Go.WideElems Go.Maps

section
variable {H : Type} {P : Program} {w : World} {t k e : TypeId} {R : Value → Option (DataW H × List MemPlace)} {b n : Nat} {D : DataW H}
/-- the entry of a key bears this stamp -/
def HasE (w : World) (b : Nat) (key : Value) (st : Nat) : Prop := ∃ es clock, w.heap[b]? = some (.map es clock) ∧ ∃ x ∈ es.toList, x.key = key ∧ x.born = st
theorem setBlock_self {w : World} {b : Nat} {o : Obj} (h : w.heap[b]? = some o) : setBlock w b o = w := by
  unfold setBlock
  have : w.heap.setIfInBounds b o = w.heap := by
    apply Array.ext_getElem?
    intro i
    rw [Array.getElem?_setIfInBounds]
    split
    · rename_i hi
      subst hi
      have := (Array.getElem?_eq_some_iff.1 h)
      split
      · exact h.symm
      · rename_i hn; exact absurd this.1 hn
    · rfl
  rw [this]
theorem entry_one {es : Array MapEntry} {clock : Nat} (F : Fit P k R es clock) {x y : MapEntry} (hx : x ∈ es.toList) (hy : y ∈ es.toList) (h : x.key = y.key) : x = y := by
  have hn : es.toList.Pairwise (fun x y => x.key ≠ y.key) := ((stamped_iff es clock).1 F.stamped).2.2
  exact Go.entry_eq_of_key hn hx hy h
/-- an entry that is there is found, and nothing turns -/
theorem entry_there (K : Keyed P k) (ht : P.underlying t = some (.map k e)) (h : w.ownsMap P k R b n D) {key : Value} {kl : Lit} (hkey : keyOf P k key = some kl) (hh : has D kl = true) {z : Value} (hz : (zeroValue e).run P w = .ok z w) {zd : DataW H} {zp : List MemPlace} (hzd : R z = some (zd, zp)) :
    ∃ st v ps, HasE w b key st ∧ R v = some (D.atKey kl zd, ps) ∧ (Instr.mapEntry t (.map (some b)) key).run P w = .ok (.tuple #[v, goInt st]) w := by
  obtain ⟨es, clock, hb, F, _, rfl⟩ := h
  rcases Maps.fit_look true K ht hz hb F hkey with ⟨_, _, hat⟩ | ⟨e0, y, he0, hk0, _, hRv, hat, _⟩
  · rw [Maps.has_false_of_atKey hat] at hh; cases hh
  · refine ⟨e0.born, e0.val, y.2, ⟨es, clock, hb, e0, he0, hk0, rfl⟩, by rw [hat zd]; exact hRv, ?_⟩
    rcases K.find w hkey es.toList F.keys with ⟨_, h2⟩ | ⟨j, e1, h1, h2, h3⟩
    · exact absurd hk0 (h2 e0 he0)
    · have e10 : e1 = e0 := entry_one F (List.mem_of_getElem? h2) he0 (h3.trans hk0.symm)
      subst e10
      have hj : es[j]? = some e1 := by simpa using h2
      have hsame : es.modify j (fun e => { e with key := key }) = es := by
        apply Array.ext'
        rw [Array.toList_modify, modify_eq_set _ _ _ _ h2]
        have : ({ e1 with key := key } : MapEntry) = e1 := by rw [← h3]
        rw [this]
        exact set_self _ _ _ h2
      have hs := setBlock_self hb
      unfold setBlock at hs
      simp [Instr.mapEntry, run_underlying ht, MapKept.run_getObj_map hb, K.check w false hkey, h1, hj, h3, K.stays w hkey, hsame, MapKept.run_setObj_map _ hb, Result.andThen, hs]
/-- the entry's value is stored by its stamp -/
theorem entry_put (K : Keyed P k) (ht : P.underlying t = some (.map k e)) (h : w.ownsMap P k R b n D) (hn : n < maxLen) {key : Value} {kl : Lit} (hkey : keyOf P k key = some kl) {st : Nat} (hst : HasE w b key st) {val : Value} {d : DataW H} {ps : List MemPlace} (hv : R val = some (d, ps)) :
    ∃ w', (Instr.entryStore t (.map (some b)) (goInt st) val).run P w = .ok () w' ∧ w'.ownsMap P k R b (n + 1) (D.put kl d) ∧ w.mapTurned w' b ∧ ∀ key' st', HasE w b key' st' → HasE w' b key' st' := by
  obtain ⟨w', e1, e2, e3⟩ := h.store K ht hn hkey hv
  obtain ⟨es, clock, hb, F, _, _⟩ := h
  obtain ⟨es', clock', hb', x, hx, hxk, hxb⟩ := hst
  rw [hb] at hb'
  injection hb' with hb'
  injection hb' with hb1 hb2
  subst hb1 hb2
  obtain ⟨s1, s2, _⟩ := F.stamped
  rcases K.find w hkey es.toList F.keys with ⟨_, h2⟩ | ⟨j, e0, h1, h2, h3⟩
  · exact absurd hxk (h2 x hx)
  · have e10 : e0 = x := entry_one F (List.mem_of_getElem? h2) hx (h3.trans hxk.symm)
    subst e10
    have hj : es[j]? = some e0 := by simpa using h2
    have hidx : es.findIdx? (fun e => ((e.born : Nat) : Int) == ((e0.born : Nat) : Int)) = some j := by
      rw [findIdx_arr]
      exact findIdx_born s2 h2
    have hmod : es.modify j (fun e => { e with val := val }) = es.modify j (fun e' => { e' with key := key, val := val }) := by
      apply Array.ext'
      rw [Array.toList_modify, Array.toList_modify, modify_eq_set _ _ _ _ h2, modify_eq_set _ _ _ _ h2, ← h3]
    have hu : (Instr.mapUpdate t (.map (some b)) key val).run P w = .ok () (setBlock w b (.map (es.modify j (fun e' => { e' with key := key, val := val })) clock)) := by
      simp [Instr.mapUpdate, run_underlying ht, MapKept.run_getObj_map hb, K.check w false hkey, h1, hj, h3, K.stays w hkey, MapKept.run_setObj_map _ hb, Result.andThen, setBlock]
    rw [hu] at e1
    injection e1 with _ e1
    subst e1
    refine ⟨_, ?_, e2, e3, fun key' st' hs => ?_⟩
    · rw [← hxb]
      simp [Instr.entryStore, MapKept.run_getObj_map hb, asInt, asIntOf, goInt, hidx, hmod, MapKept.run_setObj_map _ hb, Result.andThen, setBlock]
    · obtain ⟨es2, c2, hb2, y, hy, hyk, hyb⟩ := hs
      rw [hb] at hb2
      injection hb2 with hb2
      injection hb2 with g1 g2
      subst g1 g2
      refine ⟨_, _, heap_setBlock_same hb _, ?_⟩
      by_cases hye : y = e0
      · subst hye
        refine ⟨{ y with key := key, val := val }, ?_, by rw [← hyk, h3], hyb⟩
        rw [Array.toList_modify, modify_eq_set _ _ _ _ h2]
        have hlt : j < es.toList.length := by
          rcases Nat.lt_or_ge j es.toList.length with h | h
          · exact h
          · rw [List.getElem?_eq_none h] at h2; cases h2
        exact List.mem_set hlt _
      · refine ⟨y, ?_, hyk, hyb⟩
        rw [Array.toList_modify, modify_eq_set _ _ _ _ h2]
        obtain ⟨i, hi, hiy⟩ := List.getElem_of_mem hy
        have hij : i ≠ j := by
          rintro rfl
          rw [List.getElem?_eq_getElem hi] at h2
          injection h2 with h2
          exact hye (hiy.symm.trans h2)
        have hi2 : i < (es.toList.set j { e0 with key := key, val := val }).length := by simpa using hi
        have := List.getElem_mem hi2
        rw [List.getElem_set, if_neg (fun h => hij h.symm), hiy] at this
        exact this
theorem own_tightM (h : w.ownsMap P k R b n D) : w.ownsMap P k R b (Maps.size D) D := by
  obtain ⟨es, clock, hb, F, _, rfl⟩ := h
  refine ⟨es, clock, hb, F, ?_, rfl⟩
  unfold Maps.size
  simp only
  rw [length_sorted]
  simp
end
end Go.Proofs.Ytfakejfpicjedaa.Tm
