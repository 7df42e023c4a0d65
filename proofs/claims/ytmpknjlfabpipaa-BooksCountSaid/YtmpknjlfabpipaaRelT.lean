/- The law of regions told by relations, as a walk of the text. The conditions: the edges' checks, by computation. -/
import Derived.Test.YtmpknjlfabpipaaRel
namespace Go.Proofs.Ytmpknjlfabpipaa
set_option linter.unusedVariables false
open Go Go.RowKit
namespace Rl
section
variable {P : Program} {ops : Array Oper} {md : Region.Mode} {Gr : World → World → Prop} {W0 : World}

/-- what is known of the slots that an operation looks at -/
def deps (ops : Array Oper) (G : List (Tmp × Rel)) (o : Oper) (ρ : Tmp → Value) (w : World) : Prop := ∀ e ∈ G, e.1 ∈ o.looksAt ops → e.2 (ρ e.1) w
/-- the operations of the text, one behind the other -/
def textR (P : Program) (ops : Array Oper) (Gr : World → World → Prop) (W0 : World) (Q : List (Tmp × Rel) → ((Tmp → Value) → Act) → Prop) : List Oper → List (Tmp × Rel) → ((Tmp → Value) → Act) → Prop
  | [], G, F => Q G F
  | o :: rest, G, F =>
    (∃ v, (∀ ρ w, Gr W0 w → deps ops G o ρ w → (Region.wanted o (yielded ops (F ρ).tmps) = true ∧ comesToR P (fun u w' => u = v ∧ Gr w w') ((execOp (F ρ).eval o).run P w)) ∨ (Region.wanted o (yielded ops (F ρ).tmps) = false ∧ v = undef)) ∧
      textR P ops Gr W0 Q rest G (fun ρ => (F ρ).put o.dst v)) ∨
    ∃ (d : Tmp) (R : Rel), o.dst = some d ∧ (∀ v w w', Gr w w' → R v w → R v w') ∧
      (∀ ρ w, Gr W0 w → deps ops G o ρ w → Region.wanted o (yielded ops (F ρ).tmps) = true ∧ comesToR P (fun u w' => R u w' ∧ Gr w w') ((execOp (F ρ).eval o).run P w)) ∧
      textR P ops Gr W0 Q rest ((d, R) :: G) (fun ρ => (F ρ).put (some d) (ρ d))
theorem textR_nil {Q : List (Tmp × Rel) → ((Tmp → Value) → Act) → Prop} {G : List (Tmp × Rel)} {F : (Tmp → Value) → Act} (h : Q G F) : textR P ops Gr W0 Q [] G F := h
theorem textR_run {Q : List (Tmp × Rel) → ((Tmp → Value) → Act) → Prop} {o : Oper} {rest : List Oper} {G : List (Tmp × Rel)} {F : (Tmp → Value) → Act} (v : Value) (hw : ∀ ρ, Region.wanted o (yielded ops (F ρ).tmps) = true)
    (hy : ∀ ρ w, Gr W0 w → deps ops G o ρ w → comesToR P (fun u w' => u = v ∧ Gr w w') ((execOp (F ρ).eval o).run P w)) (h : textR P ops Gr W0 Q rest G (fun ρ => (F ρ).put o.dst v)) : textR P ops Gr W0 Q (o :: rest) G F :=
  .inl ⟨v, fun ρ w hg hd => .inl ⟨hw ρ, hy ρ w hg hd⟩, h⟩
theorem textR_skip {Q : List (Tmp × Rel) → ((Tmp → Value) → Act) → Prop} {o : Oper} {rest : List Oper} {G : List (Tmp × Rel)} {F : (Tmp → Value) → Act} (hw : ∀ ρ, Region.wanted o (yielded ops (F ρ).tmps) = false)
    (h : textR P ops Gr W0 Q rest G (fun ρ => (F ρ).put o.dst undef)) : textR P ops Gr W0 Q (o :: rest) G F :=
  .inl ⟨undef, fun ρ w hg hd => .inr ⟨hw ρ, rfl⟩, h⟩
theorem textR_rel {Q : List (Tmp × Rel) → ((Tmp → Value) → Act) → Prop} {o : Oper} {rest : List Oper} {G : List (Tmp × Rel)} {F : (Tmp → Value) → Act} (d : Tmp) (R : Rel) (hd : o.dst = some d) (hs : ∀ v w w', Gr w w' → R v w → R v w') (hw : ∀ ρ, Region.wanted o (yielded ops (F ρ).tmps) = true)
    (hy : ∀ ρ w, Gr W0 w → deps ops G o ρ w → comesToR P (fun u w' => R u w' ∧ Gr w w') ((execOp (F ρ).eval o).run P w)) (h : textR P ops Gr W0 Q rest ((d, R) :: G) (fun ρ => (F ρ).put (some d) (ρ d))) : textR P ops Gr W0 Q (o :: rest) G F :=
  .inr ⟨d, R, hd, hs, fun ρ w hg hd => ⟨hw ρ, hy ρ w hg hd⟩, h⟩

theorem lookup_mem : ∀ (G : List (Tmp × Rel)), (G.map (·.1)).Nodup → ∀ e ∈ G, G.lookup e.1 = some e.2
  | [], _, e, he => by cases he
  | (d, R) :: G, hn, e, he => by
    rw [List.map_cons, List.nodup_cons] at hn
    rcases List.mem_cons.1 he with rfl | he
    · simp
    · have hne : ¬ e.1 = d := fun h => hn.1 (List.mem_map.2 ⟨e, he, h⟩)
      rw [lookup_ne hne]
      exact lookup_mem G hn.2 e he
theorem mem_lookup : ∀ (G : List (Tmp × Rel)) (d : Tmp) (R : Rel), G.lookup d = some R → (d, R) ∈ G
  | [], d, R, h => by simp at h
  | (d', R') :: G, d, R, h => by
    by_cases hne : d = d'
    · subst hne
      simp at h
      subst h
      exact List.mem_cons_self
    · rw [lookup_ne hne] at h
      exact List.mem_cons_of_mem _ (mem_lookup G d R h)
/-- what the walk of the text gives -/
theorem textR_get (dd : ∀ (i j : Nat) (oi oj : Oper) (d : Tmp), ops[i]? = some oi → ops[j]? = some oj → oi.dst = some d → oj.dst = some d → i = j) {Q : List (Tmp × Rel) → ((Tmp → Value) → Act) → Prop} :
    ∀ (l : List Oper) (k : Nat) (G : List (Tmp × Rel)) (F0 : (Tmp → Value) → Act), (∀ j : Nat, l[j]? = ops[k + j]?) → k + l.length = ops.size → (G.map (·.1)).Nodup → (∀ e ∈ G, ∃ (j : Nat) (oj : Oper), j < k ∧ ops[j]? = some oj ∧ oj.dst = some e.1) → textR P ops Gr W0 Q l G F0 →
    ∃ (RR : Tmp → Option Rel) (vals : Nat → Value) (F : Nat → (Tmp → Value) → Act) (Gf : List (Tmp × Rel)), F k = F0 ∧
      (∀ (i : Nat) (o : Oper), k ≤ i → ops[i]? = some o → o.dst.bind RR = none → F (i + 1) = (fun ρ => (F i ρ).put o.dst (vals i)) ∧ ∀ ρ w, Gr W0 w →
        (∀ (j : Nat) (oj : Oper) (d : Tmp) (R : Rel), j < i → ops[j]? = some oj → oj.dst = some d → d ∈ o.looksAt ops → RR d = some R → R (ρ d) w) →
        (Region.wanted o (yielded ops (F i ρ).tmps) = true ∧ comesToR P (fun u w' => u = vals i ∧ Gr w w') ((execOp (F i ρ).eval o).run P w)) ∨ (Region.wanted o (yielded ops (F i ρ).tmps) = false ∧ vals i = undef)) ∧
      (∀ (i : Nat) (o : Oper) (d : Tmp) (R : Rel), k ≤ i → ops[i]? = some o → o.dst = some d → RR d = some R → F (i + 1) = (fun ρ => (F i ρ).put (some d) (ρ d)) ∧ (∀ v w w', Gr w w' → R v w → R v w') ∧ ∀ ρ w, Gr W0 w →
        (∀ (j : Nat) (oj : Oper) (d : Tmp) (R : Rel), j < i → ops[j]? = some oj → oj.dst = some d → d ∈ o.looksAt ops → RR d = some R → R (ρ d) w) →
        Region.wanted o (yielded ops (F i ρ).tmps) = true ∧ comesToR P (fun u w' => R u w' ∧ Gr w w') ((execOp (F i ρ).eval o).run P w)) ∧
      (∀ e ∈ Gf, RR e.1 = some e.2 ∧ (e ∈ G ∨ ∃ (j : Nat) (oj : Oper), k ≤ j ∧ ops[j]? = some oj ∧ oj.dst = some e.1)) ∧ (∀ e ∈ G, e ∈ Gf) ∧ (∀ d R, RR d = some R → (d, R) ∈ Gf) ∧ Q Gf (F ops.size)
  | [], k, G, F0, hl, hk, hn, hG, h => by
    have hk' : k = ops.size := by simpa using hk
    refine ⟨fun d => G.lookup d, fun _ => undef, fun _ => F0, G, rfl, fun i o hi ho _ => ?_, fun i o d R hi ho _ _ => ?_, fun e he => ⟨lookup_mem G hn e he, .inl he⟩, fun e he => he, fun d R hR => mem_lookup G d R hR, h⟩
    · have := (Array.getElem?_eq_some_iff.1 ho).1; omega
    · have := (Array.getElem?_eq_some_iff.1 ho).1; omega
  | o :: rest, k, G, F0, hl, hk, hn, hG, h => by
    have ho : ops[k]? = some o := by simpa using (hl 0).symm
    have hl' : ∀ j : Nat, rest[j]? = ops[k + 1 + j]? := fun j => by have := hl (j + 1); simpa [Nat.add_assoc, Nat.add_comm 1 j] using this
    have hk' : k + 1 + rest.length = ops.size := by simp only [List.length_cons] at hk; omega
    have hkey : ∀ d, o.dst = some d → ∀ e ∈ G, e.1 ≠ d := fun d hd e he hed => by
      obtain ⟨j, oj, hj, hoj, hdj⟩ := hG e he
      have := dd j k oj o d hoj ho (by rw [hdj, hed]) hd
      omega
    have hdeps : ∀ {RR : Tmp → Option Rel} {Gf : List (Tmp × Rel)}, (∀ e ∈ G, e ∈ Gf) → (∀ e ∈ Gf, RR e.1 = some e.2) → ∀ (ρ : Tmp → Value) (w : World),
        (∀ (j : Nat) (oj : Oper) (d : Tmp) (R : Rel), j < k → ops[j]? = some oj → oj.dst = some d → d ∈ o.looksAt ops → RR d = some R → R (ρ d) w) → deps ops G o ρ w := fun h1 h2 ρ w h3 e he hlk => by
      obtain ⟨j, oj, hj, hoj, hdj⟩ := hG e he
      exact h3 j oj e.1 e.2 hj hoj hdj hlk (h2 e (h1 e he))
    rcases h with ⟨v, hy, h⟩ | ⟨d, R, hd, hs, hy, h⟩
    · obtain ⟨RR, vals, F, Gf, hF, h1, h2, h3, h4, h5, h6⟩ := textR_get dd rest (k + 1) G _ hl' hk' hn (fun e he => by obtain ⟨j, oj, hj, hr⟩ := hG e he; exact ⟨j, oj, by omega, hr⟩) h
      have hout : ∀ d R, o.dst = some d → RR d = some R → False := fun d R hd hR => by
        rcases (h3 _ (h5 d R hR)).2 with he | ⟨j, oj, hj, hoj, hdj⟩
        · exact hkey d hd _ he rfl
        · have := dd j k oj o d hoj ho hdj hd
          omega
      refine ⟨RR, fun i => if i = k then v else vals i, fun i => if i = k then F0 else F i, Gf, by simp, fun i oi hi hoi hb => ?_, fun i oi d R hi hoi hd hR => ?_, fun e he => ⟨(h3 e he).1, ?_⟩, h4, h5, ?_⟩
      · by_cases hik : i = k
        · subst hik
          obtain rfl : o = oi := Option.some.inj (ho.symm.trans hoi)
          simp only [if_true, show i + 1 ≠ i by omega, if_false, hF]
          exact ⟨(by first | trivial | rfl), fun ρ w hg hp => hy ρ w hg (hdeps h4 (fun e he => (h3 e he).1) ρ w hp)⟩
        · have := h1 i oi (by omega) hoi hb
          simpa only [hik, if_false, show i + 1 ≠ k by omega] using this
      · by_cases hik : i = k
        · subst hik
          obtain rfl : o = oi := Option.some.inj (ho.symm.trans hoi)
          exact (hout d R hd hR).elim
        · have := h2 i oi d R (by omega) hoi hd hR
          simpa only [hik, if_false, show i + 1 ≠ k by omega] using this
      · rcases (h3 e he).2 with h | ⟨j, oj, hj, hr⟩
        · exact .inl h
        · exact .inr ⟨j, oj, by omega, hr⟩
      · have : ops.size ≠ k := by have := (Array.getElem?_eq_some_iff.1 ho).1; omega
        simpa only [this, if_false] using h6
    · obtain ⟨RR, vals, F, Gf, hF, h1, h2, h3, h4, h5, h6⟩ := textR_get dd rest (k + 1) ((d, R) :: G) _ hl' hk' (by
          rw [List.map_cons, List.nodup_cons]
          exact ⟨fun hm => by obtain ⟨e, he, hed⟩ := List.mem_map.1 hm; exact hkey d hd e he hed, hn⟩) (fun e he => by
          rcases List.mem_cons.1 he with rfl | he
          · exact ⟨k, o, by omega, ho, hd⟩
          · obtain ⟨j, oj, hj, hr⟩ := hG e he; exact ⟨j, oj, by omega, hr⟩) h
      have hRd : RR d = some R := (h3 _ (h4 _ List.mem_cons_self)).1
      refine ⟨RR, vals, fun i => if i = k then F0 else F i, Gf, by simp, fun i oi hi hoi hb => ?_, fun i oi d' R' hi hoi hd' hR' => ?_, fun e he => ⟨(h3 e he).1, ?_⟩, fun e he => h4 e (List.mem_cons_of_mem _ he), h5, ?_⟩
      · by_cases hik : i = k
        · subst hik
          obtain rfl : o = oi := Option.some.inj (ho.symm.trans hoi)
          rw [hd] at hb
          simp only [Option.bind_some, hRd] at hb
          cases hb
        · have := h1 i oi (by omega) hoi hb
          simpa only [hik, if_false, show i + 1 ≠ k by omega] using this
      · by_cases hik : i = k
        · subst hik
          obtain rfl : o = oi := Option.some.inj (ho.symm.trans hoi)
          obtain rfl : d = d' := Option.some.inj (hd.symm.trans hd')
          obtain rfl : R = R' := Option.some.inj (hRd.symm.trans hR')
          simp only [if_true, show i + 1 ≠ i by omega, if_false, hF]
          exact ⟨(by first | trivial | rfl), hs, fun ρ w hg hp => hy ρ w hg (hdeps (fun e he => h4 e (List.mem_cons_of_mem _ he)) (fun e he => (h3 e he).1) ρ w hp)⟩
        · have := h2 i oi d' R' (by omega) hoi hd' hR'
          simpa only [hik, if_false, show i + 1 ≠ k by omega] using this
      · rcases (h3 e he).2 with h | ⟨j, oj, hj, hr⟩
        · rcases List.mem_cons.1 h with rfl | h
          · exact .inr ⟨k, o, by omega, ho, hd⟩
          · exact .inl h
        · exact .inr ⟨j, oj, by omega, hr⟩
      · have : ops.size ≠ k := by have := (Array.getElem?_eq_some_iff.1 ho).1; omega
        simpa only [this, if_false] using h6
/-- what is known in the end -/
def ends (Gr : World → World → Prop) (W0 : World) (Q : Exit → Act → World → Prop) (G : List (Tmp × Rel)) (F : (Tmp → Value) → Act) : Prop :=
  ∀ ρ w, Gr W0 w → (∀ e ∈ G, e.2 (ρ e.1) w) → Q .normal (F ρ) w
/-- A REGION TOLD BY RELATIONS. -/
theorem wp_region_rel {id : Nat} {Q : Exit → Act → World → Prop} {a : Act} {w : World} {l : List Oper} (Gr : World → World → Prop) (W0 : World) (gt : ∀ a b c, Gr a b → Gr b c → Gr a c) (gr : ∀ a, Gr a a) (hm : P.follows .mixedOrders = true) (hB : relB .any l.toArray = true)
    (h0 : Gr W0 w.drew) (h : textR P l.toArray Gr W0 (ends Gr W0 Q) l [] (fun _ => a)) : (Code.region id l.toArray true).wp P Q a w := by
  have ok := relB_spec hB
  obtain ⟨RR, vals, F, Gf, hF, h1, h2, h3, _, h5, h6⟩ := textR_get (ops := l.toArray) ok.dd l 0 [] (fun _ => a) (fun j => by simp) (by simp) List.nodup_nil (fun e he => by cases he) h
  have K : Known P l.toArray Gr W0 RR vals F := ⟨fun ρ ρ' => by rw [hF], fun i o hi hb => h1 i o (Nat.zero_le _) hi hb, fun i o d R hi hd hR => h2 i o d R (Nat.zero_le _) hi hd hR⟩
  refine wp_region_any hm ?_
  have ha : F 0 (fun _ => undef) = a := by rw [hF]
  rw [← ha]
  refine wpAny_of_inv gt gr ok K (fun ρ listed a' w' inv hall => ?_) l.toArray.size (fun _ => undef) _ _ _ ?_ ⟨by simp, fun j oj _ hl => (by rw [getD_replicate_false] at hl; cases hl), ?_, h0, fun i o d R _ _ _ hl => (by rw [getD_replicate_false] at hl; cases hl)⟩
  · have hfin : a' = F l.toArray.size ρ := by
      refine inv.agr.unique (K.agr ok ρ l.toArray.size (Nat.le_refl _)) fun i o d hi hd => ⟨⟨fun _ => (Array.getElem?_eq_some_iff.1 hi).1, fun _ => hall i (Array.getElem?_eq_some_iff.1 hi).1⟩, fun _ => rfl⟩
    rw [hfin]
    refine h6 ρ w' inv.on fun e he => ?_
    obtain ⟨hR, hsrc⟩ := h3 e he
    rcases hsrc with h | ⟨j, oj, _, hj, hd⟩
    · cases h
    · exact inv.known j oj e.1 e.2 hj hd hR (hall j (Array.getElem?_eq_some_iff.1 hj).1)
  · unfold leftN
    have := List.countP_le_length (p := fun i => !(Array.replicate l.toArray.size false).getD i true) (l := List.range l.toArray.size)
    simpa using this
  · exact (Agr.refl (valR l.toArray RR vals fun _ => undef) _).congr (fun i o d _ _ => ⟨fun h => h.elim, fun h => by rw [getD_replicate_false] at h; cases h⟩) (fun _ _ _ _ _ h => h.elim)
end
end Rl
end Go.Proofs.Ytmpknjlfabpipaa
