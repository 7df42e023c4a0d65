/- Levels (layer 10): runs over any visitor. What the visitor does is told by an invariant. -/
import Derived.Test.YthdljigcfhjikaaUsa
import Derived.Shelf.Abstract
namespace Go.Proofs.Ythdljigcfhjikaa
set_option linter.unusedVariables false
open Go.ChangeShapes Go.WideShapes Go.ChangeAt Go.RowKit
attribute [local go_sem ↓] Go.wp_at_zero Go.wp_at_succ comesTo_value_eq comesTo_skip_eq comesTo_enter_eq

/-- the end of the k-th step's span -/
def toU (L : List (Int × Int)) (k : Nat) : Int := if k + 1 < L.length then (L.getD (k + 1) (0, 0)).1 else 1099511627776
set_option maxRecDepth 100000 in
set_option maxHeartbeats 4000000 in
theorem runs_any {S g c : Nat} {L : List (Int × Int)} (hlen : L.length ≤ 1099511627776) (fn : FuncId) (caps : Array Value) (Inv : Nat → World → Prop) (Stop : World → Prop) (w : World) (hE : Go.Proofs.Enters Try.prog fn)
    (h0 : Inv 0 w)
    (hU : ∀ k W, Inv k W → W.cell? ⟨S, 0, none⟩ = some (.slice (some ⟨g, 0, none⟩) L.length c) ∧ URow W g L)
    (hB : ∀ k W W', Inv k W → Below W.heap.size W W' → Inv k W')
    (hC : ∀ k W, k < L.length → Inv k W → Calls Try.prog fn (#[.agg #[.int .i64 (L.getD k (0, 0)).1, .int .i64 (toU L k)], .int .i64 (L.getD k (0, 0)).2] ++ caps) W fun e w' => ∃ b : Bool, e = .returned (.bool b) ∧ (b = true → Inv (k + 1) w') ∧ (b = false → Stop w')) :
    Calls Try.prog 62 #[.pointer (some ⟨S, 0, none⟩), .func (.func fn) #[] caps] w fun e w' => (∃ v, e = .returned v) ∧ (Inv L.length w' ∨ Stop w') := by
  have c0 := (hU 0 w h0).1
  unfold Go.Proofs.Enters at hE
  have HC := Lib.hid hC
  have HU := Lib.hid hU
  have HB := Lib.hid hB
  have HI := Lib.hid h0
  clear hC hU hB h0
  go_enter Try.func62, Try.ntmps62
  go_wp2_with fail
  clear c0
  go_loopw [12] (fun i wr => ∃ k : Nat, k ≤ L.length ∧ i = .int .i64 k ∧ Inv k wr) (fun i _ => L.length - (intOf i).toNat)
  case atStart => exact ⟨0, Nat.zero_le _, rfl, HI.out⟩
  case round =>
    obtain ⟨k, hk, rfl, hinv⟩ := hrel
    have HV := Lib.hid hinv
    clear hinv HI
    by_cases hlt : k < L.length
    · have hd : decide (k < L.length) = true := decide_eq_true hlt
      have hkl : (k : Int) < (L.length : Int) := by omega
      have hr := (HU.out k wr HV.out).2 k hlt
      have c1 := hr.1
      have c2 := hr.2
      clear hr
      have hw1 : IntKind.i64.wrap ((k : Int) + 1) = (k : Int) + 1 := by rw [IntKind.wrap_i64]; omega
      have hHC := HC.out k
      have hTO := Lib.hid (show toU L k = if k + 1 < L.length then (L.getD (k + 1) (0, 0)).1 else 1099511627776 from rfl)
      clear HC
      generalize toU L k = tq at hHC hTO
      have HC := Lib.hid hHC
      clear hHC
      generalize (L.getD k (0, 0)).1 = at1 at *
      generalize (L.getD k (0, 0)).2 = lv1 at *
      have HB1 := below_alloc (Below.refl _ wr) (.cells #[.int .i64 at1, .int .i64 lv1] 60)
      have hV1 := HB.out k wr _ HV.out HB1
      have hN := World.alloc_heap_new wr (.cells #[.int .i64 at1, .int .i64 lv1] 60)
      have c0 := (HU.out k _ HV.out).1
      have c3 := (HU.out k _ hV1).1
      have e0 := cell_of_block (o := 0) hN rfl
      have e1 := cell_of_block (o := 1) hN rfl
      clear hN HB1
      go_upto_region 4 with fail
      clear c0 c1 c2
      generalize wr.alloc (.cells #[.int .i64 at1, .int .i64 lv1] 60) = WW at *
      by_cases hn : k + 1 < L.length
      · have hdn : decide ((k : Int) + 1 < (L.length : Int)) = true := decide_eq_true (by omega)
        have hn2 : ((k : Int) + 1) < (L.length : Int) := by omega
        have hto : tq = (L.getD (k + 1) (0, 0)).1 := by rw [hTO.out, if_pos hn]
        have c4 := ((HU.out k _ hV1).2 (k + 1) hn).1
        rw [← hto] at c4
        clear hTO hto
        go_upto_region 6 with fail
        go_wp2_with fail
        refine (HC.out WW hlt hV1).mono ?_
        rintro e w3 ⟨b, rfl, hyes, hno⟩
        cases b with
        | true =>
          have hv3 := Lib.hid (hyes rfl)
          clear hyes hno
          go_wp2_with fail
          go_roundw
          case rel => exact ⟨k + 1, by omega, by go_num, hv3.out⟩
          case measure => simp [intOf]; omega
        | false =>
          have hv3 := Lib.hid (hno rfl)
          clear hyes hno
          go_wp2_with fail
          exact bodyPost_ret (v := .tuple #[]) (by simp [results, Try.results62, go_sem]) rfl ⟨⟨_, rfl⟩, .inr hv3.out⟩
      · have hdn : decide ((k : Int) + 1 < (L.length : Int)) = false := decide_eq_false (by omega)
        obtain rfl : tq = 1099511627776 := by rw [hTO.out, if_neg hn]
        clear hTO
        go_upto_region 6 with fail
        go_wp2_with fail
        refine (HC.out WW hlt hV1).mono ?_
        rintro e w3 ⟨b, rfl, hyes, hno⟩
        cases b with
        | true =>
          have hv3 := Lib.hid (hyes rfl)
          clear hyes hno
          go_wp2_with fail
          go_roundw
          case rel => exact ⟨k + 1, by omega, by go_num, hv3.out⟩
          case measure => simp [intOf]; omega
        | false =>
          have hv3 := Lib.hid (hno rfl)
          clear hyes hno
          go_wp2_with fail
          exact bodyPost_ret (v := .tuple #[]) (by simp [results, Try.results62, go_sem]) rfl ⟨⟨_, rfl⟩, .inr hv3.out⟩
    · obtain rfl : k = L.length := by omega
      have hd : decide (L.length < L.length) = false := decide_eq_false (by omega)
      go_wp2_with fail
      exact bodyPost_end (v := .tuple #[]) (by simp [results, Try.results62, go_sem]) rfl ⟨⟨_, rfl⟩, .inl HV.out⟩
end Go.Proofs.Ythdljigcfhjikaa
