/- A disk that was made: its calls; and a small play. No condition. -/
import Derived.Test.YtomhfnaekjmjnaaDoorMaj
import Derived.Test.YtomhfnaekjmjnaaDoorMak
import Derived.Lib.SlBytesConst
namespace Go.Proofs.YtomhfnaekjmjnaaDoor
set_option linter.unusedVariables false
open Go.ChangeShapes Go.WideShapes Go.ChangeAt Go.RowKit
attribute [local go_sem ↓] Go.wp_at_zero Go.wp_at_succ comesTo_value_eq comesTo_skip_eq comesTo_enter_eq

theorem append_dk {w : World} {D : Nat} {F : Nat → Prop} {st : DS} (h : Dk w D F st) (f : Int) (ad : Option Addr) (n c : Nat) (xs : List Int) (hn : n = xs.length) (hX : ∀ w', Fr F w w' → TxtAt w' (.slice ad n c) xs) (hxl : xs.length ≤ 140737487306752) :
    Calls Tryd.prog 33 #[.pointer (some ⟨D, 0, none⟩), .int .i64 f, .slice ad n c] w fun e w' => CallEnd 0 w D F st f xs e w' := by
  have K := Lib.hid (call0_dk h f ad n c xs hn hX hxl)
  clear h hX hn hxl
  go_enter Tryd.func33, Tryd.ntmps33
  go_wp2_with fail
  refine K.out.mono ?_
  rintro e w' ⟨rfl, h⟩
  go_wp2_with fail
  go_ret
  exact ⟨rfl, h⟩
theorem sync_dk {w : World} {D : Nat} {F : Nat → Prop} {st : DS} (h : Dk w D F st) (f : Int) :
    Calls Tryd.prog 49 #[.pointer (some ⟨D, 0, none⟩), .int .i64 f] w fun e w' => CallEnd 1 w D F st f [] e w' := by
  have K := Lib.hid (call1_dk h f)
  clear h
  go_enter Tryd.func49, Tryd.ntmps49
  go_wp2_with fail
  refine K.out.mono ?_
  rintro e w' ⟨rfl, h⟩
  go_wp2_with fail
  go_ret
  exact ⟨rfl, h⟩
theorem reset_dk {w : World} {D : Nat} {F : Nat → Prop} {st : DS} (h : Dk w D F st) (f : Int) :
    Calls Tryd.prog 37 #[.pointer (some ⟨D, 0, none⟩), .int .i64 f] w fun e w' => CallEnd 2 w D F st f [] e w' := by
  have K := Lib.hid (call2_dk h f)
  clear h
  go_enter Tryd.func37, Tryd.ntmps37
  go_wp2_with fail
  refine K.out.mono ?_
  rintro e w' ⟨rfl, h⟩
  go_wp2_with fail
  go_ret
  exact ⟨rfl, h⟩
theorem Dk.bound {w : World} {D : Nat} {F : Nat → Prop} {st : DS} (h : Dk w D F st) : Dk w D (fun j => F j ∧ j < w.heap.size) st := by
  obtain ⟨hm, hft, hsf, hl, v, lf, ar, hb, hr, hx⟩ := h
  exact ⟨⟨hm, (Array.getElem?_eq_some_iff.1 hb).1⟩, hft, hsf, hl, v, lf, ar, hb, ⟨hr.own, fun k g hk hg => ⟨⟨(hr.foot k g hk hg).1, ownBlock_lt (hr.own k hk) hg⟩, (hr.foot k g hk hg).2⟩, hr.apart⟩, hx⟩
def keep1 : Nat → Int := fun k => if k = 1 then 1 else 0
theorem one_st : ((callF 0 newF 1 [120, 121, 122]).2 = 0) ∧ (fallF (callF 0 newF 1 [120, 121, 122]).1 keep1).b 1 = [120] ∧ (fallF (callF 0 newF 1 [120, 121, 122]).1 keep1).down = false := by decide
end Go.Proofs.YtomhfnaekjmjnaaDoor
