/-
  The example that each statement of layer 5 begins with holds: Make(2, 5) is 21, Next(11, 3) is 19.
-/
import Derived.Test.YtcgblaioobhakaaBallotB
import Derived.Below
namespace Go.Proofs.Ytcgblaioobhakaa
open Go.RowKit
set_option linter.unusedVariables false

theorem makeIs_21 : BM.MakeIs 2 5 21 0 := .inl ⟨by unfold BM.ok; omega, rfl, rfl⟩
theorem nextIs_11 : BM.NextIs 11 3 19 0 := .inl ⟨by unfold BM.asks; omega, by decide, by decide, rfl⟩
theorem alive_any (w : World) : Calls Try.prog 10 #[] w fun e w' => e = .returned (.bool true) ∧ w = w' := by
  have H1 := Lib.hid makeIs_21
  have H2 := Lib.hid nextIs_11
  go_enter Try.func10, Try.ntmps10
  go_wp2_with fail
  refine (make_any H1.out _).mono ?_
  rintro e w1 ⟨rfl, rfl⟩
  go_wp2_with fail
  refine (next_any H2.out _).mono ?_
  rintro e w1 ⟨rfl, rfl⟩
  go_wp2
  go_ret
  exact ⟨rfl, rfl⟩
end Go.Proofs.Ytcgblaioobhakaa
