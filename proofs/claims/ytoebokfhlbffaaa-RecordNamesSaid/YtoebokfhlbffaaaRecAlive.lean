/-
  The example that each statement of layer 10 begins with holds: alive. No input.
-/
import Derived.Test.YtoebokfhlbffaaaRecW
namespace Go.Proofs.Ytoebokfhlbffaaa.RP
open Go.RowKit
set_option linter.unusedVariables false

theorem may_live : RM.may ⟨1, 1, 2, 17, .empty⟩ := by decide +kernel
theorem alive_any (w : World) : Calls Try.prog 9 #[] w fun e w' => e = .returned (.bool true) ∧ Below w.heap.size w w' := by
  have CW := Lib.hid (fun w => write_any 1 1 2 17 .empty (show RM.WrIs ⟨1, 1, 2, 17, .empty⟩ ⟨#[1, 1, 2, 17]⟩ 0 from .inl ⟨may_live, by decide +kernel, rfl⟩) (by omega) (by omega) (by decide) w)
  go_enter Try.func9, Try.ntmps9
  go_wp2_with fail
  refine (CW.out _).mono ?_
  rintro e w1 ⟨rfl, hb⟩
  go_wp2_with fail
  go_ret
  exact ⟨by rfl, hb⟩
end Go.Proofs.Ytoebokfhlbffaaa.RP
