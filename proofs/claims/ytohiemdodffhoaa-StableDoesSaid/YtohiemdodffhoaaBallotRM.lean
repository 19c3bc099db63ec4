/-
  What towncrierref05.May answers, of any number. Conditions: none.
-/
import Derived.Test.YtohiemdodffhoaaProg
import Derived.Test.YtohiemdodffhoaaBallotMath
import Derived.Lib.Hide
import Derived.Lib.MinMax
import Derived.WalkKit
namespace Go.Proofs.Ytohiemdodffhoaa
open Go.RowKit
set_option linter.unusedVariables false

theorem rMay_yes (b : Int) (w : World) (h : BM.good b) : Calls Try.prog 74 #[.int .i64 b] w fun e w' => e = .returned (.bool true) ∧ w = w' := by
  obtain ⟨h0, h1, h2⟩ := h
  go_enter Try.func74, Try.ntmps74
  go_wp2
  go_ret
  exact ⟨by simp; try omega, rfl⟩
theorem rMay_no (b : Int) (w : World) (h : ¬ BM.good b) : Calls Try.prog 74 #[.int .i64 b] w fun e w' => e = .returned (.bool false) ∧ w = w' := by
  rcases (show b < 8 ∨ (8 ≤ b ∧ 8388613 < b) ∨ (8 ≤ b ∧ b ≤ 8388613 ∧ 6 ≤ b % 8) by unfold BM.good at h; omega) with h1 | ⟨h1, h2⟩ | ⟨h1, h2, h3⟩
  all_goals
    clear h
    go_enter Try.func74, Try.ntmps74
    go_wp2
    go_ret
    exact ⟨by simp; try omega, rfl⟩
end Go.Proofs.Ytohiemdodffhoaa
