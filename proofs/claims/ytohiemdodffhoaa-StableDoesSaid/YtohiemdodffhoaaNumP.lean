/-
  What num.mayBeWritten and num.Put do. Conditions: as each theorem says.
-/
import Derived.Test.YtohiemdodffhoaaNumA
namespace Go.Proofs.Ytohiemdodffhoaa
open Go.RowKit
set_option linter.unusedVariables false
set_option maxRecDepth 100000

theorem may_any (n : Int) (w : World) (h : 0 ≤ n ∧ n ≤ 1099511627776) :
    Calls Try.prog 89 #[.int .i64 n] w fun e w' => e = .returned (.bool true) ∧ w = w' := by
  obtain ⟨h1, h2⟩ := h
  go_enter Try.func89, Try.ntmps89
  go_wp2
  go_ret
  exact ⟨rfl, rfl⟩
theorem may_not (n : Int) (w : World) (h : ¬ (0 ≤ n ∧ n ≤ 1099511627776)) :
    Calls Try.prog 89 #[.int .i64 n] w fun e w' => e = .returned (.bool false) ∧ w = w' := by
  by_cases h1 : 0 ≤ n
  · have h2 : decide (n ≤ 1099511627776) = false := by simp; omega
    clear h
    go_enter Try.func89, Try.ntmps89
    go_wp2
    go_ret
    exact ⟨rfl, rfl⟩
  · have h2 : n < 0 := by omega
    clear h h1
    go_enter Try.func89, Try.ntmps89
    go_wp2
    go_ret
    exact ⟨rfl, rfl⟩

/-- a number that may be written: its bytes -/
theorem put_ok (n : Nat) (w : World) (hn : n ≤ 1099511627776) :
    Calls Try.prog 65 #[.int .i64 n] w fun e w' => ∃ v, e = .returned (.tuple #[v, .int .i64 0]) ∧ w'.ownsRow w.heap.size 5 1 v (NM.enc n).length (bc (NM.enc n)) ∧ Below w.heap.size w w' := by
  go_enter Try.func65, Try.ntmps65
  go_wp2_with (first
    | (go_at_call 89; refine (may_any _ _ ⟨by omega, by omega⟩).mono ?_; rintro e w' ⟨rfl, rfl⟩)
    | (go_at_call 90; refine (appendNumber_any w.heap.size _ 0 [] n _ hn (by omega) (World.ownsRow_nil _ _ _ _) (Nat.le_refl _)).mono ?_; rintro e w' ⟨v', rfl, hown, hg, hob⟩))
  go_ret2
  exact ⟨v', rfl, by simpa using hown, below_of_grown hg (by simp [Value.ownBlock])⟩
theorem put_no (n : Int) (w : World) (hn : ¬ (0 ≤ n ∧ n ≤ 1099511627776)) :
    Calls Try.prog 65 #[.int .i64 n] w fun e w' => e = .returned (.tuple #[.slice none 0 0, .int .i64 2]) ∧ w = w' := by
  go_enter Try.func65, Try.ntmps65
  go_wp2_with (go_at_call 89; refine (may_not _ _ hn).mono ?_; rintro e w' ⟨rfl, rfl⟩)
  go_ret2
  exact ⟨rfl, rfl⟩
end Go.Proofs.Ytohiemdodffhoaa
