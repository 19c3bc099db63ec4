/-
  The example that each statement begins with holds: Put(128) answers the bytes 128 and 1.
-/
import Derived.Test.YtffikjepeoeimaaNumA
namespace Go.Proofs.Ytffikjepeoeimaa
open Go.RowKit
set_option linter.unusedVariables false

/-- Put's answer as a slice -/
theorem put_rd (n : Nat) (l : List UInt8) (k : Nat) (w : World) (hn : n ≤ 1099511627776) (hl : NM.enc n = l) (hk : l.length = k) :
    Calls Try.prog 9 #[.int .i64 n] w fun e w' => ∃ A c, e = .returned (.tuple #[.slice A k c, .int .i64 0]) ∧ Rd w' A k (bc l) ∧ k ≤ c ∧ c ≤ maxLen ∧ Below w.heap.size w w' := by
  subst hl
  subst hk
  refine (put_ok n w hn).mono ?_
  rintro e w' ⟨v, rfl, ho, hb⟩
  obtain ⟨A, c, rfl, h1, h2⟩ := own_slice ho
  exact ⟨A, c, rfl, Rd.of_own ho, h1, h2, hb⟩

theorem alive_any (w : World) : Calls Try.prog 14 #[] w fun e w' => e = .returned (.bool true) ∧ Below w.heap.size w w' := by
  have hp := put_rd 128 [128, 1] 2 w (by omega) (by decide) rfl
  have HP := Lib.hid hp; clear hp
  go_enter Try.func14, Try.ntmps14
  go_wp2_with (go_at_call 9; refine (HP.out).mono ?_; rintro e w1 ⟨A1, c1, rfl, hr1, hc1, hm1, hb1⟩; have hs1 := run_string_of (P := Try.prog) w1 22 9 5 A1 _ c1 _ Try.underlying22 Try.underlying5 Try.underlying9 hr1)
  go_ret
  exact ⟨rfl, hb1⟩
end Go.Proofs.Ytffikjepeoeimaa
