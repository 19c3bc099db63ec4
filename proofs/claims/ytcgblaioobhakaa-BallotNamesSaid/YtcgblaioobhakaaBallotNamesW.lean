/-
  The walk of BallotNames: the limits and errors have their numbers, the chapter's examples are so. No input.
-/
import Derived.Test.YtcgblaioobhakaaBallotAlive
namespace Go.Proofs.Ytcgblaioobhakaa
open Go.RowKit
set_option linter.unusedVariables false

theorem bn_1 : BM.MakeIs 1 0 8 0 := .inl ⟨by unfold BM.ok; omega, rfl, rfl⟩
theorem bn_2 : BM.OfIs 21 2 5 0 := .inl ⟨by unfold BM.good; omega, by omega, by omega, rfl⟩
theorem bn_3 : BM.NextIs 0 3 11 0 := .inl ⟨by unfold BM.asks; omega, by decide, by decide, rfl⟩
theorem bn_4 : BM.NextIs 10 3 11 0 := .inl ⟨by unfold BM.asks; omega, by decide, by decide, rfl⟩
theorem bn_5 : BM.NextIs 12 3 19 0 := .inl ⟨by unfold BM.asks; omega, by decide, by decide, rfl⟩
theorem bn_6 : BM.MakeIs 0 1 0 2 := .inr ⟨by unfold BM.ok; omega, rfl, rfl⟩
theorem bn_7 : BM.NextIs 8388613 5 0 9 := .inr (.inl ⟨by unfold BM.asks; omega, by decide, rfl, rfl⟩)
theorem bn_8 : BM.OfIs 7 0 0 50 := .inr ⟨by unfold BM.good; omega, rfl, rfl, rfl⟩
theorem bn_9 : BM.OfIs 14 0 0 50 := .inr ⟨by unfold BM.good; omega, rfl, rfl, rfl⟩

set_option maxRecDepth 100000 in
set_option maxHeartbeats 1000000 in
theorem ballotNames_walk (w : World) : Calls Try.prog 3 #[] w fun e w' => e = .returned (.bool true) ∧ Below w.heap.size w w' := by
  have H1 := Lib.hid bn_1
  have H2 := Lib.hid bn_2
  have H3 := Lib.hid bn_3
  have H4 := Lib.hid bn_4
  have H5 := Lib.hid bn_5
  have H6 := Lib.hid bn_6
  have H7 := Lib.hid bn_7
  have H8 := Lib.hid bn_8
  have H9 := Lib.hid bn_9
  go_enter Try.func3, Try.ntmps3
  go_wp2_with fail
  refine (make_any H1.out _).mono ?_
  rintro e w1 ⟨rfl, rfl⟩
  go_wp2_with fail
  refine (of_any H2.out (by omega) (by omega) _).mono ?_
  rintro e w1 ⟨rfl, rfl⟩
  go_wp2_with fail
  refine (next_any H3.out _).mono ?_
  rintro e w1 ⟨rfl, rfl⟩
  go_wp2_with fail
  refine (next_any H4.out _).mono ?_
  rintro e w1 ⟨rfl, rfl⟩
  go_wp2_with fail
  refine (next_any H5.out _).mono ?_
  rintro e w1 ⟨rfl, rfl⟩
  go_wp2_with fail
  refine (make_any H6.out _).mono ?_
  rintro e w1 ⟨rfl, rfl⟩
  go_wp2_with fail
  refine (next_any H7.out _).mono ?_
  rintro e w1 ⟨rfl, rfl⟩
  go_wp2_with fail
  refine (alive_any _).mono ?_
  rintro e w1 ⟨rfl, rfl⟩
  go_wp2_with fail
  refine (check_any H8.out (by omega) (by omega) _).mono ?_
  rintro e w1 ⟨rfl, rfl⟩
  go_wp2_with fail
  refine (check_any H9.out (by omega) (by omega) _).mono ?_
  rintro e w1 ⟨rfl, rfl⟩
  go_wp2_with fail
  refine (check_any H2.out (by omega) (by omega) _).mono ?_
  rintro e w1 ⟨rfl, rfl⟩
  go_wp2
  go_ret
  exact ⟨by simp, Below.refl _ _⟩
end Go.Proofs.Ytcgblaioobhakaa
