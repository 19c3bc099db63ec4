/-
  The walk of BallotNext: what comes next is above, is that node's, and no ballot of that node lies between. Conditions: any int64 numbers.
-/
import Derived.Test.YtcgblaioobhakaaBallotAlive
namespace Go.Proofs.Ytcgblaioobhakaa
open Go.RowKit
set_option linter.unusedVariables false

set_option maxRecDepth 100000 in
set_option maxHeartbeats 2000000 in
theorem ballotNext_walk (a n b : Int) (w : World) (ha : (Lit.int .i64 a).wf = true) (hn : (Lit.int .i64 n).wf = true) (hb : (Lit.int .i64 b).wf = true) :
    Calls Try.prog 6 #[.int .i64 a, .int .i64 n, .int .i64 b] w fun e w' => e = .returned (.bool true) ∧ Below w.heap.size w w' := by
  have hb1 : -9223372036854775808 ≤ b ∧ b ≤ 9223372036854775807 := by simpa [Lit.wf, IntKind.min, IntKind.max, IntKind.signed, IntKind.bits] using hb
  clear ha hn hb
  have HB := Lib.hid hb1; clear hb1
  obtain ⟨x, e, h⟩ := BM.nextIs_ex a n
  by_cases he : e = 0
  · subst he
    have H := Lib.hid h
    obtain ⟨g1, g2, g3, g4, g5⟩ := BM.next_good h
    obtain ⟨q, hq⟩ : ∃ q, q = BM.rnd a n := ⟨_, rfl⟩
    rw [← hq] at g1
    have G1 := Lib.hid g1; clear g1 hq
    have HX := Lib.hid (show -9223372036854775808 ≤ x ∧ x ≤ 9223372036854775807 by omega)
    obtain ⟨k, m, g, h2⟩ := BM.ofIs_ex b
    have H2 := Lib.hid h2
    have hz : g = 50 ∨ (g = 0 ∧ (m ≠ n ∨ b ≤ a ∨ x ≤ b)) := by
      rcases BM.ofIs_err h2 with rfl | rfl
      · by_cases hm : m = n
        · by_cases hab : a < b
          · exact .inr ⟨rfl, .inr (.inr (BM.next_least h h2 hm hab))⟩
          · exact .inr ⟨rfl, .inr (.inl (by omega))⟩
        · exact .inr ⟨rfl, .inl hm⟩
      · exact .inl rfl
    clear h h2
    have HZ := Lib.hid hz; clear hz
    go_enter Try.func6, Try.ntmps6
    go_wp2_with fail
    refine (alive_any _).mono ?_
    rintro e w1 ⟨rfl, rfl⟩
    go_wp2_with fail
    refine (next_any H.out _).mono ?_
    rintro e w1 ⟨rfl, rfl⟩
    go_wp2_with fail
    refine (of_any G1.out HX.out.1 HX.out.2 _).mono ?_
    rintro e w1 ⟨rfl, rfl⟩
    go_wp2_with fail
    refine (of_any H2.out HB.out.1 HB.out.2 _).mono ?_
    rintro e w1 ⟨rfl, rfl⟩
    rcases HZ.out with rfl | ⟨rfl, h5⟩
    · go_wp2
      go_ret
      exact ⟨rfl, Below.refl _ _⟩
    · have H5 := Lib.hid h5; clear h5
      go_wp2
      all_goals
        go_ret
        have h5 := H5.out
        refine ⟨?_, Below.refl _ _⟩
        simp_all
        try omega
  · obtain ⟨rfl, he'⟩ : x = 0 ∧ (e = 9 ∨ e = 2) := by
      rcases h with ⟨_, _, _, h⟩ | ⟨_, _, h1, h2⟩ | ⟨_, h1, h2⟩
      · exact absurd h he
      · exact ⟨h1, .inl h2⟩
      · exact ⟨h1, .inr h2⟩
    have H := Lib.hid h; clear h he
    rcases he' with rfl | rfl
    all_goals
      go_enter Try.func6, Try.ntmps6
      go_wp2_with fail
      refine (alive_any _).mono ?_
      rintro e w1 ⟨rfl, rfl⟩
      go_wp2_with fail
      refine (next_any H.out _).mono ?_
      rintro e w1 ⟨rfl, rfl⟩
      go_wp2
      go_ret
      exact ⟨rfl, Below.refl _ _⟩
end Go.Proofs.Ytcgblaioobhakaa
