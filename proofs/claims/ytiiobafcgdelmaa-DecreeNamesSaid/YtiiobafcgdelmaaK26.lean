/-
  What ballot.Make answers, of any numbers. Conditions: as the theorem says.
  What ballot.Next answers, of any numbers. Conditions: as each theorem says.
-/
import Derived.Test.YtiiobafcgdelmaaK06
namespace Go.Proofs.Ytiiobafcgdelmaa
open Go.RowKit
set_option linter.unusedVariables false

theorem make_any {r n x y : Int} (h : BM.MakeIs r n x y) (w : World) : Calls Try.prog 58 #[.int .i64 r, .int .i64 n] w fun e w' => e = .returned (.tuple #[.int .i64 x, .int .i64 y]) ∧ w = w' := by
  rcases h with ⟨h, rfl, rfl⟩ | ⟨h, rfl, rfl⟩
  · obtain ⟨h0, h1, h2, h3⟩ := id h
    go_enter Try.func58, Try.ntmps58
    go_wp2_with fail
    refine (mayBe_yes _ _ _ h).mono ?_
    rintro e w1 ⟨rfl, rfl⟩
    clear h
    go_wp2
    go_ret2
    exact ⟨rfl, rfl⟩
  · have H := Lib.hid h; clear h
    go_enter Try.func58, Try.ntmps58
    go_wp2_with fail
    refine (mayBe_no _ _ _ H.out).mono ?_
    rintro e w1 ⟨rfl, rfl⟩
    go_wp2
    go_ret2
    exact ⟨rfl, rfl⟩
end Go.Proofs.Ytiiobafcgdelmaa

namespace Go.Proofs.Ytiiobafcgdelmaa
open Go.RowKit
set_option linter.unusedVariables false

theorem next_no (a n : Int) (w : World) (h : ¬ BM.asks a n) : Calls Try.prog 40 #[.int .i64 a, .int .i64 n] w fun e w' => e = .returned (.tuple #[.int .i64 0, .int .i64 2]) ∧ w = w' := by
  rcases (show (n < 0 ∨ 6 ≤ n) ∨ (0 ≤ n ∧ n < 6 ∧ (a < 0 ∨ (0 ≤ a ∧ 8388613 < a))) by unfold BM.asks at h; omega) with h1 | ⟨h1, h2, h3⟩
  · clear h
    have H := Lib.hid h1; clear h1
    go_enter Try.func40, Try.ntmps40
    go_wp2_with fail
    refine (isNode_no _ _ H.out).mono ?_
    rintro e w1 ⟨rfl, rfl⟩
    go_wp2
    go_ret2
    exact ⟨rfl, rfl⟩
  · clear h
    rcases h3 with h3 | ⟨h3, h4⟩
    all_goals
      go_enter Try.func40, Try.ntmps40
      go_wp2_with fail
      refine (isNode_yes _ _ h1 h2).mono ?_
      rintro e w1 ⟨rfl, rfl⟩
      go_wp2
      go_ret2
      exact ⟨rfl, rfl⟩
set_option maxHeartbeats 1000000 in
theorem next_any {a n x y : Int} (h : BM.NextIs a n x y) (w : World) : Calls Try.prog 40 #[.int .i64 a, .int .i64 n] w fun e w' => e = .returned (.tuple #[.int .i64 x, .int .i64 y]) ∧ w = w' := by
  by_cases ha : BM.asks a n
  · obtain ⟨z, u, hm, hu⟩ := BM.make_next h ha
    clear h
    obtain ⟨g0, g1, g2, g3⟩ := ha
    have hmk := fun w => make_any hm w
    have hr := BM.rnd_pos a n
    clear hm
    have hpart := part_nat a w g2 (by omega)
    rcases (show a < 8 ∨ 8 ≤ a by omega) with h8 | h8
    · have hq : a / 8 = 0 := by omega
      have hp : a % 8 = a := by omega
      have er : BM.rnd a n = 1 := by unfold BM.rnd; rw [if_pos h8]
      rw [hq, hp] at hpart
      rw [er] at hmk
      have HP := Lib.hid hpart; clear hpart
      have HM := Lib.hid hmk; clear hmk
      have HU := Lib.hid hu; clear hu
      clear hq hp er hr
      rcases (show n ≤ a ∨ a < n by omega) with hn | hn
      all_goals
        go_enter Try.func40, Try.ntmps40
        go_wp2_with fail
        refine (isNode_yes _ _ g0 g1).mono ?_
        rintro e w1 ⟨rfl, rfl⟩
        go_wp2_with fail
        refine (HP.out).mono ?_
        rintro e w1 ⟨rfl, rfl⟩
        go_wp2_with fail
        refine (HM.out _).mono ?_
        rintro e w1 ⟨rfl, rfl⟩
        rcases HU.out with ⟨h1, h2, h3⟩ | ⟨h1, h2, h3⟩
        all_goals
          subst h1 h2 h3
          go_wp2
          go_ret2
          exact ⟨rfl, rfl⟩
    · obtain ⟨q, hq⟩ : ∃ q, q = a / 8 := ⟨_, rfl⟩
      obtain ⟨p, hp⟩ : ∃ p, p = a % 8 := ⟨_, rfl⟩
      have hq1 : 1 ≤ q := by omega
      have hq2 : q ≤ 1048576 := by omega
      rw [← hq, ← hp] at hpart
      rcases (show n ≤ p ∨ p < n by omega) with hn | hn
      · have er : BM.rnd a n = max (q + 1) 1 := by unfold BM.rnd; rw [if_neg (by omega), ← hp, ← hq, if_pos hn]; omega
        rw [er] at hmk
        have HP := Lib.hid hpart; clear hpart
        have HM := Lib.hid hmk; clear hmk
        have HU := Lib.hid hu; clear hu
        clear hq hp er hr
        go_enter Try.func40, Try.ntmps40
        go_wp2_with fail
        refine (isNode_yes _ _ g0 g1).mono ?_
        rintro e w1 ⟨rfl, rfl⟩
        go_wp2_with fail
        refine (HP.out).mono ?_
        rintro e w1 ⟨rfl, rfl⟩
        go_wp2_with fail
        refine (HM.out _).mono ?_
        rintro e w1 ⟨rfl, rfl⟩
        rcases HU.out with ⟨h1, h2, h3⟩ | ⟨h1, h2, h3⟩
        all_goals
          subst h1 h2 h3
          go_wp2
          go_ret2
          exact ⟨rfl, rfl⟩
      · have er : BM.rnd a n = max q 1 := by unfold BM.rnd; rw [if_neg (by omega), ← hp, ← hq, if_neg (by omega)]; omega
        rw [er] at hmk
        have HP := Lib.hid hpart; clear hpart
        have HM := Lib.hid hmk; clear hmk
        have HU := Lib.hid hu; clear hu
        clear hq hp er hr
        go_enter Try.func40, Try.ntmps40
        go_wp2_with fail
        refine (isNode_yes _ _ g0 g1).mono ?_
        rintro e w1 ⟨rfl, rfl⟩
        go_wp2_with fail
        refine (HP.out).mono ?_
        rintro e w1 ⟨rfl, rfl⟩
        go_wp2_with fail
        refine (HM.out _).mono ?_
        rintro e w1 ⟨rfl, rfl⟩
        rcases HU.out with ⟨h1, h2, h3⟩ | ⟨h1, h2, h3⟩
        all_goals
          subst h1 h2 h3
          go_wp2
          go_ret2
          exact ⟨rfl, rfl⟩
  · obtain ⟨rfl, rfl⟩ : x = 0 ∧ y = 2 := by
      rcases h with ⟨h, _⟩ | ⟨h, _⟩ | ⟨_, h⟩
      · exact absurd h ha
      · exact absurd h ha
      · exact h
    exact next_no a n w ha
end Go.Proofs.Ytiiobafcgdelmaa
