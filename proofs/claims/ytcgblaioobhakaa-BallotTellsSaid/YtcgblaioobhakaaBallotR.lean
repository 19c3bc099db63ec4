/-
  What the document's own functions of layer 5 answer (towncrierref05: Node, May, Make, Check, Of, Next), of any numbers. Conditions: as each theorem says.
-/
import Derived.Test.YtcgblaioobhakaaProg
import Derived.Test.YtcgblaioobhakaaBallotMath
import Derived.Lib.Hide
import Derived.Lib.MinMax
import Derived.WalkKit
namespace Go.Proofs.Ytcgblaioobhakaa
open Go.RowKit
set_option linter.unusedVariables false

theorem rNode_yes (n : Int) (w : World) (h0 : 0 ≤ n) (h1 : n < 6) : Calls Try.prog 19 #[.int .i64 n] w fun e w' => e = .returned (.bool true) ∧ w = w' := by
  go_enter Try.func19, Try.ntmps19
  go_wp2
  go_ret
  exact ⟨rfl, rfl⟩
theorem rNode_no (n : Int) (w : World) (h : n < 0 ∨ 6 ≤ n) : Calls Try.prog 19 #[.int .i64 n] w fun e w' => e = .returned (.bool false) ∧ w = w' := by
  rcases h with h | h
  all_goals
    go_enter Try.func19, Try.ntmps19
    go_wp2
    go_ret
    exact ⟨by simp; try omega, rfl⟩
theorem rMay_yes (b : Int) (w : World) (h : BM.good b) : Calls Try.prog 20 #[.int .i64 b] w fun e w' => e = .returned (.bool true) ∧ w = w' := by
  obtain ⟨h0, h1, h2⟩ := h
  go_enter Try.func20, Try.ntmps20
  go_wp2
  go_ret
  exact ⟨by simp; try omega, rfl⟩
theorem rMay_no (b : Int) (w : World) (h : ¬ BM.good b) : Calls Try.prog 20 #[.int .i64 b] w fun e w' => e = .returned (.bool false) ∧ w = w' := by
  rcases (show b < 8 ∨ (8 ≤ b ∧ 8388613 < b) ∨ (8 ≤ b ∧ b ≤ 8388613 ∧ 6 ≤ b % 8) by unfold BM.good at h; omega) with h1 | ⟨h1, h2⟩ | ⟨h1, h2, h3⟩
  all_goals
    clear h
    go_enter Try.func20, Try.ntmps20
    go_wp2
    go_ret
    exact ⟨by simp; try omega, rfl⟩
theorem rMake_any {r n x y : Int} (h : BM.MakeIs r n x y) (w : World) : Calls Try.prog 12 #[.int .i64 r, .int .i64 n] w fun e w' => e = .returned (.tuple #[.int .i64 x, .int .i64 y]) ∧ w = w' := by
  rcases h with ⟨h, rfl, rfl⟩ | ⟨h, rfl, rfl⟩
  · obtain ⟨h0, h1, h2, h3⟩ := h
    go_enter Try.func12, Try.ntmps12
    go_wp2_with fail
    refine (rNode_yes _ _ h2 h3).mono ?_
    rintro e w1 ⟨rfl, rfl⟩
    go_wp2
    go_ret2
    exact ⟨rfl, rfl⟩
  · rcases (show r < 1 ∨ (1 ≤ r ∧ 1048576 < r) ∨ (1 ≤ r ∧ r ≤ 1048576 ∧ (n < 0 ∨ 6 ≤ n)) by unfold BM.ok at h; omega) with h1 | ⟨h1, h2⟩ | ⟨h1, h2, h3⟩
    · clear h
      go_enter Try.func12, Try.ntmps12
      go_wp2
      go_ret2
      exact ⟨rfl, rfl⟩
    · clear h
      go_enter Try.func12, Try.ntmps12
      go_wp2
      go_ret2
      exact ⟨rfl, rfl⟩
    · clear h
      have H := Lib.hid h3; clear h3
      go_enter Try.func12, Try.ntmps12
      go_wp2_with fail
      refine (rNode_no _ _ H.out).mono ?_
      rintro e w1 ⟨rfl, rfl⟩
      go_wp2
      go_ret2
      exact ⟨rfl, rfl⟩
theorem rOf_any {b r n y : Int} (h : BM.OfIs b r n y) (w : World) : Calls Try.prog 13 #[.int .i64 b] w fun e w' => e = .returned (.tuple #[.int .i64 r, .int .i64 n, .int .i64 y]) ∧ w = w' := by
  rcases h with ⟨h, rfl, rfl, rfl⟩ | ⟨h, rfl, rfl, rfl⟩
  · obtain ⟨h0, h1, h2⟩ := id h
    have H := Lib.hid h; clear h
    go_enter Try.func13, Try.ntmps13
    go_wp2_with fail
    refine (rMay_yes _ _ H.out).mono ?_
    rintro e w1 ⟨rfl, rfl⟩
    go_wp2
    go_ret3
    exact ⟨rfl, rfl⟩
  · have H := Lib.hid h; clear h
    go_enter Try.func13, Try.ntmps13
    go_wp2_with fail
    refine (rMay_no _ _ H.out).mono ?_
    rintro e w1 ⟨rfl, rfl⟩
    go_wp2
    go_ret3
    exact ⟨rfl, rfl⟩
theorem rCheck_any {b r n y : Int} (h : BM.OfIs b r n y) (w : World) : Calls Try.prog 15 #[.int .i64 b] w fun e w' => e = .returned (.int .i64 y) ∧ w = w' := by
  rcases h with ⟨h, _, _, rfl⟩ | ⟨h, _, _, rfl⟩
  · have H := Lib.hid h; clear h
    go_enter Try.func15, Try.ntmps15
    go_wp2_with fail
    refine (rMay_yes _ _ H.out).mono ?_
    rintro e w1 ⟨rfl, rfl⟩
    go_wp2
    go_ret
    exact ⟨rfl, rfl⟩
  · have H := Lib.hid h; clear h
    go_enter Try.func15, Try.ntmps15
    go_wp2_with fail
    refine (rMay_no _ _ H.out).mono ?_
    rintro e w1 ⟨rfl, rfl⟩
    go_wp2
    go_ret
    exact ⟨rfl, rfl⟩
theorem rNext_no (a n : Int) (w : World) (h : ¬ BM.asks a n) : Calls Try.prog 14 #[.int .i64 a, .int .i64 n] w fun e w' => e = .returned (.tuple #[.int .i64 0, .int .i64 2]) ∧ w = w' := by
  rcases (show (n < 0 ∨ 6 ≤ n) ∨ (0 ≤ n ∧ n < 6 ∧ (a < 0 ∨ (0 ≤ a ∧ 8388613 < a))) by unfold BM.asks at h; omega) with h1 | ⟨h1, h2, h3⟩
  · clear h
    have H := Lib.hid h1; clear h1
    go_enter Try.func14, Try.ntmps14
    go_wp2_with fail
    refine (rNode_no _ _ H.out).mono ?_
    rintro e w1 ⟨rfl, rfl⟩
    go_wp2
    go_ret2
    exact ⟨rfl, rfl⟩
  · clear h
    rcases h3 with h3 | ⟨h3, h4⟩
    all_goals
      go_enter Try.func14, Try.ntmps14
      go_wp2_with fail
      refine (rNode_yes _ _ h1 h2).mono ?_
      rintro e w1 ⟨rfl, rfl⟩
      go_wp2
      go_ret2
      exact ⟨rfl, rfl⟩
theorem int_1 {a b : Int} (h : a = b) (w : World) : Ending.returned (.tuple #[.int .i64 a, .int .i64 0]) = .returned (.tuple #[.int .i64 b, .int .i64 0]) ∧ w = w := by rw [h]; exact ⟨rfl, rfl⟩
set_option maxHeartbeats 1000000 in
theorem rNext_any {a n x y : Int} (h : BM.NextIs a n x y) (w : World) : Calls Try.prog 14 #[.int .i64 a, .int .i64 n] w fun e w' => e = .returned (.tuple #[.int .i64 x, .int .i64 y]) ∧ w = w' := by
  by_cases ha : BM.asks a n
  · obtain ⟨g0, g1, g2, g3⟩ := id ha
    rcases (show a < 8 ∨ 8 ≤ a by omega) with h8 | h8
    · have er : BM.rnd a n = 1 := by unfold BM.rnd; rw [if_pos h8]
      obtain ⟨hx, rfl⟩ : 8 + n = x ∧ y = 0 := by
        rcases h with ⟨_, _, h1, h2⟩ | ⟨_, h1, _⟩ | ⟨h1, _⟩
        · rw [er] at h1; exact ⟨by omega, h2⟩
        · omega
        · exact absurd ha h1
      clear h er ha
      have HX := Lib.hid hx; clear hx
      have hq : a / 8 = 0 := by omega
      have hp : a % 8 = a := by omega
      rcases (show n ≤ a ∨ a < n by omega) with hn | hn
      all_goals
        go_enter Try.func14, Try.ntmps14
        go_wp2_with fail
        refine (rNode_yes _ _ g0 g1).mono ?_
        rintro e w1 ⟨rfl, rfl⟩
        go_wp2
        go_ret2
        exact int_1 HX.out w
    · have hq1 : 1 ≤ a / 8 := by omega
      have hq2 : a / 8 ≤ 1048576 := by omega
      rcases (show n ≤ a % 8 ∨ a % 8 < n by omega) with hn | hn
      · have hm : max (a / 8 + 1) 1 = a / 8 + 1 := by omega
        have er : BM.rnd a n = a / 8 + 1 := by unfold BM.rnd; rw [if_neg (by omega), if_pos hn]
        rcases (show a / 8 + 1 ≤ 1048576 ∨ 1048576 < a / 8 + 1 by omega) with hz | hz
        · obtain ⟨hx, rfl⟩ : (a / 8 + 1) * 8 + n = x ∧ y = 0 := by
            rcases h with ⟨_, _, h1, h2⟩ | ⟨_, h1, _⟩ | ⟨h1, _⟩
            · rw [er] at h1; exact ⟨h1.symm, h2⟩
            · rw [er] at h1; omega
            · exact absurd ha h1
          clear h er ha
          have HX := Lib.hid hx; clear hx
          go_enter Try.func14, Try.ntmps14
          go_wp2_with fail
          refine (rNode_yes _ _ g0 g1).mono ?_
          rintro e w1 ⟨rfl, rfl⟩
          go_wp2
          go_ret2
          exact int_1 HX.out w
        · obtain ⟨rfl, rfl⟩ : x = 0 ∧ y = 9 := by
            rcases h with ⟨_, h1, _⟩ | ⟨_, _, h1⟩ | ⟨h1, _⟩
            · rw [er] at h1; omega
            · exact h1
            · exact absurd ha h1
          clear h er ha
          go_enter Try.func14, Try.ntmps14
          go_wp2_with fail
          refine (rNode_yes _ _ g0 g1).mono ?_
          rintro e w1 ⟨rfl, rfl⟩
          go_wp2
          go_ret2
          exact ⟨rfl, rfl⟩
      · have hm : max (a / 8) 1 = a / 8 := by omega
        have er : BM.rnd a n = a / 8 := by unfold BM.rnd; rw [if_neg (by omega), if_neg (by omega)]
        obtain ⟨hx, rfl⟩ : a / 8 * 8 + n = x ∧ y = 0 := by
          rcases h with ⟨_, _, h1, h2⟩ | ⟨_, h1, _⟩ | ⟨h1, _⟩
          · rw [er] at h1; exact ⟨h1.symm, h2⟩
          · rw [er] at h1; omega
          · exact absurd ha h1
        clear h er ha
        have HX := Lib.hid hx; clear hx
        go_enter Try.func14, Try.ntmps14
        go_wp2_with fail
        refine (rNode_yes _ _ g0 g1).mono ?_
        rintro e w1 ⟨rfl, rfl⟩
        go_wp2
        go_ret2
        exact int_1 HX.out w
  · obtain ⟨rfl, rfl⟩ : x = 0 ∧ y = 2 := by
      rcases h with ⟨h, _⟩ | ⟨h, _⟩ | ⟨_, h⟩
      · exact absurd h ha
      · exact absurd h ha
      · exact h
    exact rNext_no a n w ha
end Go.Proofs.Ytcgblaioobhakaa
