/-
  What package ballot answers: parts, whether it may be, Of, Check, of any numbers. Conditions: as each theorem says.
-/
import Derived.Test.YtohiemdodffhoaaProg
import Derived.Test.YtohiemdodffhoaaBallotMath
import Derived.Lib.Hide
import Derived.Lib.MinMax
import Derived.WalkKit
namespace Go.Proofs.Ytohiemdodffhoaa
open Go.RowKit
set_option linter.unusedVariables false

theorem isNode_yes (n : Int) (w : World) (h0 : 0 ≤ n) (h1 : n < 6) : Calls Try.prog 117 #[.int .i64 n] w fun e w' => e = .returned (.bool true) ∧ w = w' := by
  go_enter Try.func117, Try.ntmps117
  go_wp2
  go_ret
  exact ⟨rfl, rfl⟩
theorem isNode_no (n : Int) (w : World) (h : n < 0 ∨ 6 ≤ n) : Calls Try.prog 117 #[.int .i64 n] w fun e w' => e = .returned (.bool false) ∧ w = w' := by
  rcases h with h | h
  all_goals
    go_enter Try.func117, Try.ntmps117
    go_wp2
    go_ret
    exact ⟨by simp; try omega, rfl⟩
theorem mayBe_yes (r n : Int) (w : World) (h : BM.ok r n) : Calls Try.prog 115 #[.int .i64 r, .int .i64 n] w fun e w' => e = .returned (.bool true) ∧ w = w' := by
  obtain ⟨h0, h1, h2, h3⟩ := h
  go_enter Try.func115, Try.ntmps115
  go_wp2_with fail
  refine (isNode_yes _ _ h2 h3).mono ?_
  rintro e w1 ⟨rfl, rfl⟩
  go_wp2
  go_ret
  exact ⟨rfl, rfl⟩
theorem mayBe_no (r n : Int) (w : World) (h : ¬ BM.ok r n) : Calls Try.prog 115 #[.int .i64 r, .int .i64 n] w fun e w' => e = .returned (.bool false) ∧ w = w' := by
  have h' : r < 1 ∨ (1 ≤ r ∧ 1048576 < r) ∨ (1 ≤ r ∧ r ≤ 1048576 ∧ (n < 0 ∨ 6 ≤ n)) := by unfold BM.ok at h; omega
  clear h
  rcases h' with h | ⟨h0, h⟩ | ⟨h0, h1, h⟩
  · go_enter Try.func115, Try.ntmps115
    go_wp2_with fail
    go_ret
    exact ⟨by simp; try omega, rfl⟩
  · go_enter Try.func115, Try.ntmps115
    go_wp2_with fail
    go_ret
    exact ⟨by simp; try omega, rfl⟩
  · have H := Lib.hid h; clear h
    go_enter Try.func115, Try.ntmps115
    go_wp2_with fail
    refine (isNode_no _ _ H.out).mono ?_
    rintro e w1 ⟨rfl, rfl⟩
    go_wp2
    go_ret
    exact ⟨rfl, rfl⟩
theorem part_nat (b : Int) (w : World) (h : 0 ≤ b) (h2 : b ≤ 9223372036854775807) : Calls Try.prog 114 #[.int .i64 b] w fun e w' => e = .returned (.tuple #[.int .i64 (b / 8), .int .i64 (b % 8)]) ∧ w = w' := by
  go_enter Try.func114, Try.ntmps114
  go_wp2
  go_ret2
  exact ⟨rfl, rfl⟩
def PartNeg (w : World) (e : Ending) (w' : World) : Prop := ∃ x y : Int, x < 1 ∧ e = .returned (.tuple #[.int .i64 x, .int .i64 y]) ∧ w = w'
theorem part_neg (b : Int) (w : World) (h : b < 0) (h2 : -9223372036854775808 ≤ b) : Calls Try.prog 114 #[.int .i64 b] w (PartNeg w) := by
  have ht : b.tdiv 8 < 1 := by
    have e : b = -(-b) := by omega
    rw [e, Int.neg_tdiv, Int.tdiv_eq_ediv_of_nonneg (by omega)]
    omega
  go_enter Try.func114, Try.ntmps114
  go_wp2
  go_ret2
  exact ⟨_, _, ht, rfl, rfl⟩

theorem of_any {b r n y : Int} (h : BM.OfIs b r n y) (h1 : -9223372036854775808 ≤ b) (h2 : b ≤ 9223372036854775807) (w : World) : Calls Try.prog 104 #[.int .i64 b] w fun e w' => e = .returned (.tuple #[.int .i64 r, .int .i64 n, .int .i64 y]) ∧ w = w' := by
  rcases h with ⟨h, rfl, rfl, rfl⟩ | ⟨h, rfl, rfl, rfl⟩
  · have hb : 0 ≤ b := by have := h.1; omega
    have hok := (BM.good_iff b hb).1 h
    clear h
    obtain ⟨q, hq⟩ : ∃ q, q = b / 8 := ⟨_, rfl⟩
    obtain ⟨p, hp⟩ : ∃ p, p = b % 8 := ⟨_, rfl⟩
    have hpart := part_nat b w hb h2
    rw [← hq, ← hp] at hpart hok ⊢
    clear hq hp
    have HP := Lib.hid hpart; clear hpart
    have H := Lib.hid hok; clear hok
    go_enter Try.func104, Try.ntmps104
    go_wp2_with fail
    refine (HP.out).mono ?_
    rintro e w1 ⟨rfl, rfl⟩
    go_wp2_with fail
    refine (mayBe_yes _ _ _ H.out).mono ?_
    rintro e w1 ⟨rfl, rfl⟩
    go_wp2
    go_ret3
    exact ⟨rfl, rfl⟩
  · rcases (show 0 ≤ b ∨ b < 0 by omega) with hb | hb
    · have hok := fun g => h ((BM.good_iff b hb).2 g)
      clear h
      obtain ⟨q, hq⟩ : ∃ q, q = b / 8 := ⟨_, rfl⟩
      obtain ⟨p, hp⟩ : ∃ p, p = b % 8 := ⟨_, rfl⟩
      have hpart := part_nat b w hb h2
      rw [← hq, ← hp] at hpart hok
      clear hq hp
      have HP := Lib.hid hpart; clear hpart
      have H := Lib.hid hok; clear hok
      go_enter Try.func104, Try.ntmps104
      go_wp2_with fail
      refine (HP.out).mono ?_
      rintro e w1 ⟨rfl, rfl⟩
      go_wp2_with fail
      refine (mayBe_no _ _ _ H.out).mono ?_
      rintro e w1 ⟨rfl, rfl⟩
      go_wp2
      go_ret3
      exact ⟨rfl, rfl⟩
    · clear h
      go_enter Try.func104, Try.ntmps104
      go_wp2_with fail
      refine (part_neg _ _ hb h1).mono ?_
      rintro e w1 ⟨x, y, hx, rfl, rfl⟩
      have hok : ¬ BM.ok x y := fun g => by have := g.1; omega
      have H := Lib.hid hok; clear hok hx
      go_wp2_with fail
      refine (mayBe_no _ _ _ H.out).mono ?_
      rintro e w1 ⟨rfl, rfl⟩
      go_wp2
      go_ret3
      exact ⟨rfl, rfl⟩
theorem check_any {b r n y : Int} (h : BM.OfIs b r n y) (h1 : -9223372036854775808 ≤ b) (h2 : b ≤ 9223372036854775807) (w : World) : Calls Try.prog 91 #[.int .i64 b] w fun e w' => e = .returned (.int .i64 y) ∧ w = w' := by
  have H := Lib.hid h; clear h
  go_enter Try.func91, Try.ntmps91
  go_wp2_with fail
  refine (of_any H.out h1 h2 _).mono ?_
  rintro e w1 ⟨rfl, rfl⟩
  go_wp2
  go_ret
  exact ⟨rfl, rfl⟩
end Go.Proofs.Ytohiemdodffhoaa
