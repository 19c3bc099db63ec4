/-
  The document's own In, Id, SameMessage, Same (towncrierref12). Conditions: slices read as ints, lengths fit in an int.
-/
import Derived.Test.YtnpgjcapekopnaaGreatCmSm
import Derived.Deep.DeepCutAuto
namespace Go.Proofs.YtnpgjcapekopnaaGreat.CP
open Go.RowKit
open CM (Mg Cm)
set_option linter.unusedVariables false
set_option linter.unusedSimpArgs false
set_option maxRecDepth 100000

theorem In_any (n a b : Int) (w : World) : Calls Tryz.prog 55 #[.int .i64 n, .int .i64 a, .int .i64 b] w fun e w' => e = .returned (.bool (decide (a ≤ n ∧ n < b))) ∧ w' = w := by
  by_cases h1 : a ≤ n
  · by_cases h2 : n < b
    · have hd : decide (a ≤ n ∧ n < b) = true := by simp [h1, h2]
      rw [hd]
      go_enter Tryz.func55, Tryz.ntmps55
      go_wp2
      go_ret
      exact ⟨rfl, rfl⟩
    · have hd : decide (a ≤ n ∧ n < b) = false := by simp; omega
      rw [hd]
      go_enter Tryz.func55, Tryz.ntmps55
      go_wp2
      go_ret
      exact ⟨rfl, rfl⟩
  · have hd : decide (a ≤ n ∧ n < b) = false := by simp; omega
    rw [hd]
    go_enter Tryz.func55, Tryz.ntmps55
    go_wp2
    go_ret
    exact ⟨rfl, rfl⟩
theorem Id_any (n : Int) (w : World) : Calls Tryz.prog 54 #[.int .i64 n] w fun e w' => e = .returned (.bool (decide (CM.idOk n))) ∧ w' = w := by
  obtain ⟨b, hb⟩ : ∃ b, b = decide (CM.idOk n) := ⟨_, rfl⟩
  have hc : ∀ w, Calls Tryz.prog 55 #[.int .i64 n, .int .i64 0, .int .i64 6291456] w fun e w' => e = .returned (.bool b) ∧ w' = w := by rw [hb]; exact In_any n 0 6291456
  rw [← hb]
  have C := Lib.hid hc
  clear hc hb
  go_enter Tryz.func54, Tryz.ntmps54
  go_wp2_with fail
  refine (C.out _).mono ?_
  rintro e w1 ⟨rfl, rfl⟩
  go_wp2_with fail
  go_ret
  exact ⟨rfl, rfl⟩

end Go.Proofs.YtnpgjcapekopnaaGreat.CP
