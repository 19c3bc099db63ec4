/-
  The document's own MayMessage (towncrierref12). Conditions: as MgIs and MgFit say.
-/
import Derived.Test.YtnpgjcapekopnaaGreatCmSame
namespace Go.Proofs.YtnpgjcapekopnaaGreat.CP
open Go.RowKit
open CM (Mg Cm)
set_option linter.unusedVariables false
set_option linter.unusedSimpArgs false
set_option maxRecDepth 100000

theorem rise_no {p z : Int} {l : List Int} (h : ¬ (0 ≤ z ∧ z < 4)) (hp : -1 ≤ p) : CM.riseG p (z :: l) = false := by
  simp only [CM.riseG]
  by_cases h1 : p < z
  · have : ¬ z < 4 := by omega
    simp [this]
  · simp [h1]
theorem rise_le {p z : Int} {l : List Int} (h : z ≤ p) : CM.riseG p (z :: l) = false := by
  simp only [CM.riseG]
  have : ¬ p < z := by omega
  simp [this]
theorem rise_up {p z : Int} {l : List Int} (h : p < z) (h4 : z < 4) : CM.riseG p (z :: l) = CM.riseG z l := by
  simp [CM.riseG, h, h4]
end Go.Proofs.YtnpgjcapekopnaaGreat.CP
