/-
  What is answered fits, where what was handed in did. No walk.
-/
import Derived.Test.YtmcfamoicdmkdaaAttMem
import Derived.Test.YtmcfamoicdmkdaaAttMore
namespace Go.Proofs.Ytmcfamoicdmkdaa
open Go.RowKit
set_option linter.unusedVariables false

theorem may_lens {a : AM.At} (h : AM.may a = true) : a.ms.length ≤ 6 ∧ a.ps.length ≤ 6 ∧ a.ac.length ≤ 6 := by
  by_cases h0 : a.ph = 0
  · unfold AM.may at h
    rw [if_pos h0, decide_eq_true_iff] at h
    subst h
    exact ⟨by decide, by decide, by decide⟩
  · obtain ⟨_, _, k, _⟩ := AM.may_pos h h0
    obtain ⟨_, _, k3, k4⟩ := AM.okL_parts'.1 k
    have e3 := AM.some_len k3
    rw [AM.nodes_length] at e3
    exact ⟨(QM.may_len (AM.okL_may k)).2.1, e3, AM.some_len k4⟩
theorem fit_prom {a : AM.At} {b : Int} {p : AM.Pr} (F : Fit a) (FP : FitP p) : Fit (AM.prom a b p) := by
  by_cases h : AM.errP a b p = 0
  · have hl := may_lens (AM.may_prom h)
    have hall : ∀ q ∈ AM.addPs a.ps p, FitP q := fun q hq => by
      rcases AM.mem_addPs.1 hq with h | ⟨rfl, _⟩
      · exact F.all q h
      · exact FP
    rw [AM.prom_eq h] at hl ⊢
    split at hl
    · rename_i hm
      rw [if_pos hm]
      exact ⟨by simp, by simp, F.b1, F.b2, F.wi, by have := hl.1; simp only at this ⊢; omega, by have := hl.2.1; simp only at this ⊢; omega, by simp, hall⟩
    · rename_i hm
      rw [if_neg hm]
      exact ⟨by simp, by simp, F.b1, F.b2, F.wi, by have := hl.1; simp only at this ⊢; omega, by have := hl.2.1; simp only at this ⊢; omega, by simp, hall⟩
  · unfold AM.prom
    rw [if_neg h]
    exact fit_zero
theorem fit_acc {a : AM.At} {b n : Int} (F : Fit a) : Fit (AM.acc a b n) := by
  by_cases h : AM.errA a b n = 0
  · have hl := may_lens (AM.may_acc h)
    rw [AM.acc_eq h] at hl ⊢
    exact ⟨by show 0 ≤ (if _ then (3 : Int) else 2); split <;> omega, by show (if _ then (3 : Int) else 2) ≤ 255; split <;> omega, F.b1, F.b2, F.wi, by have := hl.1; simp only at this ⊢; omega, by have := hl.2.1; simp only at this ⊢; omega, by have := hl.2.2; simp only at this ⊢; omega, F.all⟩
  · unfold AM.acc
    rw [if_neg h]
    exact fit_zero
end Go.Proofs.Ytmcfamoicdmkdaa
