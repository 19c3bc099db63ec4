/-
  The document's own May (towncrierref08), whole. Conditions: the attempt fits.
-/
import Derived.Test.YtmcfamoicdmkdaaAttMayA
import Derived.Test.YtmcfamoicdmkdaaAttMayB
import Derived.Test.YtmcfamoicdmkdaaAttMayD
import Derived.Test.YtmcfamoicdmkdaaAttMore
namespace Go.Proofs.Ytmcfamoicdmkdaa
open Go.RowKit
set_option linter.unusedVariables false
set_option linter.unusedSimpArgs false

theorem may_not {a : AM.At} (h0 : ¬ a.ph = 0) (h : ¬ (a.ph ≤ 3 ∧ BM.good a.ba ∧ QM.may a.ms = true ∧ a.wi.size ≤ 1024 ∧ AM.some a.ms (AM.nodes a.ps) = true ∧ AM.some a.ms a.ac = true)) : AM.may a = false := by
  rcases hm : AM.may a with _ | _
  · rfl
  · obtain ⟨h1, h2, h3, _⟩ := AM.may_pos hm h0
    obtain ⟨g1, g2, g3, g4⟩ := AM.okL_parts'.1 h3
    unfold AM.okB at g1
    simp only [Bool.and_eq_true, decide_eq_true_eq] at g1
    exact absurd ⟨h2, g1.2.1, g1.1, g1.2.2, g3, g4⟩ h
theorem may_end {ph ba : Int} {ms : List Int} {wi va : ByteArray} {ps : List AM.Pr} {ac : List Int} (p1 : 1 ≤ ph) (p3 : ph ≤ 3) (hg : BM.good ba) (hm : QM.may ms = true) (hw : wi.size ≤ 1024) (s1 : AM.some ms (AM.nodes ps) = true) (s2 : AM.some ms ac = true) :
    mayEnd ph ba ms wi va ps ac = AM.may ⟨ph, ba, ms, wi, va, ps, ac⟩ := by
  unfold mayEnd AM.may AM.okL AM.okB
  rw [if_neg (show ¬ (⟨ph, ba, ms, wi, va, ps, ac⟩ : AM.At).ph = 0 by show ¬ ph = 0; omega)]
  simp only [hm, s1, s2]
  rw [show decide (1 ≤ ph ∧ ph ≤ 3) = true by simp; omega, show decide (BM.good ba) = true by simpa using hg, show decide (wi.size ≤ 1024) = true by simpa using hw]
  simp only [Bool.true_and, Bool.and_true]
theorem rmay_any (v : Value) (a : AM.At) (w : World) (H : AtIs w v a) (F : Fit a) :
    Calls Try.prog 22 #[v] w (BoolIs (AM.may a) w) := by
  obtain ⟨A, n, c, B, m, d, C, k, f, rfl, h1, h2, h3⟩ := H
  obtain ⟨ph, ba, ms, wi, va, ps, ac⟩ := a
  have hp0 := F.p1
  simp only at h1 h2 h3 hp0 ⊢
  by_cases hp : ph = 0
  · exact rmay_0 ph ba ms wi va ps ac A n c B m d C k f w h1 h2 h3 F hp
  by_cases p3 : 3 < ph
  · rw [may_not hp (fun h => by have := h.1; simp only at this; omega)]
    exact rmay_1 ph ba ms wi va ps ac A n c B m d C k f w h1 h2 h3 F hp p3
  have p3 : ph ≤ 3 := by omega
  by_cases hg : BM.good ba
  rotate_left
  · rw [may_not hp (fun h => hg h.2.1)]
    exact rmay_2 ph ba ms wi va ps ac A n c B m d C k f w h1 h2 h3 F hp p3 hg
  rcases hm : QM.may ms with _ | _
  · rw [may_not hp (fun h => by have := h.2.2.1; simp only at this; rw [hm] at this; cases this)]
    exact rmay_3 ph ba ms wi va ps ac A n c B m d C k f w h1 h2 h3 F hp p3 hg hm
  by_cases hw : 1024 < wi.size
  · rw [may_not hp (fun h => by have := h.2.2.2.1; simp only at this; omega)]
    exact rmay_4 ph ba ms wi va ps ac A n c B m d C k f w h1 h2 h3 F hp p3 hg hm hw
  have hw : wi.size ≤ 1024 := by omega
  rcases hs1 : (AM.adj (AM.nodes ps) && QM.within (AM.nodes ps) ms) with _ | _
  · rw [may_not hp (fun h => by have := h.2.2.2.2.1; simp only at this; rw [← AM.some_adj hm, hs1] at this; cases this)]
    exact rmay_5 ph ba ms wi va ps ac A n c B m d C k f w h1 h2 h3 F hp p3 hg hm hw hs1
  rcases hs2 : (AM.adj ac && QM.within ac ms) with _ | _
  · rw [may_not hp (fun h => by have := h.2.2.2.2.2; simp only at this; rw [← AM.some_adj hm, hs2] at this; cases this)]
    exact rmay_6 ph ba ms wi va ps ac A n c B m d C k f w h1 h2 h3 F hp p3 hg hm hw hs1 hs2
  rw [← may_end (va := va) (show 1 ≤ ph by omega) p3 hg hm hw (by rw [← AM.some_adj hm]; exact hs1) (by rw [← AM.some_adj hm]; exact hs2)]
  exact rmay_7 ph ba ms wi va ps ac A n c B m d C k f w h1 h2 h3 F hp p3 hp0 hg hm hw hs1 hs2
end Go.Proofs.Ytmcfamoicdmkdaa
