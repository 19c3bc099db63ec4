/-
  The document's own Promised and Accepted (towncrierref08), whole. Conditions: the attempt and the promise fit; the rows lie in their arrays.
-/
import Derived.Test.YtmcfamoicdmkdaaAttRG
import Derived.Test.YtmcfamoicdmkdaaAttRH
import Derived.Test.YtmcfamoicdmkdaaAttRNa
import Derived.Test.YtmcfamoicdmkdaaAttRNp
namespace Go.Proofs.Ytmcfamoicdmkdaa
open Go.RowKit
set_option linter.unusedVariables false
set_option linter.unusedSimpArgs false

theorem rprom_any (v : Value) (a : AM.At) (b : Int) (p : AM.Pr) (w : World) (H : AtIs w v a) (F : Fit a) (FP : FitP p) (HCap : AtCap v) :
    Calls Try.prog 17 #[v, .int .i64 b, .agg #[.int .i64 p.n, .int .i64 p.b, .string p.v]] w (ErrRet (AM.prom a b p) (AM.errP a b p) w) := by
  rcases hm : AM.may a with _ | _
  · have he : AM.errP a b p = 8 := by unfold AM.errP; rw [if_pos hm]
    have hp : AM.prom a b p = AM.zero := by unfold AM.prom; rw [he]; rfl
    rw [he, hp]
    exact rprom_bad v a b p w H F FP hm
  · have e0 : ∀ y z : Int, (if AM.may a = false then y else z) = z := fun y z => by rw [hm]; rfl
    have hnone : ¬ (a.ph = 1 ∧ b = a.ba ∧ QM.has a.ms p.n = true) → AM.errP a b p = 6 ∧ AM.prom a b p = AM.zero := fun hn => by
      have he : AM.errP a b p = 6 := by unfold AM.errP; rw [e0, if_pos hn]
      exact ⟨he, by unfold AM.prom; rw [he]; rfl⟩
    by_cases hc : a.ph = 1
    rotate_left
    · obtain ⟨he, hp⟩ := hnone (fun h => hc h.1)
      rw [he, hp]
      exact rprom_none1 v a b p w H F FP hm hc
    by_cases hb : b = a.ba
    rotate_left
    · obtain ⟨he, hp⟩ := hnone (fun h => hb h.2.1)
      rw [he, hp]
      exact rprom_none2 v a b p w H F FP hm hc hb
    rcases hh : QM.has a.ms p.n with _ | _
    · obtain ⟨he, hp⟩ := hnone (fun h => by rw [hh] at h; exact absurd h.2.2 (by decide))
      rw [he, hp]
      exact rprom_none3 v a b p w H F FP hm hc hb hh
    have hy : a.ph = 1 ∧ b = a.ba ∧ QM.has a.ms p.n = true := ⟨hc, hb, hh⟩
    rcases ho : AM.okP b p with _ | _
    · have he : AM.errP a b p = 8 := by unfold AM.errP; rw [e0, if_neg (not_not_intro hy), if_pos ho]
      have hp : AM.prom a b p = AM.zero := by unfold AM.prom; rw [he]; rfl
      rw [he, hp]
      exact rprom_bad2 v a b p w H F FP hm hc hb hh ho
    have he : AM.errP a b p = 0 := AM.errP_mk hm hc hb hh ho
    obtain ⟨_, _, _, k⟩ := AM.may_pos hm (by omega)
    rw [if_pos hc] at k
    obtain ⟨k1, k2, k3⟩ := k
    rw [he, AM.prom_eq he]
    rcases hq : QM.has (AM.nodes a.ps) p.n with _ | _
    · have ha : AM.addPs a.ps p = AM.insP a.ps p := by unfold AM.addPs; rw [hq]; rfl
      rw [ha]
      have := rprom_new v a b p w H F FP HCap hm hc hb hh ho hq _ rfl
      rw [k2, k3, hc] at this
      rcases hmo : AM.most a.ms (AM.nodes (AM.insP a.ps p)) with _ | _
      · rw [hmo] at this; exact this
      · rw [hmo] at this; exact this
    · have ha : AM.addPs a.ps p = a.ps := by unfold AM.addPs; rw [hq]; rfl
      rw [ha, k1, if_neg (by decide), show (⟨1, a.ba, a.ms, a.wi, .empty, a.ps, []⟩ : AM.At) = a by rw [← hc, ← k2, ← k3]]
      exact rprom_has v a b p w H F FP HCap hm hc hb hh ho hq
theorem raccd_any (v : Value) (a : AM.At) (b x : Int) (w : World) (H : AtIs w v a) (F : Fit a) (HCap : AtCap v) :
    Calls Try.prog 18 #[v, .int .i64 b, .int .i64 x] w (ErrRet (AM.acc a b x) (AM.errA a b x) w) := by
  rcases hm : AM.may a with _ | _
  · have he : AM.errA a b x = 8 := by unfold AM.errA; rw [if_pos hm]
    have hp : AM.acc a b x = AM.zero := by unfold AM.acc; rw [he]; rfl
    rw [he, hp]
    exact racc_bad v a b x w H F hm
  · have e0 : ∀ y z : Int, (if AM.may a = false then y else z) = z := fun y z => by rw [hm]; rfl
    have hnone : ¬ (2 ≤ a.ph ∧ b = a.ba ∧ QM.has a.ms x = true) → AM.errA a b x = 6 ∧ AM.acc a b x = AM.zero := fun hn => by
      have he : AM.errA a b x = 6 := by unfold AM.errA; rw [e0, if_pos hn]
      exact ⟨he, by unfold AM.acc; rw [he]; rfl⟩
    by_cases hc : 2 ≤ a.ph
    rotate_left
    · obtain ⟨he, hp⟩ := hnone (fun h => hc h.1)
      rw [he, hp]
      exact racc_none1 v a b x w H F hm hc
    by_cases hb : b = a.ba
    rotate_left
    · obtain ⟨he, hp⟩ := hnone (fun h => hb h.2.1)
      rw [he, hp]
      exact racc_none2 v a b x w H F hm hc hb
    rcases hh : QM.has a.ms x with _ | _
    · obtain ⟨he, hp⟩ := hnone (fun h => by rw [hh] at h; exact absurd h.2.2 (by decide))
      rw [he, hp]
      exact racc_none3 v a b x w H F hm hc hb hh
    have he : AM.errA a b x = 0 := AM.errA_mk hm hc hb hh
    obtain ⟨p1, p3, _, k⟩ := AM.may_pos hm (by omega)
    rw [if_neg (by omega)] at k
    rw [he, AM.acc_eq he]
    rcases hq : QM.has a.ac x with _ | _
    · have ha : AM.addIs a.ac x = AM.insI a.ac x := by unfold AM.addIs; rw [hq]; rfl
      have hsub : AM.most a.ms a.ac = true → AM.most a.ms (AM.insI a.ac x) = true := fun h => by
        rw [← ha]; exact AM.most_sub (fun y hy => (AM.mem_addIs _ _ _).2 (.inr hy)) h
      rw [ha]
      have := racc_new v a b x w H F HCap hm hc hb hh hq _ rfl
      rcases hmo : AM.most a.ms (AM.insI a.ac x) with _ | _
      · have h2 : a.ph = 2 := by
          rcases (show a.ph = 2 ∨ a.ph = 3 by omega) with h | h
          · exact h
          · rw [k.2.2, h, hmo] at hsub
            exact absurd (hsub (by decide)) (by decide)
        rw [hmo] at this
        rw [if_neg (by decide), ← h2]
        exact this
      · rw [hmo] at this; exact this
    · have ha : AM.addIs a.ac x = a.ac := by unfold AM.addIs; rw [hq]; rfl
      have hph : (if AM.most a.ms a.ac = true then (3 : Int) else 2) = a.ph := by
        rw [k.2.2]
        by_cases h : a.ph = 3
        · rw [if_pos (by simpa using h)]; omega
        · rw [if_neg (by simpa using h)]; omega
      rw [ha, hph]
      exact racc_has v a b x w H F HCap hm hc hb hh hq
end Go.Proofs.Ytmcfamoicdmkdaa
