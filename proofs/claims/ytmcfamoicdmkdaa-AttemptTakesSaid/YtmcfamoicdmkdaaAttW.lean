/-
  Package attempt's Begin, Promised and Accepted, each in one form. Conditions: the attempt fits.
-/
import Derived.Test.YtmcfamoicdmkdaaAttH
namespace Go.Proofs.Ytmcfamoicdmkdaa
open Go.RowKit
set_option linter.unusedVariables false

theorem onward_eta (a : AM.At) : AM.onward a = ⟨(AM.onward a).ph, a.ba, a.ms, a.wi, (AM.onward a).va, a.ps, a.ac⟩ := by
  have h1 := onward_ba a
  have h2 := onward_ms a
  have h3 := onward_wi a
  have h4 := onward_ps a
  have h5 := onward_ac a
  generalize AM.onward a = o at *
  obtain ⟨p1, p2, p3, p4, p5, p6, p7⟩ := o
  simp only at h1 h2 h3 h4 h5
  subst h1 h2 h3 h4 h5
  rfl
theorem prom_any (v : Value) (a : AM.At) (b : Int) (p : AM.Pr) (w : World) (H : AtIs w v a) (F : Fit a) (FP : FitP p) :
    Calls Try.prog 10 #[v, .int .i64 b, .agg #[.int .i64 p.n, .int .i64 p.b, .string p.v]] w (ErrRet (AM.prom a b p) (AM.errP a b p) w) := by
  rcases hm : AM.may a with _ | _
  · have he : AM.errP a b p = 8 := by unfold AM.errP; rw [if_pos hm]
    have hp : AM.prom a b p = AM.zero := by unfold AM.prom; rw [he]; rfl
    rw [he, hp]
    exact prom_bad v a b p w H F FP hm
  · have e0 : ∀ y z : Int, (if AM.may a = false then y else z) = z := fun y z => by rw [hm]; rfl
    by_cases hc : a.ph = 1
    · rcases hc2 : (decide (b = a.ba) && QM.has a.ms p.n) with _ | _
      · have hn : ¬ (a.ph = 1 ∧ b = a.ba ∧ QM.has a.ms p.n = true) := by
          rintro ⟨_, e1, e2⟩
          rw [e2] at hc2
          simp [e1] at hc2
        have he : AM.errP a b p = 6 := by unfold AM.errP; rw [e0, if_pos hn]
        have hp : AM.prom a b p = AM.zero := by unfold AM.prom; rw [he]; rfl
        rw [he, hp]
        exact prom_none2 v a b p w H F FP hm hc hc2
      · have hy : a.ph = 1 ∧ b = a.ba ∧ QM.has a.ms p.n = true := by
          simp only [Bool.and_eq_true, decide_eq_true_eq] at hc2
          exact ⟨hc, hc2.1, hc2.2⟩
        rcases ho : AM.okP b p with _ | _
        · have he : AM.errP a b p = 8 := by unfold AM.errP; rw [e0, if_neg (not_not_intro hy), if_pos ho]
          have hp : AM.prom a b p = AM.zero := by unfold AM.prom; rw [he]; rfl
          rw [he, hp]
          exact prom_bad2 v a b p w H F FP hm hc hc2 ho
        · have he : AM.errP a b p = 0 := by unfold AM.errP; rw [e0, if_neg (not_not_intro hy), if_neg (by rw [ho]; decide)]
          have hp : AM.prom a b p = AM.onward (AM.addP a p) := by unfold AM.prom; rw [if_pos he]
          rw [he, hp, onward_eta]
          rcases hh : QM.has (AM.nodes a.ps) p.n with _ | _
          · have ha : AM.addP a p = ⟨a.ph, a.ba, a.ms, a.wi, a.va, AM.insP a.ps p, a.ac⟩ := by unfold AM.addP; rw [hh]; rfl
            rw [ha]
            exact prom_new v a b p w H F FP hm hc hc2 ho hh _ _ rfl rfl
          · have ha : AM.addP a p = ⟨a.ph, a.ba, a.ms, a.wi, a.va, a.ps, a.ac⟩ := by unfold AM.addP; rw [hh]; rfl
            rw [ha]
            exact prom_has v a b p w H F FP hm hc hc2 ho hh _ _ rfl rfl
    · have he : AM.errP a b p = 6 := by unfold AM.errP; rw [e0, if_pos (fun h => hc h.1)]
      have hp : AM.prom a b p = AM.zero := by unfold AM.prom; rw [he]; rfl
      rw [he, hp]
      exact prom_none1 v a b p w H F FP hm hc
theorem accd_any (v : Value) (a : AM.At) (b x : Int) (w : World) (H : AtIs w v a) (F : Fit a) :
    Calls Try.prog 12 #[v, .int .i64 b, .int .i64 x] w (ErrRet (AM.acc a b x) (AM.errA a b x) w) := by
  rcases hm : AM.may a with _ | _
  · have he : AM.errA a b x = 8 := by unfold AM.errA; rw [if_pos hm]
    have hp : AM.acc a b x = AM.zero := by unfold AM.acc; rw [he]; rfl
    rw [he, hp]
    exact acc_bad v a b x w H F hm
  · have e0 : ∀ y z : Int, (if AM.may a = false then y else z) = z := fun y z => by rw [hm]; rfl
    by_cases hc : 2 ≤ a.ph
    · rcases hc2 : (decide (b = a.ba) && QM.has a.ms x) with _ | _
      · have hn : ¬ (2 ≤ a.ph ∧ b = a.ba ∧ QM.has a.ms x = true) := by
          rintro ⟨_, e1, e2⟩
          rw [e2] at hc2
          simp [e1] at hc2
        have he : AM.errA a b x = 6 := by unfold AM.errA; rw [e0, if_pos hn]
        have hp : AM.acc a b x = AM.zero := by unfold AM.acc; rw [he]; rfl
        rw [he, hp]
        exact acc_none2 v a b x w H F hm hc hc2
      · have hy : 2 ≤ a.ph ∧ b = a.ba ∧ QM.has a.ms x = true := by
          simp only [Bool.and_eq_true, decide_eq_true_eq] at hc2
          exact ⟨hc, hc2.1, hc2.2⟩
        have he : AM.errA a b x = 0 := by unfold AM.errA; rw [e0, if_neg (not_not_intro hy)]
        have hp : AM.acc a b x = AM.onward (AM.addA a x) := by unfold AM.acc; rw [if_pos he]
        rw [he, hp, onward_eta]
        rcases hh : QM.has a.ac x with _ | _
        · have ha : AM.addA a x = ⟨a.ph, a.ba, a.ms, a.wi, a.va, a.ps, AM.insI a.ac x⟩ := by unfold AM.addA; rw [hh]; rfl
          rw [ha]
          exact acc_new v a b x w H F hm hc hc2 hh _ _ rfl rfl
        · have ha : AM.addA a x = ⟨a.ph, a.ba, a.ms, a.wi, a.va, a.ps, a.ac⟩ := by unfold AM.addA; rw [hh]; rfl
          rw [ha]
          exact acc_has v a b x w H F hm hc hc2 hh _ _ rfl rfl
    · have he : AM.errA a b x = 6 := by unfold AM.errA; rw [e0, if_pos (fun h => hc h.1)]
      have hp : AM.acc a b x = AM.zero := by unfold AM.acc; rw [he]; rfl
      rw [he, hp]
      exact acc_none1 v a b x w H F hm hc
/-- what Begin answers -/
def begAt (ms : List Int) (ba : Int) (wi : ByteArray) (y : Int) : AM.At := if y = 0 then AM.start ms ba wi else AM.zero
theorem begin_any (A : Option Addr) (n c : Nat) (ms : List Int) (ba : Int) (wi : ByteArray) (y : Int) (w : World) (hr : Rd w A n (ic ms)) (hl : ms.length ≤ 2000) (b1 : -9223372036854775808 ≤ ba) (b2 : ba ≤ 9223372036854775807) (hs : wi.size ≤ maxLen) (hy : AM.BegIs ms ba wi y) :
    Calls Try.prog 13 #[.slice A n c, .int .i64 ba, .string wi] w (ErrRet (begAt ms ba wi y) y w) := by
  by_cases h0 : y = 0
  · rw [begAt, if_pos h0]
    exact begin_ok A n c ms ba wi y w hr hl b1 b2 hs hy h0
  · rw [begAt, if_neg h0]
    exact begin_err A n c ms ba wi y w hr hl b1 b2 hs hy h0
end Go.Proofs.Ytmcfamoicdmkdaa
