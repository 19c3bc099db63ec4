/-
  What package attempt's Check, Begin, Promised and Accepted answer. Conditions: the attempt fits.
-/
import Derived.Test.YtmcfamoicdmkdaaAttE
import Derived.Test.YtmcfamoicdmkdaaAttK
namespace Go.Proofs.Ytmcfamoicdmkdaa
open Go.RowKit
set_option linter.unusedVariables false
set_option linter.unusedSimpArgs false

set_option maxRecDepth 100000 in
set_option maxHeartbeats 2000000 in
theorem acheck_any (v : Value) (a : AM.At) (w : World) (H : AtIs w v a) (F : Fit a) :
    Calls Try.prog 21 #[v] w (IntIs (if AM.may a = true then 0 else 8) w) := by
  have hm := AM.begun_may a
  have H' := Lib.hid H
  have F' := Lib.hid F
  obtain ⟨A, n, c, B, m, d, C, k, f, rfl, h1, h2, h3⟩ := H
  obtain ⟨ph, ba, ms, wi, va, ps, ac⟩ := a
  simp only at h1 h2 h3 ⊢
  have hb0 : Below w.heap.size w (w.alloc (.cells #[.int .u8 ph, .int .i64 ba, .slice A n c, .string wi, .string va, .slice B m d, .slice C k f] 25)) := (Below.refl _ _).alloc (Nat.le_refl _) _
  have HB0 := Lib.hid hb0
  have X0 := Lib.hid (Box.new w 25 #[.int .u8 ph, .int .i64 ba, .slice A n c, .string wi, .string va, .slice B m d, .slice C k f])
  have HS := Lib.hid (same_any _ _ _ AM.zero _ (H'.out.below hb0) (AtIs.zero _) F'.out fit_zero)
  have HG := Lib.hid (fun (W : World) (hb : Below w.heap.size w W) => isBegun_any _ _ W (H'.out.below hb) F'.out)
  generalize decide ((⟨ph, ba, ms, wi, va, ps, ac⟩ : AM.At) = AM.zero) = z at hm HS
  generalize AM.begun ⟨ph, ba, ms, wi, va, ps, ac⟩ = g at hm HG
  generalize AM.may ⟨ph, ba, ms, wi, va, ps, ac⟩ = r at hm ⊢
  obtain ⟨y, hy⟩ : ∃ y : Int, y = (if r = true then 0 else 8) := ⟨_, rfl⟩
  rw [← hy]
  rw [← hm] at hy
  have HM := Lib.hid hy
  clear hm hy hb0 h1 h2 h3 F' H' F
  go_enter Try.func21, Try.ntmps21
  go_wp2_with fail
  refine HS.out.mono ?_
  rintro e w1 ⟨rfl, hb1⟩
  have HB1 := Lib.hid (bmore HB0.out hb1 (Nat.le_refl _))
  obtain ⟨⟨t0, t1, t2, t3, t4, t5, t6⟩, _⟩ := (X0.out.below hb1 X0.out.lt).seven
  clear hb1 X0 HB0 HS
  cases z
  · go_wp2_with fail
    refine (HG.out _ HB1.out).mono ?_
    rintro e w2 ⟨rfl, hb2⟩
    have HB2 := Lib.hid (bmore HB1.out hb2 (Nat.le_refl _))
    clear hb2 HB1 t0 t1 t2 t3 t4 t5 t6
    cases g
    · go_wp2_with fail
      go_ret
      exact ⟨by rw [HM.out]; rfl, HB2.out⟩
    · go_wp2_with fail
      go_ret
      exact ⟨by rw [HM.out]; rfl, HB2.out⟩
  · go_wp2_with fail
    go_ret
    exact ⟨by rw [HM.out]; simp, HB1.out⟩

/-- an attempt in new memory, and an error -/
def ErrRet (a : AM.At) (y : Int) (w : World) (e : Ending) (w' : World) : Prop := ∃ v, e = .returned (.tuple #[v, .int .i64 y]) ∧ AtOwn w' w.heap.size v a ∧ Below w.heap.size w w'
theorem onward_ms (a : AM.At) : (AM.onward a).ms = a.ms := by unfold AM.onward; repeat (first | rfl | split)
theorem onward_ps (a : AM.At) : (AM.onward a).ps = a.ps := by unfold AM.onward; repeat (first | rfl | split)
theorem onward_ac (a : AM.At) : (AM.onward a).ac = a.ac := by unfold AM.onward; repeat (first | rfl | split)
theorem may_ok {a : AM.At} (h : AM.may a = true) (h0 : ¬ a.ph = 0) : AM.okL a = true := by
  unfold AM.may at h
  rw [if_neg h0] at h
  simp only [Bool.and_eq_true] at h
  exact h.2.1
theorem okL_rise {a : AM.At} (h : AM.okL a = true) : QM.may a.ms = true ∧ QM.rise (-1) (AM.nodes a.ps) = true ∧ QM.rise (-1) a.ac = true ∧ a.ps.length ≤ 6 ∧ a.ac.length ≤ 6 := by
  have h1 := AM.okL_may h
  rw [okL_parts] at h
  simp only [Bool.and_eq_true] at h
  have := AM.some_len h.2.2.1
  rw [AM.nodes_length] at this
  exact ⟨h1, AM.some_rise h.2.2.1, AM.some_rise h.2.2.2, this, AM.some_len h.2.2.2⟩
/-- rows of other elements lie apart -/
theorem own_apart {w : World} {b1 b2 s1 s2 n1 n2 : Nat} {e1 e2 : TypeId} {v1 v2 : Value} {x1 x2 : List Value} (h1 : w.ownsRow b1 e1 s1 v1 n1 x1) (h2 : w.ownsRow b2 e2 s2 v2 n2 x2) (he : e1 ≠ e2) : ∀ g, v1.ownBlock = some g → some g ≠ v2.ownBlock := by
  intro g hg hh
  obtain ⟨_, c1, k1⟩ := own_block h1 hg
  obtain ⟨_, c2, k2⟩ := own_block h2 hh.symm
  rw [Box] at k1 k2
  rw [k1] at k2
  injection k2 with k2
  injection k2 with _ k2
  exact he k2
theorem insP_len (l : List AM.Pr) (p : AM.Pr) : (AM.insP l p).length = l.length + 1 := by
  rw [insP_pos]; simp
  have := pos_le (AM.nodes l) p.n
  rw [AM.nodes_length] at this
  omega
theorem insI_len (l : List Int) (x : Int) : (AM.insI l x).length = l.length + 1 := by
  rw [insI_pos]; simp
  have := pos_le l x
  omega
end Go.Proofs.Ytmcfamoicdmkdaa
