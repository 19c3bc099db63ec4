/-
  The walk of OrderAsks. Conditions: as the walk says.
-/
import Derived.Test.YteebeiaokfenmaaGreatL43
set_option linter.unusedVariables false
set_option linter.unusedSimpArgs false
set_option maxRecDepth 100000
set_option maxHeartbeats 16000000
namespace Go.Proofs.YteebeiaokfenmaaGreat
namespace KP
open Go.RowKit CP TP LP SP
open CM (Mg Cm)
open TM (Sp)
open KM (Wt Sk)
theorem orderAsks_walk0 (A : Option Addr) (n c : Nat) (ls : List (List ByteArray)) (vm : Value) (m : Mg) (B : Option Addr) (na ca : Nat) (x : List Sp) (C : Option Addr) (nb cb : Nat) (y : List Sp) (w : World) (h : LogsIs w A n c ls) (hs : ∀ l ∈ ls, ∀ t ∈ l, t.size ≤ maxLen) (hm : MgIs w vm m) (hf : MgFit m)
  (hx : SpsIs w B na ca x) (hxf : ∀ s ∈ x, i64In s.i) (hy : SpsIs w C nb cb y) (hyf : ∀ s ∈ y, i64In s.i) :
  Calls Tryz.prog 5 #[.slice A n c, vm, .slice B na ca, .slice C nb cb] w fun e w' => e = .returned (.bool true) ∧ Below w.heap.size w w' := by
 have hn63 : n ≤ 9223372036854775807 := by
  obtain ⟨_, _, _, _, h1, h2⟩ := h
  unfold maxLen at h2
  omega
 have ha63 := hx.small
 have hb63' := hy.small
 have H := h! (fun W (hb : Below w.heap.size w W) => h.below hb)
 have HS := h! hs
 have HXX := h! (fun W (hb : Below w.heap.size w W) => hx.below hb)
 have HYY := h! (fun W (hb : Below w.heap.size w W) => hy.below hb)
 have HXF := h! hxf
 have HYF := h! hyf
 have KF1 := h! (fun W (hb : Below w.heap.size w W) => pfinal16_any A n c ls vm m W (h.below hb) hs (hm.below hb) hf)
 have KF2 := h! (fun W (hb : Below w.heap.size w W) => rfinal16_any A n c ls vm m W (h.below hb) hs (hm.below hb) hf)
 have KH1 := h! (fun W (hb : Below w.heap.size w W) => phonest16_any A n c ls W (h.below hb) hs)
 have KH2 := h! (fun W (hb : Below w.heap.size w W) => rhonest16_any A n c ls W (h.below hb) hs)
 unfold HoQ at KH1 KH2
 obtain ⟨R, hR⟩ : ∃ R, R = finR ls m := ⟨_, rfl⟩
 rw [← hR] at KF1 KF2
 obtain ⟨r, hr⟩ : ∃ r, r = allE ls := ⟨_, rfl⟩
 rw [← hr] at KH1 KH2
 obtain ⟨PH, hPH⟩ : ∃ PH, PH = OM.honest (cmL ls) := ⟨_, rfl⟩
 rw [← hPH] at KH1 KH2
 obtain ⟨G, cg, rfl, hrow⟩ := hm
 have hg63 : m.gs.length ≤ 9223372036854775807 := by have := hrow.2; unfold maxLen at this; omega
 have hk63 : m.key.size ≤ 9223372036854775807 := by have := hf.2.2.1; unfold maxLen at this; omega
 have hb63 : m.body.size ≤ 9223372036854775807 := by have := hf.2.2.2; unfold maxLen at this; omega
 clear h hs hx hxf hy hyf hf hrow hR hr hPH
 obtain ⟨ai, ag, at_, ak, ab⟩ := m
 unfold mcells at KF1 KF2 ⊢
 simp only at KF1 KF2 hg63 hk63 hb63 ⊢
 obtain ⟨p5, hp5⟩ : ∃ p5, w.heap.size = p5 := ⟨_, rfl⟩
 have HB := h! (show Below w.heap.size w (w.alloc (.cells #[.int .i64 ai, .slice G ag.length cg, .int .i64 at_, .string ak, .string ab] 33)) from (Below.refl _ _).alloc n! _)
 have X := h! (Box.new_at (w := w) (t := 33) (cs := #[.int .i64 ai, .slice G ag.length cg, .int .i64 at_, .string ak, .string ab]) p5 hp5)
 go_enter Tryz.func5, Tryz.ntmps5
 go_upto_region 1 with (fail)
 generalize w.alloc (.cells #[.int .i64 ai, .slice G ag.length cg, .int .i64 at_, .string ak, .string ab] 33) = w1 at HB X ⊢
 try simp only [hp5]
 clear hp5
 have HG := h! (OP.great16_any A n c ls w1 (H.out w1 HB.out) HS.out)
 go_wp2_with fail
 refine (HG.out).mono ?_
 rintro e w2 ⟨bg, rfl, _, hb⟩
 replace HB := h! (bmore HB.out hb n!)
 replace X := h! (X.out.below hb X.out.lt)
 clear hb HG
 rcases bg with _ | _
 rotate_left
 ·go_wp2_with fail
  go_ret
  exact ⟨rfl, HB.out⟩
 obtain ⟨x0, x1, x2, x3, x4⟩ := box_mg X.out
 obtain ⟨sz, hw5⟩ : ∃ sz : Int, IntKind.i64.wrap ((ak.size : Int) + (ab.size : Int)) = sz := ⟨_, rfl⟩
 by_cases h3 : 1000 < ag.length
 ·have t3 : decide ((1000 : Int) < (ag.length : Int)) = true := by rw [decide_eq_true_iff]; omega
  go_wp2_with fail
  go_ret
  exact ⟨rfl, HB.out⟩
 have t3 : decide ((1000 : Int) < (ag.length : Int)) = false := by rw [decide_eq_false_iff_not]; omega
 by_cases h4 : 5000 < sz
 ·have t4 : decide ((5000 : Int) < sz) = true := by rw [decide_eq_true_iff]; omega
  go_wp2_with fail
  go_ret
  exact ⟨rfl, HB.out⟩
 have t4 : decide ((5000 : Int) < sz) = false := by rw [decide_eq_false_iff_not]; omega
 by_cases h5 : 300 < na
 ·have t5 : decide ((300 : Int) < (na : Int)) = true := by rw [decide_eq_true_iff]; omega
  go_wp2_with fail
  go_ret
  exact ⟨rfl, HB.out⟩
 have t5 : decide ((300 : Int) < (na : Int)) = false := by rw [decide_eq_false_iff_not]; omega
 by_cases h6 : 300 < nb
 ·have t6 : decide ((300 : Int) < (nb : Int)) = true := by rw [decide_eq_true_iff]; omega
  go_wp2_with fail
  go_ret
  exact ⟨rfl, HB.out⟩
 have t6 : decide ((300 : Int) < (nb : Int)) = false := by rw [decide_eq_false_iff_not]; omega
 go_upto_region 3 with (fail)
 clear hw5 t3 t4 t5 t6 h3 h4
 go_wp2_with fail
 clear x0 x1 x2 x3 x4
 refine (KF1.out w2 HB.out).mono ?_
 rintro e w3 ⟨rfl, hb⟩
 replace HB := h! (bmore HB.out hb n!)
 replace X := h! (X.out.below hb X.out.lt)
 clear hb KF1
 obtain ⟨x0, x1, x2, x3, x4⟩ := box_mg X.out
 go_wp2_with fail
 clear x0 x1 x2 x3 x4
 refine (KF2.out w3 HB.out).mono ?_
 rintro e w4 ⟨rfl, hb⟩
 replace HB := h! (bmore HB.out hb n!)
 clear hb KF2
 go_wp2_with fail
 refine (KH1.out w4 HB.out).mono ?_
 rintro e w5 ⟨b1, rfl, hb1, hb⟩
 replace HB := h! (bmore HB.out hb n!)
 clear hb KH1
 go_wp2_with fail
 refine (KH2.out w5 HB.out).mono ?_
 rintro e w6 ⟨b2, rfl, hb2, hb⟩
 replace HB := h! (bmore HB.out hb n!)
 clear hb KH2
 obtain rfl : b1 = b2 := Bool.eq_iff_iff.2 (hb1.trans hb2.symm)
 have KA1 := h! (fun W (hb : Below w.heap.size w W) => pagree16_any B C na nb ca cb x y W (HXX.out W hb) (HYY.out W hb) (by omega) (by omega) HXF.out HYF.out)
 have KA2 := h! (fun W (hb : Below w.heap.size w W) => agree16_any B C na nb ca cb x y W (HXX.out W hb) (HYY.out W hb) (by omega) (by omega))
 obtain ⟨q, hq⟩ : ∃ q, q = OM.agreeF x y := ⟨_, rfl⟩
 rw [← hq] at KA1 KA2
 clear hb1 hb2 hq
 obtain ⟨R1, R2, R3⟩ := R
 have e1 : (R1 == R1) = true := by simp
 have e2 : (R2 == R2) = true := by simp
 have e3 : (R3 == R3) = true := by simp
 have e4 : (b1 == b1) = true := by simp
 have e5 : (r == r) = true := by simp
 have e6 : (q == q) = true := by simp
 go_wp2_with fail
 refine (KA1.out w6 HB.out).mono ?_
 rintro e w7 ⟨rfl, hb⟩
 replace HB := h! (bmore HB.out hb n!)
 clear hb KA1
 go_wp2_with fail
 refine (KA2.out w7 HB.out).mono ?_
 rintro e w8 ⟨rfl, hb⟩
 replace HB := h! (bmore HB.out hb n!)
 clear hb KA2
 go_wp2_with fail
 go_ret
 exact ⟨rfl, HB.out⟩
end KP
section
open Go.RowKit
theorem orderAsks_walk (a0 : Option Addr) (len0 cap0 : Nat) (z0 : List (List ByteArray)) (v1 : Value) (x1 : CM.Mg) (a2 : Option Addr) (len2 cap2 : Nat) (z2 : List TM.Sp) (a3 : Option Addr) (len3 cap3 : Nat) (z3 : List TM.Sp) (w : World) (w0 : SP.LogsArg w a0 len0 cap0 z0) (w1 : CP.MgArg w v1 x1) (w2 : TP.SpsArg w a2 len2 cap2 z2) (w3 : TP.SpsArg w a3 len3 cap3 z3) :
  Calls Tryz.prog 5 #[.slice a0 len0 cap0, v1, .slice a2 len2 cap2, .slice a3 len3 cap3] w fun e w' => e = .returned (.bool true) ∧ Below w.heap.size w w' :=
 KP.orderAsks_walk0 a0 len0 cap0 z0 v1 x1 a2 len2 cap2 z2 a3 len3 cap3 z3 w w0.1 w0.2 w1.1 w1.2 w2.1 (fun s hs => (w2.2 s hs).2) w3.1 (fun s hs => (w3.2 s hs).2)
end
end Go.Proofs.YteebeiaokfenmaaGreat
