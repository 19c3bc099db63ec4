/-
  The walk of DecreeRuns: worlds begin, and run, as the document says. Conditions: none beyond the arguments' own.
-/
import Derived.Test.YtiiobafcgdelmaaGreatK01
import Derived.Test.YtiiobafcgdelmaaGreatK49
import Derived.Test.YtiiobafcgdelmaaGreatK50
import Derived.Test.YtiiobafcgdelmaaGreatKMvs
set_option linter.unusedVariables false
set_option linter.unusedSimpArgs false
namespace Go.Proofs.YtiiobafcgdelmaaGreat
open Go.RowKit Go.Shelf PD
theorem rwsame_self (v : Value) (a : DC.Wd) (u : Value) (W : World) (H : WIs W v a) (K : WIs W u a) (F : WFit a) : Calls Tryz.prog 10 #[v, u] W (BoolIs true W) := by
 have := rwsame_any v a u a W H K F F
 rwa [decide_eq_true rfl] at this
set_option maxRecDepth 100000 in
set_option maxHeartbeats 16000000 in
theorem decreeRuns_walk (A : Option Addr) (n c : Nat) (zs : List Int) (B : Option Addr) (m d : Nat) (l : List DC.Mv) (w : World) (h1 : IsRow .i64 w A n c zs) (h2 : MvsArg w B m d l) :
  Calls Tryz.prog 4 #[.slice A n c, .slice B m d] w (BoolIs true w) := by
 have hn63 : n ≤ 9223372036854775807 := by have := h1.len_le; unfold maxLen at this; omega
 have hm63 : m ≤ 9223372036854775807 := by have := h2.2.2.1; unfold maxLen at this; omega
 have hrd := h1.ints
 obtain ⟨ms, hms⟩ : ∃ ms, ms = zs.take n := ⟨_, rfl⟩
 rw [← hms] at hrd
 obtain ⟨hl, hlen, _, hF⟩ := h2
 have HLG := h! (fun (U : World) (hU : Below w.heap.size w U) => llong_any B m d l U (RdG.below hl hU) hlen hm63 (fun x hx => (hF x hx).2.2))
 have HRD := h! hrd
 have HL := h! hl
 have HF := h! hF
 have HLEN := h! hlen
 clear h1 hrd hms hl hF hlen
 go_enter Tryz.func4, Tryz.ntmps4
 by_cases hn : 2000 < n
 ·have en : decide ((2000 : Int) < (n : Int)) = true := by simp; omega
  go_wp2_with fail
  go_ret
  exact ⟨rfl, Below.refl _ _⟩
 have en : decide ((2000 : Int) < (n : Int)) = false := by simp; omega
 by_cases hm : 150 < m ∧ m ≤ 1000
 ·have em : decide ((150 : Int) < (m : Int)) = true := by simp; omega
  have em2 : decide ((m : Int) ≤ (1000 : Int)) = true := by simp; omega
  go_wp2_with fail
  go_ret
  exact ⟨rfl, Below.refl _ _⟩
 go_upto_region 1 with (fail)
 go_cut [30] (fun x wx => ∃ b : Bool, x = .bool b ∧ wx = w)
 case first =>
  by_cases h150 : 150 < m
  ·have em : decide ((150 : Int) < (m : Int)) = true := by simp; omega
   have em2 : decide ((m : Int) ≤ (1000 : Int)) = false := by simp; omega
   go_wp2_with fail
   refine (HLG.out w (Below.refl _ _)).mono ?_
   rintro e w2 ⟨rfl, rfl⟩
   go_wp2_with fail
   go_meet
   case rel => exact ⟨_, rfl, rfl⟩
  ·have em : decide ((150 : Int) < (m : Int)) = false := by simp; omega
   go_wp2_with fail
   refine (HLG.out w (Below.refl _ _)).mono ?_
   rintro e w2 ⟨rfl, rfl⟩
   go_wp2_with fail
   go_meet
   case rel => exact ⟨_, rfl, rfl⟩
 clear HLG en hm
 obtain ⟨b, rfl, rfl⟩ := hcut
 rcases b with _ | _
 rotate_left
 ·go_wp2_with fail
  go_ret
  exact ⟨rfl, Below.refl _ _⟩
 obtain ⟨i0, hi, hz0, hz1, hz2⟩ := info_parts info_ai
 have hn2 : n ≤ 2000 := by omega
 have HG := h! (HRD.out.g)
 obtain ⟨y0, hy0⟩ := QM.chkIs_ex ms
 obtain ⟨y, hy⟩ := runIs_ex ms l
 have HN0 := h! (World.ownsRow_nil wc wc.heap.size 3 1)
 go_upto_region 4 with (at_builtin; refine wpList_append_g _ rfl _ _ 22 rfl wc.heap.size 3 i0 (.int .i64 0) 1 8 Tryz.underlying22 hi hz0 hz1 hz2 rfl (by omega) (.slice none 0 0) _ _ rfl HN0.out A n c (ic ms) rfl HG.out (ic_one _) (by unfold maxLen; omega) (by omega) n! ?_; intro v1 w1 o1 g1 ob1; simp only [Nat.zero_add, List.nil_append] at o1; obtain ⟨A5, c5, rfl, _, _⟩ := own_form o1)
 have HB1 := h! (below_of_grown g1 (by intro g h; cases h))
 have HOW := h! (Rd.of_own o1)
 clear o1 g1 ob1 HG HN0 hi hz0 hz1 hz2
 have HC := h! ((wnew_any A5 n c5 ms y0 w1 HOW.out hn63 hy0).mono fun _ _ h => NewRet.vret h)
 obtain ⟨wd1, hwd1⟩ : ∃ wd, wd = orZero y0 (DC.start ms) := ⟨_, rfl⟩
 rw [← hwd1] at HC
 have HW1 := h! hwd1
 clear hwd1
 go_wp2_with fail
 refine HC.out.mono ?_
 clear HC
 rintro e x1 ⟨P0, p0, P1, p1, P2, p2, P3, p3, P4, p4, rfl, hb, hk⟩
 have hal : Below x1.heap.size x1 (x1.alloc (.cells #[.slice P0 wd1.ms.length p0, .slice P1 wd1.vs.length p1, .slice P2 wd1.ts.length p2, .slice P3 wd1.ml.length p3, .slice P4 wd1.ch.length p4] 28)) := b!
 have HV1 := h! (LVar.new hk)
 have hb := bmore hb hal n!
 have HOW := h! (HOW.out.below hb)
 have HB1 := h! (bmore HB1.out hb n!)
 clear hb hal hk
 go_upto_region 5 with (fail)
 generalize x1.alloc (.cells #[.slice P0 wd1.ms.length p0, .slice P1 wd1.vs.length p1, .slice P2 wd1.ts.length p2, .slice P3 wd1.ml.length p3, .slice P4 wd1.ch.length p4] 28) = u1 at HV1 HOW HB1 ⊢
 generalize x1.heap.size = g1 at HV1 ⊢
 have HC := h! ((rwnew_any A n c ms y0 u1 (HRD.out.below HB1.out) hn63 hy0).mono fun _ _ h => NewRet.vret h)
 obtain ⟨wd2, hwd2⟩ : ∃ wd, wd = orZero y0 (DC.start ms) := ⟨_, rfl⟩
 rw [← hwd2] at HC
 have HW2 := h! hwd2
 clear hwd2
 go_wp2_with fail
 refine HC.out.mono ?_
 clear HC
 rintro e x2 ⟨Q0, q0, Q1, q1, Q2, q2, Q3, q3, Q4, q4, rfl, hb, hk⟩
 have hal : Below x2.heap.size x2 (x2.alloc (.cells #[.slice Q0 wd2.ms.length q0, .slice Q1 wd2.vs.length q1, .slice Q2 wd2.ts.length q2, .slice Q3 wd2.ml.length q3, .slice Q4 wd2.ch.length q4] 28)) := b!
 have HV2 := h! (LVar.new hk)
 have hb := bmore hb hal n!
 have HV1 := h! (HV1.out.below hb)
 have HOW := h! (HOW.out.below hb)
 have HB1 := h! (bmore HB1.out hb n!)
 clear hb hal hk
 go_upto_region 6 with (fail)
 generalize x2.alloc (.cells #[.slice Q0 wd2.ms.length q0, .slice Q1 wd2.vs.length q1, .slice Q2 wd2.ts.length q2, .slice Q3 wd2.ml.length q3, .slice Q4 wd2.ch.length q4] 28) = u2 at HV1 HV2 HOW HB1 ⊢
 generalize x2.heap.size = g2 at HV2 ⊢
 have HC := h! ((wrun_any A5 n c5 ms B m d l y u2 HOW.out hn63 (RdG.below HL.out HB1.out) HLEN.out hm63 HF.out hy).mono fun _ _ h => RunRet.vret h)
 obtain ⟨wd3, hwd3⟩ : ∃ wd, wd = orZero y (DC.runF (DC.start ms) l) := ⟨_, rfl⟩
 rw [← hwd3] at HC
 have HW3 := h! hwd3
 clear hwd3
 go_wp2_with fail
 refine HC.out.mono ?_
 clear HC
 rintro e x3 ⟨R0, r0, R1, r1, R2, r2, R3, r3, R4, r4, rfl, hb, hk⟩
 have hal : Below x3.heap.size x3 (x3.alloc (.cells #[.slice R0 wd3.ms.length r0, .slice R1 wd3.vs.length r1, .slice R2 wd3.ts.length r2, .slice R3 wd3.ml.length r3, .slice R4 wd3.ch.length r4] 28)) := b!
 have HV3 := h! (LVar.new hk)
 have hb := bmore hb hal n!
 have HV1 := h! (HV1.out.below hb)
 have HV2 := h! (HV2.out.below hb)
 have HOW := h! (HOW.out.below hb)
 have HB1 := h! (bmore HB1.out hb n!)
 clear hb hal hk
 go_upto_region 7 with (fail)
 generalize x3.alloc (.cells #[.slice R0 wd3.ms.length r0, .slice R1 wd3.vs.length r1, .slice R2 wd3.ts.length r2, .slice R3 wd3.ml.length r3, .slice R4 wd3.ch.length r4] 28) = u3 at HV1 HV2 HV3 HOW HB1 ⊢
 generalize x3.heap.size = g3 at HV3 ⊢
 have HC := h! ((rwrun_any A n c ms B m d l y u3 (HRD.out.below HB1.out) hn63 (RdG.below HL.out HB1.out) HLEN.out hm63 HF.out hy).mono fun _ _ h => RRunRet.vret h)
 obtain ⟨wd4, hwd4⟩ : ∃ wd, wd = orZero y (DC.runF (DC.start ms) l) := ⟨_, rfl⟩
 rw [← hwd4] at HC
 have HW4 := h! hwd4
 clear hwd4
 go_wp2_with fail
 refine HC.out.mono ?_
 clear HC
 rintro e x4 ⟨S0, s0, S1, s1, S2, s2, S3, s3, S4, s4, rfl, hb, hk⟩
 have hal : Below x4.heap.size x4 (x4.alloc (.cells #[.slice S0 wd4.ms.length s0, .slice S1 wd4.vs.length s1, .slice S2 wd4.ts.length s2, .slice S3 wd4.ml.length s3, .slice S4 wd4.ch.length s4] 28)) := b!
 have HV4 := h! (LVar.new hk)
 have hb := bmore hb hal n!
 have HV1 := h! (HV1.out.below hb)
 have HV2 := h! (HV2.out.below hb)
 have HV3 := h! (HV3.out.below hb)
 have HOW := h! (HOW.out.below hb)
 have HB1 := h! (bmore HB1.out hb n!)
 clear hb hal hk
 go_upto_region 8 with (fail)
 generalize x4.alloc (.cells #[.slice S0 wd4.ms.length s0, .slice S1 wd4.vs.length s1, .slice S2 wd4.ts.length s2, .slice S3 wd4.ml.length s3, .slice S4 wd4.ch.length s4] 28) = u4 at HV1 HV2 HV3 HV4 HOW HB1 ⊢
 generalize x4.heap.size = g4 at HV4 ⊢
 have HF1 := h! (show WFit wd1 by rw [HW1.out]; exact fit_new hy0)
 have HF3 := h! (show WFit wd3 by rw [HW3.out]; exact fit_run hy)
 obtain rfl : wd1 = wd2 := by rw [HW1.out, HW2.out]
 obtain rfl : wd3 = wd4 := by rw [HW3.out, HW4.out]
 have ey0 : (y0 == y0) = true := by simp
 have ey : (y == y) = true := by simp
 have HS1 := h! (rwsame_self _ wd1 _ u4 HV1.out.2.is HV2.out.2.is HF1.out)
 have HS2 := h! (fun (U : World) (hU : Below u4.heap.size u4 U) => rwsame_self _ wd3 _ U (HV3.out.below hU).2.is (HV4.out.below hU).2.is HF3.out)
 have HS3 := h! (fun (U : World) (hU : Below u4.heap.size u4 U) => same_ints A5 A n c5 c ms U (HOW.out.below hU) (HRD.out.below (bmore HB1.out hU n!)) hn63)
 obtain ⟨⟨x0, x1, x2, x3, x4⟩, _⟩ := HV1.out.1.five
 obtain ⟨⟨z0, z1, z2, z3, z4⟩, _⟩ := HV2.out.1.five
 clear HW1 HW2 HW3 HW4 hy hy0
 go_wp2_with fail
 refine HS1.out.mono ?_
 rintro e v1 ⟨rfl, hb1⟩
 have HB2 := h! hb1
 clear x0 x1 x2 x3 x4 z0 z1 z2 z3 z4 hb1 HS1
 obtain ⟨⟨x0, x1, x2, x3, x4⟩, _⟩ := (HV3.out.below HB2.out).1.five
 obtain ⟨⟨z0, z1, z2, z3, z4⟩, _⟩ := (HV4.out.below HB2.out).1.five
 go_wp2_with fail
 refine (HS2.out _ HB2.out).mono ?_
 rintro e v2 ⟨rfl, hb2⟩
 have HB3 := h! (bmore HB2.out hb2 n!)
 clear x0 x1 x2 x3 x4 z0 z1 z2 z3 z4 hb2 HS2
 go_wp2_with fail
 refine (HS3.out _ HB3.out).mono ?_
 rintro e v3 ⟨rfl, q3, rfl⟩
 go_wp2_with fail
 go_ret
 exact ⟨rfl, below_drewN (bmore HB1.out HB3.out n!) _⟩
end Go.Proofs.YtiiobafcgdelmaaGreat
