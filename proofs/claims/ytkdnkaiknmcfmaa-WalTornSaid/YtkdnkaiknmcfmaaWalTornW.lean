/-
  The walk of WalTorn: wherever a disk fails behind what was added, it is opened with the records of before, and some first ones of those that were added; behind what was written anew with those of before, or all of these.
-/
import Derived.Test.YtkdnkaiknmcfmaaWalE
import Derived.Test.YtkdnkaiknmcfmaaWalMath
import Derived.Test.YtkdnkaiknmcfmaaDiskArg
import Derived.Test.YtkdnkaiknmcfmaaDiskGr
import Derived.Lib.MinMax
namespace Go.Proofs.Ytkdnkaiknmcfmaa
open Go.RowKit
set_option linter.unusedVariables false

set_option maxRecDepth 100000 in
set_option maxHeartbeats 16000000 in
theorem walTorn_core (v : Value) (b : List UInt8) (ps : List DM.Wr) (L : Option Addr) (nl cl : Nat) (ls : List (List UInt8)) (keep many : Int) (w : World) (HV : Hid (DiskArg w v b ps)) (HL : Hid (Rd w L nl (sc ls))) (HNl : Hid (nl ≤ maxLen)) (HSm : Hid (∀ t ∈ ls, t.length ≤ 9223372036854775807))
    (hk1 : -9223372036854775808 ≤ keep) (hk2 : keep ≤ 9223372036854775807) (hm1 : -9223372036854775808 ≤ many) (hm2 : many ≤ 9223372036854775807) :
    Calls Try.prog 6 #[v, .slice L nl cl, .int .i64 keep, .int .i64 many] w fun e w' => e = .returned (.bool true) ∧ Below w.heap.size w w' := by
  obtain ⟨hv0, hb0, hp0⟩ := HV.out
  obtain ⟨A, n, c, B, m, d, rfl, h1, h2, h3, h4, h5, h6⟩ := hv0
  have hst : Below w.heap.size w (w.alloc (.cells #[.slice A n c, .slice B m d] 25)) := (Below.refl _ _).alloc (Nat.le_refl _) _
  have HW := Lib.hid hst
  have Vd : Hid (Var (w.alloc (.cells #[.slice A n c, .slice B m d] 25)) w.heap.size A n c B m d b ps) := Lib.hid ⟨Box.new _ _ _, HV.out.1.below hst⟩
  have RL := Lib.hid (HL.out.below hst)
  have HB0 := Lib.hid hb0
  have HP0 := Lib.hid hp0
  have hnl9 : nl ≤ 9223372036854775807 := by have := HNl.out; unfold maxLen at this; omega
  have hll : ls.length = nl := by have := HL.out.1; rwa [sc_length] at this
  have HLL := Lib.hid hll
  clear hst h1 h2 h3 h4 h5 h6 HV hb0 hp0 HL hll
  go_enter Try.func6, Try.ntmps6
  go_wp2_with fail
  generalize w.alloc (.cells #[.slice A n c, .slice B m d] 25) = u0 at Vd RL HW ⊢
  generalize hgd : w.heap.size = gd at Vd ⊢
  have HGD := Lib.hid hgd; clear hgd
  refine (alive_any _).mono ?_
  rintro e wa ⟨rfl, hb⟩
  have Vd_ := Lib.hid (Vd.out.below hb)
  have RL_ := Lib.hid (RL.out.below hb)
  have HW_ := Lib.hid (bmore HW.out hb (Nat.le_refl _))
  clear HW Vd RL
  have Vd := Vd_; clear Vd_
  have RL := RL_; clear RL_
  have HW := HW_; clear HW_
  clear hb
  have k0d := Vd.out.c0
  have k1d := Vd.out.c1
  go_wp2_with fail
  clear k0d k1d
  refine (great_any _ b ps _ (Lib.hid Vd.out.2) HB0.out HP0).mono ?_
  rintro e wg ⟨gr, rfl, hsmall, hb⟩
  have Vd_ := Lib.hid (Vd.out.below hb)
  have RL_ := Lib.hid (RL.out.below hb)
  have HW_ := Lib.hid (bmore HW.out hb (Nat.le_refl _))
  clear HW Vd RL
  have Vd := Vd_; clear Vd_
  have RL := RL_; clear RL_
  have HW := HW_; clear HW_
  clear hb
  cases gr with
  | true =>
    go_wp2
    go_ret
    exact ⟨rfl, HW.out⟩
  | false =>
  have HSmall := Lib.hid (hsmall rfl); clear hsmall
  go_wp2_with fail
  refine (tgreat_any L nl cl ls _ RL.out HSm.out hnl9).mono ?_
  rintro e wh ⟨gr, rfl, rfl, hgr⟩
  cases gr with
  | true =>
    clear hgr
    go_wp2
    go_ret
    exact ⟨rfl, HW.out⟩
  | false =>
  have hnl : nl ≤ 1000 := hgr rfl
  clear hgr
  obtain ⟨b1, p1, was, x1, ho1⟩ := openIs_ex b ps
  obtain ⟨r2, x2, hs2⟩ := seeIs_ex b1 p1
  obtain ⟨b3, p3, x3, ha3⟩ := addIs_ex r2 [] ls
  obtain ⟨r4, x4, hc4⟩ := crashIs_ex b3 p3 keep many
  obtain ⟨n1, h_n1⟩ : ∃ k, b1.length = k := ⟨_, rfl⟩
  have H_n1 := Lib.hid h_n1; clear h_n1
  obtain ⟨m1, h_m1⟩ : ∃ k, p1.length = k := ⟨_, rfl⟩
  have H_m1 := Lib.hid h_m1; clear h_m1
  obtain ⟨q1, h_q1⟩ : ∃ k, was.length = k := ⟨_, rfl⟩
  have H_q1 := Lib.hid h_q1; clear h_q1
  obtain ⟨n2, h_n2⟩ : ∃ k, r2.length = k := ⟨_, rfl⟩
  have H_n2 := Lib.hid h_n2; clear h_n2
  obtain ⟨n3, h_n3⟩ : ∃ k, b3.length = k := ⟨_, rfl⟩
  have H_n3 := Lib.hid h_n3; clear h_n3
  obtain ⟨m3, h_m3⟩ : ∃ k, p3.length = k := ⟨_, rfl⟩
  have H_m3 := Lib.hid h_m3; clear h_m3
  obtain ⟨n4, h_n4⟩ : ∃ k, r4.length = k := ⟨_, rfl⟩
  have H_n4 := Lib.hid h_n4; clear h_n4
  have HO1 := Lib.hid ho1; clear ho1
  have HS2 := Lib.hid hs2; clear hs2
  have HA3 := Lib.hid ha3; clear ha3
  have HC4 := Lib.hid hc4; clear hc4
  have k0d := Vd.out.c0
  have k1d := Vd.out.c1
  go_wp2_with fail
  clear k0d k1d
  refine (open_any _ b b1 ps p1 was x1 n1 m1 q1 _ (Lib.hid Vd.out.2) HO1 H_n1 H_m1 H_q1).mono ?_
  rintro e w1 ⟨A1, c1, B1, d1, C1, e1, rfl, hown, hr, l1, l2, hb⟩
  obtain ⟨hst, v1⟩ := var_step hb hown
  have hr_ := hr.below ((Below.refl w1.heap.size w1).alloc (Nat.le_refl _) (.cells #[.slice A1 n1 c1, .slice B1 m1 d1] 25))
  have Vd_ := Lib.hid (Vd.out.below hst)
  have RL_ := Lib.hid (RL.out.below hst)
  have HW_ := Lib.hid (bmore HW.out hst (Nat.le_refl _))
  clear HW Vd RL
  have Vd := Vd_; clear Vd_
  have RL := RL_; clear RL_
  have HW := HW_; clear HW_
  have V1 := Lib.hid v1
  have R1 := Lib.hid hr_
  have L1 := Lib.hid (And.intro l1 l2)
  clear hown hb hst v1 hr hr_ l1 l2
  have k01 := V1.out.c0
  have k11 := V1.out.c1
  go_wp2_with fail
  clear k01 k11
  generalize w1.alloc (.cells #[.slice A1 n1 c1, .slice B1 m1 d1] 25) = u1 at Vd V1 RL R1 HW ⊢
  generalize w1.heap.size = g1 at V1 ⊢
  refine (sync_s _ b1 r2 p1 n2 x2 _ (Lib.hid V1.out.2) HS2 H_n2).mono ?_
  rintro e w2 ⟨A2, c2, B2, d2, rfl, hown, hb⟩
  obtain ⟨hst, v2⟩ := var_step hb hown
  have Vd_ := Lib.hid (Vd.out.below hst)
  have V1_ := Lib.hid (V1.out.below hst)
  have RL_ := Lib.hid (RL.out.below hst)
  have R1_ := Lib.hid (R1.out.below hst)
  have HW_ := Lib.hid (bmore HW.out hst (Nat.le_refl _))
  clear HW Vd V1 RL R1
  have Vd := Vd_; clear Vd_
  have V1 := V1_; clear V1_
  have RL := RL_; clear RL_
  have R1 := R1_; clear R1_
  have HW := HW_; clear HW_
  have V2 := Lib.hid v2
  clear hown hb hst v2
  have k02 := V2.out.c0
  have k12 := V2.out.c1
  go_wp2_with fail
  clear k02 k12
  generalize w2.alloc (.cells #[.slice A2 n2 c2, .slice B2 0 d2] 25) = u2 at Vd V1 V2 RL R1 HW ⊢
  generalize w2.heap.size = g2 at V2 ⊢
  refine (add_any _ L nl cl r2 b3 [] p3 ls x3 n3 m3 _ (Lib.hid V2.out.2) RL HSm hnl9 HA3 H_n3 H_m3).mono ?_
  rintro e w3 ⟨A3, c3, B3, d3, rfl, hown, hb⟩
  obtain ⟨hst, v3⟩ := var_step hb hown
  have Vd_ := Lib.hid (Vd.out.below hst)
  have V1_ := Lib.hid (V1.out.below hst)
  have V2_ := Lib.hid (V2.out.below hst)
  have RL_ := Lib.hid (RL.out.below hst)
  have R1_ := Lib.hid (R1.out.below hst)
  have HW_ := Lib.hid (bmore HW.out hst (Nat.le_refl _))
  clear HW Vd V1 V2 RL R1
  have Vd := Vd_; clear Vd_
  have V1 := V1_; clear V1_
  have V2 := V2_; clear V2_
  have RL := RL_; clear RL_
  have R1 := R1_; clear R1_
  have HW := HW_; clear HW_
  have V3 := Lib.hid v3
  clear hown hb hst v3
  have k03 := V3.out.c0
  have k13 := V3.out.c1
  go_wp2_with fail
  clear k03 k13
  generalize w3.alloc (.cells #[.slice A3 n3 c3, .slice B3 m3 d3] 25) = u3 at Vd V1 V2 V3 RL R1 HW ⊢
  generalize w3.heap.size = g3 at V3 ⊢
  refine (crash_s _ b3 r4 p3 keep many x4 n4 _ (Lib.hid V3.out.2) HC4 hk1 hk2 hm1 hm2 H_n4).mono ?_
  rintro e w4 ⟨A4, c4, B4, d4, rfl, hown, hb⟩
  obtain ⟨hst, v4⟩ := var_step hb hown
  have Vd_ := Lib.hid (Vd.out.below hst)
  have V1_ := Lib.hid (V1.out.below hst)
  have V2_ := Lib.hid (V2.out.below hst)
  have V3_ := Lib.hid (V3.out.below hst)
  have RL_ := Lib.hid (RL.out.below hst)
  have R1_ := Lib.hid (R1.out.below hst)
  have HW_ := Lib.hid (bmore HW.out hst (Nat.le_refl _))
  clear HW Vd V1 V2 V3 RL R1
  have Vd := Vd_; clear Vd_
  have V1 := V1_; clear V1_
  have V2 := V2_; clear V2_
  have V3 := V3_; clear V3_
  have RL := RL_; clear RL_
  have R1 := R1_; clear R1_
  have HW := HW_; clear HW_
  have V4 := Lib.hid v4
  clear hown hb hst v4
  go_upto_region 10 with (fail)
  generalize w4.alloc (.cells #[.slice A4 n4 c4, .slice B4 0 d4] 25) = u4 at Vd V1 V2 V3 V4 RL R1 HW ⊢
  generalize w4.heap.size = g4 at V4 ⊢
  by_cases hx1 : x1 = 0
  rotate_left
  · have t1 : (x1 != 0) = true := by simpa using hx1
    have t2 : decide (x1 = 0) = false := by simpa using hx1
    go_wp2
    go_ret
    exact ⟨rfl, HW.out⟩
  subst hx1
  have HH := Lib.hid (open_has HO1.out)
  have hr2 : r2 = NM.join was ∧ x2 = 0 := by
    rcases HS2.out with ⟨_, h, h'⟩ | ⟨h, _⟩
    · exact ⟨h.trans HH.out.2.1, h'⟩
    · exact absurd HH.out.1 h
  obtain ⟨hr2, rfl⟩ := hr2
  have HJ := Lib.hid hr2; clear hr2
  have HH2 := Lib.hid (has_sync HH.out)
  have hq20 : q1 ≤ 1048576 := by rw [← H_q1.out]; exact has_many HH.out
  go_upto_region 12 with (fail)
  by_cases hx3 : x3 = 0
  rotate_left
  · have t3 : (x3 == 0) = false := by simpa using hx3
    have t4 : decide (x3 = 0) = false := by simpa using hx3
    obtain ⟨b6, p6, x6, hr6⟩ := resetIs_ex r2 [] ls
    obtain ⟨r7, x7, hc7⟩ := crashIs_ex b6 p6 keep many
    obtain ⟨n6, h_n6⟩ : ∃ k, b6.length = k := ⟨_, rfl⟩
    have H_n6 := Lib.hid h_n6; clear h_n6
    obtain ⟨m6, h_m6⟩ : ∃ k, p6.length = k := ⟨_, rfl⟩
    have H_m6 := Lib.hid h_m6; clear h_m6
    obtain ⟨n7, h_n7⟩ : ∃ k, r7.length = k := ⟨_, rfl⟩
    have H_n7 := Lib.hid h_n7; clear h_n7
    have HR6 := Lib.hid hr6; clear hr6
    have HC7 := Lib.hid hc7; clear hc7
    have k02 := V2.out.c0
    have k12 := V2.out.c1
    go_wp2_with fail
    clear k02 k12
    refine (reset_any _ L nl cl r2 b6 [] p6 ls x6 n6 m6 _ (Lib.hid V2.out.2) RL HSm HNl HR6 H_n6 H_m6).mono ?_
    rintro e w6 ⟨A6, c6, B6, d6, rfl, hown, hb⟩
    obtain ⟨hst, v6⟩ := var_step hb hown
    have Vd_ := Lib.hid (Vd.out.below hst)
    have V1_ := Lib.hid (V1.out.below hst)
    have V2_ := Lib.hid (V2.out.below hst)
    have V3_ := Lib.hid (V3.out.below hst)
    have V4_ := Lib.hid (V4.out.below hst)
    have RL_ := Lib.hid (RL.out.below hst)
    have R1_ := Lib.hid (R1.out.below hst)
    have HW_ := Lib.hid (bmore HW.out hst (Nat.le_refl _))
    clear HW Vd V1 V2 V3 V4 RL R1
    have Vd := Vd_; clear Vd_
    have V1 := V1_; clear V1_
    have V2 := V2_; clear V2_
    have V3 := V3_; clear V3_
    have V4 := V4_; clear V4_
    have RL := RL_; clear RL_
    have R1 := R1_; clear R1_
    have HW := HW_; clear HW_
    have V6 := Lib.hid v6
    clear hown hb hst v6
    have k06 := V6.out.c0
    have k16 := V6.out.c1
    go_wp2_with fail
    clear k06 k16
    generalize w6.alloc (.cells #[.slice A6 n6 c6, .slice B6 m6 d6] 25) = u6 at Vd V1 V2 V3 V4 V6 RL R1 HW ⊢
    generalize w6.heap.size = g6 at V6 ⊢
    refine (crash_s _ b6 r7 p6 keep many x7 n7 _ (Lib.hid V6.out.2) HC7 hk1 hk2 hm1 hm2 H_n7).mono ?_
    rintro e w7 ⟨A7, c7, B7, d7, rfl, hown, hb⟩
    obtain ⟨hst, v7⟩ := var_step hb hown
    have Vd_ := Lib.hid (Vd.out.below hst)
    have V1_ := Lib.hid (V1.out.below hst)
    have V2_ := Lib.hid (V2.out.below hst)
    have V3_ := Lib.hid (V3.out.below hst)
    have V4_ := Lib.hid (V4.out.below hst)
    have V6_ := Lib.hid (V6.out.below hst)
    have RL_ := Lib.hid (RL.out.below hst)
    have R1_ := Lib.hid (R1.out.below hst)
    have HW_ := Lib.hid (bmore HW.out hst (Nat.le_refl _))
    clear HW Vd V1 V2 V3 V4 V6 RL R1
    have Vd := Vd_; clear Vd_
    have V1 := V1_; clear V1_
    have V2 := V2_; clear V2_
    have V3 := V3_; clear V3_
    have V4 := V4_; clear V4_
    have V6 := V6_; clear V6_
    have RL := RL_; clear RL_
    have R1 := R1_; clear R1_
    have HW := HW_; clear HW_
    have V7 := Lib.hid v7
    clear hown hb hst v7
    go_upto_region 18 with (fail)
    generalize w7.alloc (.cells #[.slice A7 n7 c7, .slice B7 0 d7] 25) = u7 at Vd V1 V2 V3 V4 V6 V7 RL R1 HW ⊢
    generalize w7.heap.size = g7 at V7 ⊢
    by_cases hx6 : x6 = 0
    rotate_left
    · have t5 : (x6 != 0) = true := by simpa using hx6
      have t50 : decide (x6 = 0) = false := by simpa using hx6
      go_wp2
      go_ret
      exact ⟨rfl, HW.out⟩
    subst hx6
    by_cases hx7 : x7 = 0
    rotate_left
    · have t6 : (x7 != 0) = true := by simpa using hx7
      have t60 : decide (x7 = 0) = false := by simpa using hx7
      go_wp2
      go_ret
      exact ⟨rfl, HW.out⟩
    subst hx7
    have hmath := reset_math HH2.out (show ResetIs (NM.join was) [] ls b6 p6 0 by rw [← HJ.out]; exact HR6.out) HC7.out
    rcases hmath with ⟨hke, ho7⟩ | ⟨hke, ho7⟩
    ·
      subst hke
      have HO7 := Lib.hid ho7; clear ho7
      have k07 := V7.out.c0
      have k17 := V7.out.c1
      go_wp2_with fail
      clear k07 k17
      refine (open_any _ r7 r7 [] [] was 0 n7 0 q1 _ (Lib.hid V7.out.2) HO7 H_n7 (Lib.hid rfl) H_q1).mono ?_
      rintro e w8 ⟨A8, c8, B8, d8, C8, e8, rfl, hown, hr, l1, l2, hb⟩
      obtain ⟨hst, v8⟩ := var_step hb hown
      have hr_ := hr.below ((Below.refl w8.heap.size w8).alloc (Nat.le_refl _) (.cells #[.slice A8 n7 c8, .slice B8 0 d8] 25))
      have Vd_ := Lib.hid (Vd.out.below hst)
      have V1_ := Lib.hid (V1.out.below hst)
      have V2_ := Lib.hid (V2.out.below hst)
      have V3_ := Lib.hid (V3.out.below hst)
      have V4_ := Lib.hid (V4.out.below hst)
      have V6_ := Lib.hid (V6.out.below hst)
      have V7_ := Lib.hid (V7.out.below hst)
      have RL_ := Lib.hid (RL.out.below hst)
      have R1_ := Lib.hid (R1.out.below hst)
      have HW_ := Lib.hid (bmore HW.out hst (Nat.le_refl _))
      clear HW Vd V1 V2 V3 V4 V6 V7 RL R1
      have Vd := Vd_; clear Vd_
      have V1 := V1_; clear V1_
      have V2 := V2_; clear V2_
      have V3 := V3_; clear V3_
      have V4 := V4_; clear V4_
      have V6 := V6_; clear V6_
      have V7 := V7_; clear V7_
      have RL := RL_; clear RL_
      have R1 := R1_; clear R1_
      have HW := HW_; clear HW_
      have V8 := Lib.hid v8
      have R8 := Lib.hid hr_
      have L8 := Lib.hid (And.intro l1 l2)
      clear hown hb hst v8 hr hr_ l1 l2
      go_wp2_with fail
      generalize w8.alloc (.cells #[.slice A8 n7 c8, .slice B8 0 d8] 25) = u8 at Vd V1 V2 V3 V4 V6 V7 V8 RL R1 R8 HW ⊢
      generalize w8.heap.size = g8 at V8 ⊢
      refine (same_texts C8 C1 q1 e8 e1 was _ R8.out R1.out (by omega)).mono ?_
      rintro e wq ⟨rfl, qq, rfl⟩
      have hbq := below_drewN (Below.refl u8.heap.size u8) qq
      have Vd_ := Lib.hid (Vd.out.below hbq)
      have V1_ := Lib.hid (V1.out.below hbq)
      have V2_ := Lib.hid (V2.out.below hbq)
      have V3_ := Lib.hid (V3.out.below hbq)
      have V4_ := Lib.hid (V4.out.below hbq)
      have V6_ := Lib.hid (V6.out.below hbq)
      have V7_ := Lib.hid (V7.out.below hbq)
      have V8_ := Lib.hid (V8.out.below hbq)
      have RL_ := Lib.hid (RL.out.below hbq)
      have R1_ := Lib.hid (R1.out.below hbq)
      have R8_ := Lib.hid (R8.out.below hbq)
      have HW_ := Lib.hid (bmore HW.out hbq (Nat.le_refl _))
      clear HW Vd V1 V2 V3 V4 V6 V7 V8 RL R1 R8
      have Vd := Vd_; clear Vd_
      have V1 := V1_; clear V1_
      have V2 := V2_; clear V2_
      have V3 := V3_; clear V3_
      have V4 := V4_; clear V4_
      have V6 := V6_; clear V6_
      have V7 := V7_; clear V7_
      have V8 := V8_; clear V8_
      have RL := RL_; clear RL_
      have R1 := R1_; clear R1_
      have R8 := R8_; clear R8_
      have HW := HW_; clear HW_
      clear hbq
      go_wp2
      go_ret
      exact ⟨rfl, HW.out⟩
    ·
      subst hke
      have HO7 := Lib.hid ho7; clear ho7
      have k07 := V7.out.c0
      have k17 := V7.out.c1
      go_wp2_with fail
      clear k07 k17
      refine (open_any _ r7 r7 [] [] ls 0 n7 0 nl _ (Lib.hid V7.out.2) HO7 H_n7 (Lib.hid rfl) HLL).mono ?_
      rintro e w8 ⟨A8, c8, B8, d8, C8, e8, rfl, hown, hr, l1, l2, hb⟩
      obtain ⟨hst, v8⟩ := var_step hb hown
      have hr_ := hr.below ((Below.refl w8.heap.size w8).alloc (Nat.le_refl _) (.cells #[.slice A8 n7 c8, .slice B8 0 d8] 25))
      have Vd_ := Lib.hid (Vd.out.below hst)
      have V1_ := Lib.hid (V1.out.below hst)
      have V2_ := Lib.hid (V2.out.below hst)
      have V3_ := Lib.hid (V3.out.below hst)
      have V4_ := Lib.hid (V4.out.below hst)
      have V6_ := Lib.hid (V6.out.below hst)
      have V7_ := Lib.hid (V7.out.below hst)
      have RL_ := Lib.hid (RL.out.below hst)
      have R1_ := Lib.hid (R1.out.below hst)
      have HW_ := Lib.hid (bmore HW.out hst (Nat.le_refl _))
      clear HW Vd V1 V2 V3 V4 V6 V7 RL R1
      have Vd := Vd_; clear Vd_
      have V1 := V1_; clear V1_
      have V2 := V2_; clear V2_
      have V3 := V3_; clear V3_
      have V4 := V4_; clear V4_
      have V6 := V6_; clear V6_
      have V7 := V7_; clear V7_
      have RL := RL_; clear RL_
      have R1 := R1_; clear R1_
      have HW := HW_; clear HW_
      have V8 := Lib.hid v8
      have R8 := Lib.hid hr_
      have L8 := Lib.hid (And.intro l1 l2)
      clear hown hb hst v8 hr hr_ l1 l2
      go_wp2_with fail
      generalize w8.alloc (.cells #[.slice A8 n7 c8, .slice B8 0 d8] 25) = u8 at Vd V1 V2 V3 V4 V6 V7 V8 RL R1 R8 HW ⊢
      generalize w8.heap.size = g8 at V8 ⊢
      refine (same_texts C8 L nl e8 cl ls _ R8.out RL.out (by omega)).mono ?_
      rintro e wq ⟨rfl, qq, rfl⟩
      have hbq := below_drewN (Below.refl u8.heap.size u8) qq
      have Vd_ := Lib.hid (Vd.out.below hbq)
      have V1_ := Lib.hid (V1.out.below hbq)
      have V2_ := Lib.hid (V2.out.below hbq)
      have V3_ := Lib.hid (V3.out.below hbq)
      have V4_ := Lib.hid (V4.out.below hbq)
      have V6_ := Lib.hid (V6.out.below hbq)
      have V7_ := Lib.hid (V7.out.below hbq)
      have V8_ := Lib.hid (V8.out.below hbq)
      have RL_ := Lib.hid (RL.out.below hbq)
      have R1_ := Lib.hid (R1.out.below hbq)
      have R8_ := Lib.hid (R8.out.below hbq)
      have HW_ := Lib.hid (bmore HW.out hbq (Nat.le_refl _))
      clear HW Vd V1 V2 V3 V4 V6 V7 V8 RL R1 R8
      have Vd := Vd_; clear Vd_
      have V1 := V1_; clear V1_
      have V2 := V2_; clear V2_
      have V3 := V3_; clear V3_
      have V4 := V4_; clear V4_
      have V6 := V6_; clear V6_
      have V7 := V7_; clear V7_
      have V8 := V8_; clear V8_
      have RL := RL_; clear RL_
      have R1 := R1_; clear R1_
      have R8 := R8_; clear R8_
      have HW := HW_; clear HW_
      clear hbq
      go_wp2
      go_ret
      exact ⟨rfl, HW.out⟩
  by_cases hx4 : x4 = 0
  rotate_left
  · subst hx3
    have t3 : (x4 == 0) = false := by simpa using hx4
    have t4 : decide (x4 = 0) = false := by simpa using hx4
    obtain ⟨b6, p6, x6, hr6⟩ := resetIs_ex r2 [] ls
    obtain ⟨r7, x7, hc7⟩ := crashIs_ex b6 p6 keep many
    obtain ⟨n6, h_n6⟩ : ∃ k, b6.length = k := ⟨_, rfl⟩
    have H_n6 := Lib.hid h_n6; clear h_n6
    obtain ⟨m6, h_m6⟩ : ∃ k, p6.length = k := ⟨_, rfl⟩
    have H_m6 := Lib.hid h_m6; clear h_m6
    obtain ⟨n7, h_n7⟩ : ∃ k, r7.length = k := ⟨_, rfl⟩
    have H_n7 := Lib.hid h_n7; clear h_n7
    have HR6 := Lib.hid hr6; clear hr6
    have HC7 := Lib.hid hc7; clear hc7
    have k02 := V2.out.c0
    have k12 := V2.out.c1
    go_wp2_with fail
    clear k02 k12
    refine (reset_any _ L nl cl r2 b6 [] p6 ls x6 n6 m6 _ (Lib.hid V2.out.2) RL HSm HNl HR6 H_n6 H_m6).mono ?_
    rintro e w6 ⟨A6, c6, B6, d6, rfl, hown, hb⟩
    obtain ⟨hst, v6⟩ := var_step hb hown
    have Vd_ := Lib.hid (Vd.out.below hst)
    have V1_ := Lib.hid (V1.out.below hst)
    have V2_ := Lib.hid (V2.out.below hst)
    have V3_ := Lib.hid (V3.out.below hst)
    have V4_ := Lib.hid (V4.out.below hst)
    have RL_ := Lib.hid (RL.out.below hst)
    have R1_ := Lib.hid (R1.out.below hst)
    have HW_ := Lib.hid (bmore HW.out hst (Nat.le_refl _))
    clear HW Vd V1 V2 V3 V4 RL R1
    have Vd := Vd_; clear Vd_
    have V1 := V1_; clear V1_
    have V2 := V2_; clear V2_
    have V3 := V3_; clear V3_
    have V4 := V4_; clear V4_
    have RL := RL_; clear RL_
    have R1 := R1_; clear R1_
    have HW := HW_; clear HW_
    have V6 := Lib.hid v6
    clear hown hb hst v6
    have k06 := V6.out.c0
    have k16 := V6.out.c1
    go_wp2_with fail
    clear k06 k16
    generalize w6.alloc (.cells #[.slice A6 n6 c6, .slice B6 m6 d6] 25) = u6 at Vd V1 V2 V3 V4 V6 RL R1 HW ⊢
    generalize w6.heap.size = g6 at V6 ⊢
    refine (crash_s _ b6 r7 p6 keep many x7 n7 _ (Lib.hid V6.out.2) HC7 hk1 hk2 hm1 hm2 H_n7).mono ?_
    rintro e w7 ⟨A7, c7, B7, d7, rfl, hown, hb⟩
    obtain ⟨hst, v7⟩ := var_step hb hown
    have Vd_ := Lib.hid (Vd.out.below hst)
    have V1_ := Lib.hid (V1.out.below hst)
    have V2_ := Lib.hid (V2.out.below hst)
    have V3_ := Lib.hid (V3.out.below hst)
    have V4_ := Lib.hid (V4.out.below hst)
    have V6_ := Lib.hid (V6.out.below hst)
    have RL_ := Lib.hid (RL.out.below hst)
    have R1_ := Lib.hid (R1.out.below hst)
    have HW_ := Lib.hid (bmore HW.out hst (Nat.le_refl _))
    clear HW Vd V1 V2 V3 V4 V6 RL R1
    have Vd := Vd_; clear Vd_
    have V1 := V1_; clear V1_
    have V2 := V2_; clear V2_
    have V3 := V3_; clear V3_
    have V4 := V4_; clear V4_
    have V6 := V6_; clear V6_
    have RL := RL_; clear RL_
    have R1 := R1_; clear R1_
    have HW := HW_; clear HW_
    have V7 := Lib.hid v7
    clear hown hb hst v7
    go_upto_region 18 with (fail)
    generalize w7.alloc (.cells #[.slice A7 n7 c7, .slice B7 0 d7] 25) = u7 at Vd V1 V2 V3 V4 V6 V7 RL R1 HW ⊢
    generalize w7.heap.size = g7 at V7 ⊢
    by_cases hx6 : x6 = 0
    rotate_left
    · have t5 : (x6 != 0) = true := by simpa using hx6
      have t50 : decide (x6 = 0) = false := by simpa using hx6
      go_wp2
      go_ret
      exact ⟨rfl, HW.out⟩
    subst hx6
    by_cases hx7 : x7 = 0
    rotate_left
    · have t6 : (x7 != 0) = true := by simpa using hx7
      have t60 : decide (x7 = 0) = false := by simpa using hx7
      go_wp2
      go_ret
      exact ⟨rfl, HW.out⟩
    subst hx7
    have hmath := reset_math HH2.out (show ResetIs (NM.join was) [] ls b6 p6 0 by rw [← HJ.out]; exact HR6.out) HC7.out
    rcases hmath with ⟨hke, ho7⟩ | ⟨hke, ho7⟩
    ·
      subst hke
      have HO7 := Lib.hid ho7; clear ho7
      have k07 := V7.out.c0
      have k17 := V7.out.c1
      go_wp2_with fail
      clear k07 k17
      refine (open_any _ r7 r7 [] [] was 0 n7 0 q1 _ (Lib.hid V7.out.2) HO7 H_n7 (Lib.hid rfl) H_q1).mono ?_
      rintro e w8 ⟨A8, c8, B8, d8, C8, e8, rfl, hown, hr, l1, l2, hb⟩
      obtain ⟨hst, v8⟩ := var_step hb hown
      have hr_ := hr.below ((Below.refl w8.heap.size w8).alloc (Nat.le_refl _) (.cells #[.slice A8 n7 c8, .slice B8 0 d8] 25))
      have Vd_ := Lib.hid (Vd.out.below hst)
      have V1_ := Lib.hid (V1.out.below hst)
      have V2_ := Lib.hid (V2.out.below hst)
      have V3_ := Lib.hid (V3.out.below hst)
      have V4_ := Lib.hid (V4.out.below hst)
      have V6_ := Lib.hid (V6.out.below hst)
      have V7_ := Lib.hid (V7.out.below hst)
      have RL_ := Lib.hid (RL.out.below hst)
      have R1_ := Lib.hid (R1.out.below hst)
      have HW_ := Lib.hid (bmore HW.out hst (Nat.le_refl _))
      clear HW Vd V1 V2 V3 V4 V6 V7 RL R1
      have Vd := Vd_; clear Vd_
      have V1 := V1_; clear V1_
      have V2 := V2_; clear V2_
      have V3 := V3_; clear V3_
      have V4 := V4_; clear V4_
      have V6 := V6_; clear V6_
      have V7 := V7_; clear V7_
      have RL := RL_; clear RL_
      have R1 := R1_; clear R1_
      have HW := HW_; clear HW_
      have V8 := Lib.hid v8
      have R8 := Lib.hid hr_
      have L8 := Lib.hid (And.intro l1 l2)
      clear hown hb hst v8 hr hr_ l1 l2
      go_wp2_with fail
      generalize w8.alloc (.cells #[.slice A8 n7 c8, .slice B8 0 d8] 25) = u8 at Vd V1 V2 V3 V4 V6 V7 V8 RL R1 R8 HW ⊢
      generalize w8.heap.size = g8 at V8 ⊢
      refine (same_texts C8 C1 q1 e8 e1 was _ R8.out R1.out (by omega)).mono ?_
      rintro e wq ⟨rfl, qq, rfl⟩
      have hbq := below_drewN (Below.refl u8.heap.size u8) qq
      have Vd_ := Lib.hid (Vd.out.below hbq)
      have V1_ := Lib.hid (V1.out.below hbq)
      have V2_ := Lib.hid (V2.out.below hbq)
      have V3_ := Lib.hid (V3.out.below hbq)
      have V4_ := Lib.hid (V4.out.below hbq)
      have V6_ := Lib.hid (V6.out.below hbq)
      have V7_ := Lib.hid (V7.out.below hbq)
      have V8_ := Lib.hid (V8.out.below hbq)
      have RL_ := Lib.hid (RL.out.below hbq)
      have R1_ := Lib.hid (R1.out.below hbq)
      have R8_ := Lib.hid (R8.out.below hbq)
      have HW_ := Lib.hid (bmore HW.out hbq (Nat.le_refl _))
      clear HW Vd V1 V2 V3 V4 V6 V7 V8 RL R1 R8
      have Vd := Vd_; clear Vd_
      have V1 := V1_; clear V1_
      have V2 := V2_; clear V2_
      have V3 := V3_; clear V3_
      have V4 := V4_; clear V4_
      have V6 := V6_; clear V6_
      have V7 := V7_; clear V7_
      have V8 := V8_; clear V8_
      have RL := RL_; clear RL_
      have R1 := R1_; clear R1_
      have R8 := R8_; clear R8_
      have HW := HW_; clear HW_
      clear hbq
      go_wp2
      go_ret
      exact ⟨rfl, HW.out⟩
    ·
      subst hke
      have HO7 := Lib.hid ho7; clear ho7
      have k07 := V7.out.c0
      have k17 := V7.out.c1
      go_wp2_with fail
      clear k07 k17
      refine (open_any _ r7 r7 [] [] ls 0 n7 0 nl _ (Lib.hid V7.out.2) HO7 H_n7 (Lib.hid rfl) HLL).mono ?_
      rintro e w8 ⟨A8, c8, B8, d8, C8, e8, rfl, hown, hr, l1, l2, hb⟩
      obtain ⟨hst, v8⟩ := var_step hb hown
      have hr_ := hr.below ((Below.refl w8.heap.size w8).alloc (Nat.le_refl _) (.cells #[.slice A8 n7 c8, .slice B8 0 d8] 25))
      have Vd_ := Lib.hid (Vd.out.below hst)
      have V1_ := Lib.hid (V1.out.below hst)
      have V2_ := Lib.hid (V2.out.below hst)
      have V3_ := Lib.hid (V3.out.below hst)
      have V4_ := Lib.hid (V4.out.below hst)
      have V6_ := Lib.hid (V6.out.below hst)
      have V7_ := Lib.hid (V7.out.below hst)
      have RL_ := Lib.hid (RL.out.below hst)
      have R1_ := Lib.hid (R1.out.below hst)
      have HW_ := Lib.hid (bmore HW.out hst (Nat.le_refl _))
      clear HW Vd V1 V2 V3 V4 V6 V7 RL R1
      have Vd := Vd_; clear Vd_
      have V1 := V1_; clear V1_
      have V2 := V2_; clear V2_
      have V3 := V3_; clear V3_
      have V4 := V4_; clear V4_
      have V6 := V6_; clear V6_
      have V7 := V7_; clear V7_
      have RL := RL_; clear RL_
      have R1 := R1_; clear R1_
      have HW := HW_; clear HW_
      have V8 := Lib.hid v8
      have R8 := Lib.hid hr_
      have L8 := Lib.hid (And.intro l1 l2)
      clear hown hb hst v8 hr hr_ l1 l2
      go_wp2_with fail
      generalize w8.alloc (.cells #[.slice A8 n7 c8, .slice B8 0 d8] 25) = u8 at Vd V1 V2 V3 V4 V6 V7 V8 RL R1 R8 HW ⊢
      generalize w8.heap.size = g8 at V8 ⊢
      refine (same_texts C8 L nl e8 cl ls _ R8.out RL.out (by omega)).mono ?_
      rintro e wq ⟨rfl, qq, rfl⟩
      have hbq := below_drewN (Below.refl u8.heap.size u8) qq
      have Vd_ := Lib.hid (Vd.out.below hbq)
      have V1_ := Lib.hid (V1.out.below hbq)
      have V2_ := Lib.hid (V2.out.below hbq)
      have V3_ := Lib.hid (V3.out.below hbq)
      have V4_ := Lib.hid (V4.out.below hbq)
      have V6_ := Lib.hid (V6.out.below hbq)
      have V7_ := Lib.hid (V7.out.below hbq)
      have V8_ := Lib.hid (V8.out.below hbq)
      have RL_ := Lib.hid (RL.out.below hbq)
      have R1_ := Lib.hid (R1.out.below hbq)
      have R8_ := Lib.hid (R8.out.below hbq)
      have HW_ := Lib.hid (bmore HW.out hbq (Nat.le_refl _))
      clear HW Vd V1 V2 V3 V4 V6 V7 V8 RL R1 R8
      have Vd := Vd_; clear Vd_
      have V1 := V1_; clear V1_
      have V2 := V2_; clear V2_
      have V3 := V3_; clear V3_
      have V4 := V4_; clear V4_
      have V6 := V6_; clear V6_
      have V7 := V7_; clear V7_
      have V8 := V8_; clear V8_
      have RL := RL_; clear RL_
      have R1 := R1_; clear R1_
      have R8 := R8_; clear R8_
      have HW := HW_; clear HW_
      clear hbq
      go_wp2
      go_ret
      exact ⟨rfl, HW.out⟩
  subst hx3
  subst hx4
  obtain ⟨j, b5, p5, ho5, hj1, hk0, hj2⟩ := torn_math HH2.out (show AddIs (NM.join was) [] ls b3 p3 0 by rw [← HJ.out]; exact HA3.out) HC4.out
  obtain ⟨n5, h_n5⟩ : ∃ k, b5.length = k := ⟨_, rfl⟩
  have H_n5 := Lib.hid h_n5; clear h_n5
  obtain ⟨m5, h_m5⟩ : ∃ k, p5.length = k := ⟨_, rfl⟩
  have H_m5 := Lib.hid h_m5; clear h_m5
  rw [H_q1.out, HLL.out] at hj1
  rw [H_q1.out] at hj2
  have HO5 := Lib.hid ho5; clear ho5
  have hqj : q1 ≤ j := by omega
  have HTk := Lib.hid (show ((was ++ ls).take j).length = j by rw [List.length_take, List.length_append, H_q1.out, HLL.out]; omega)
  have k04 := V4.out.c0
  have k14 := V4.out.c1
  go_wp2_with fail
  clear k04 k14
  refine (open_any _ r4 b5 [] p5 ((was ++ ls).take j) 0 n5 m5 j _ (Lib.hid V4.out.2) HO5 H_n5 H_m5 HTk).mono ?_
  rintro e w5 ⟨A5, c5, B5, d5, C5, e5, rfl, hown, hr, l1, l2, hb⟩
  obtain ⟨hst, v5⟩ := var_step hb hown
  have hr_ := hr.below ((Below.refl w5.heap.size w5).alloc (Nat.le_refl _) (.cells #[.slice A5 n5 c5, .slice B5 m5 d5] 25))
  have Vd_ := Lib.hid (Vd.out.below hst)
  have V1_ := Lib.hid (V1.out.below hst)
  have V2_ := Lib.hid (V2.out.below hst)
  have V3_ := Lib.hid (V3.out.below hst)
  have V4_ := Lib.hid (V4.out.below hst)
  have RL_ := Lib.hid (RL.out.below hst)
  have R1_ := Lib.hid (R1.out.below hst)
  have HW_ := Lib.hid (bmore HW.out hst (Nat.le_refl _))
  clear HW Vd V1 V2 V3 V4 RL R1
  have Vd := Vd_; clear Vd_
  have V1 := V1_; clear V1_
  have V2 := V2_; clear V2_
  have V3 := V3_; clear V3_
  have V4 := V4_; clear V4_
  have RL := RL_; clear RL_
  have R1 := R1_; clear R1_
  have HW := HW_; clear HW_
  have V5 := Lib.hid v5
  have R5 := Lib.hid hr_
  have L5 := Lib.hid (And.intro l1 l2)
  clear hown hb hst v5 hr hr_ l1 l2
  go_upto_region 14 with (fail)
  generalize w5.alloc (.cells #[.slice A5 n5 c5, .slice B5 m5 d5] 25) = u5 at Vd V1 V2 V3 V4 V5 RL R1 R5 HW ⊢
  generalize w5.heap.size = g5 at V5 ⊢
  have a1 : min ((j : Int) - (q1 : Int)) (nl : Int) = (j : Int) - (q1 : Int) := by omega
  have a2 : ((j : Int) != (q1 : Int) + ((j : Int) - (q1 : Int))) = false := by simp; omega
  have a3 : decide ((j : Int) = (q1 : Int) + ((j : Int) - (q1 : Int))) = true := by simp; omega
  have a4 : decide ((j : Int) < (q1 : Int) + keep) = false := by simp; omega
  go_wp2_with fail
  refine (joined_any C1 L q1 nl e1 cl was ls _ R1 RL (by omega) (by omega)).mono ?_
  rintro e wj ⟨Aj, cj, rfl, hrj, lj1, lj2, hb⟩
  have Vd_ := Lib.hid (Vd.out.below hb)
  have V1_ := Lib.hid (V1.out.below hb)
  have V2_ := Lib.hid (V2.out.below hb)
  have V3_ := Lib.hid (V3.out.below hb)
  have V4_ := Lib.hid (V4.out.below hb)
  have V5_ := Lib.hid (V5.out.below hb)
  have RL_ := Lib.hid (RL.out.below hb)
  have R1_ := Lib.hid (R1.out.below hb)
  have R5_ := Lib.hid (R5.out.below hb)
  have HW_ := Lib.hid (bmore HW.out hb (Nat.le_refl _))
  clear HW Vd V1 V2 V3 V4 V5 RL R1 R5
  have Vd := Vd_; clear Vd_
  have V1 := V1_; clear V1_
  have V2 := V2_; clear V2_
  have V3 := V3_; clear V3_
  have V4 := V4_; clear V4_
  have V5 := V5_; clear V5_
  have RL := RL_; clear RL_
  have R1 := R1_; clear R1_
  have R5 := R5_; clear R5_
  have HW := HW_; clear HW_
  clear hb
  have RJ := Lib.hid (hrj.front (show j ≤ q1 + nl by omega)); clear hrj
  have RJ := Lib.hid (sc_take (was ++ ls) j ▸ RJ.out)
  go_wp2_with fail
  refine (same_texts C5 Aj j e5 cj ((was ++ ls).take j) _ R5.out RJ.out (by omega)).mono ?_
  rintro e wq ⟨rfl, qq, rfl⟩
  have hbq := below_drewN (Below.refl wj.heap.size wj) qq
  have Vd_ := Lib.hid (Vd.out.below hbq)
  have V1_ := Lib.hid (V1.out.below hbq)
  have V2_ := Lib.hid (V2.out.below hbq)
  have V3_ := Lib.hid (V3.out.below hbq)
  have V4_ := Lib.hid (V4.out.below hbq)
  have V5_ := Lib.hid (V5.out.below hbq)
  have RL_ := Lib.hid (RL.out.below hbq)
  have R1_ := Lib.hid (R1.out.below hbq)
  have R5_ := Lib.hid (R5.out.below hbq)
  have RJ_ := Lib.hid (RJ.out.below hbq)
  have HW_ := Lib.hid (bmore HW.out hbq (Nat.le_refl _))
  clear HW Vd V1 V2 V3 V4 V5 RL R1 R5 RJ
  have Vd := Vd_; clear Vd_
  have V1 := V1_; clear V1_
  have V2 := V2_; clear V2_
  have V3 := V3_; clear V3_
  have V4 := V4_; clear V4_
  have V5 := V5_; clear V5_
  have RL := RL_; clear RL_
  have R1 := R1_; clear R1_
  have R5 := R5_; clear R5_
  have RJ := RJ_; clear RJ_
  have HW := HW_; clear HW_
  clear hbq
  go_upto_region 16 with (fail)
  obtain ⟨b6, p6, x6, hr6⟩ := resetIs_ex r2 [] ls
  obtain ⟨r7, x7, hc7⟩ := crashIs_ex b6 p6 keep many
  obtain ⟨n6, h_n6⟩ : ∃ k, b6.length = k := ⟨_, rfl⟩
  have H_n6 := Lib.hid h_n6; clear h_n6
  obtain ⟨m6, h_m6⟩ : ∃ k, p6.length = k := ⟨_, rfl⟩
  have H_m6 := Lib.hid h_m6; clear h_m6
  obtain ⟨n7, h_n7⟩ : ∃ k, r7.length = k := ⟨_, rfl⟩
  have H_n7 := Lib.hid h_n7; clear h_n7
  have HR6 := Lib.hid hr6; clear hr6
  have HC7 := Lib.hid hc7; clear hc7
  have k02 := V2.out.c0
  have k12 := V2.out.c1
  go_wp2_with fail
  clear k02 k12
  refine (reset_any _ L nl cl r2 b6 [] p6 ls x6 n6 m6 _ (Lib.hid V2.out.2) RL HSm HNl HR6 H_n6 H_m6).mono ?_
  rintro e w6 ⟨A6, c6, B6, d6, rfl, hown, hb⟩
  obtain ⟨hst, v6⟩ := var_step hb hown
  have Vd_ := Lib.hid (Vd.out.below hst)
  have V1_ := Lib.hid (V1.out.below hst)
  have V2_ := Lib.hid (V2.out.below hst)
  have V3_ := Lib.hid (V3.out.below hst)
  have V4_ := Lib.hid (V4.out.below hst)
  have V5_ := Lib.hid (V5.out.below hst)
  have RL_ := Lib.hid (RL.out.below hst)
  have R1_ := Lib.hid (R1.out.below hst)
  have R5_ := Lib.hid (R5.out.below hst)
  have RJ_ := Lib.hid (RJ.out.below hst)
  have HW_ := Lib.hid (bmore HW.out hst (Nat.le_refl _))
  clear HW Vd V1 V2 V3 V4 V5 RL R1 R5 RJ
  have Vd := Vd_; clear Vd_
  have V1 := V1_; clear V1_
  have V2 := V2_; clear V2_
  have V3 := V3_; clear V3_
  have V4 := V4_; clear V4_
  have V5 := V5_; clear V5_
  have RL := RL_; clear RL_
  have R1 := R1_; clear R1_
  have R5 := R5_; clear R5_
  have RJ := RJ_; clear RJ_
  have HW := HW_; clear HW_
  have V6 := Lib.hid v6
  clear hown hb hst v6
  have k06 := V6.out.c0
  have k16 := V6.out.c1
  go_wp2_with fail
  clear k06 k16
  generalize w6.alloc (.cells #[.slice A6 n6 c6, .slice B6 m6 d6] 25) = u6 at Vd V1 V2 V3 V4 V5 V6 RL R1 R5 RJ HW ⊢
  generalize w6.heap.size = g6 at V6 ⊢
  refine (crash_s _ b6 r7 p6 keep many x7 n7 _ (Lib.hid V6.out.2) HC7 hk1 hk2 hm1 hm2 H_n7).mono ?_
  rintro e w7 ⟨A7, c7, B7, d7, rfl, hown, hb⟩
  obtain ⟨hst, v7⟩ := var_step hb hown
  have Vd_ := Lib.hid (Vd.out.below hst)
  have V1_ := Lib.hid (V1.out.below hst)
  have V2_ := Lib.hid (V2.out.below hst)
  have V3_ := Lib.hid (V3.out.below hst)
  have V4_ := Lib.hid (V4.out.below hst)
  have V5_ := Lib.hid (V5.out.below hst)
  have V6_ := Lib.hid (V6.out.below hst)
  have RL_ := Lib.hid (RL.out.below hst)
  have R1_ := Lib.hid (R1.out.below hst)
  have R5_ := Lib.hid (R5.out.below hst)
  have RJ_ := Lib.hid (RJ.out.below hst)
  have HW_ := Lib.hid (bmore HW.out hst (Nat.le_refl _))
  clear HW Vd V1 V2 V3 V4 V5 V6 RL R1 R5 RJ
  have Vd := Vd_; clear Vd_
  have V1 := V1_; clear V1_
  have V2 := V2_; clear V2_
  have V3 := V3_; clear V3_
  have V4 := V4_; clear V4_
  have V5 := V5_; clear V5_
  have V6 := V6_; clear V6_
  have RL := RL_; clear RL_
  have R1 := R1_; clear R1_
  have R5 := R5_; clear R5_
  have RJ := RJ_; clear RJ_
  have HW := HW_; clear HW_
  have V7 := Lib.hid v7
  clear hown hb hst v7
  go_upto_region 18 with (fail)
  generalize w7.alloc (.cells #[.slice A7 n7 c7, .slice B7 0 d7] 25) = u7 at Vd V1 V2 V3 V4 V5 V6 V7 RL R1 R5 RJ HW ⊢
  generalize w7.heap.size = g7 at V7 ⊢
  by_cases hx6 : x6 = 0
  rotate_left
  · have t5 : (x6 != 0) = true := by simpa using hx6
    have t50 : decide (x6 = 0) = false := by simpa using hx6
    go_wp2
    go_ret
    exact ⟨rfl, HW.out⟩
  subst hx6
  by_cases hx7 : x7 = 0
  rotate_left
  · have t6 : (x7 != 0) = true := by simpa using hx7
    have t60 : decide (x7 = 0) = false := by simpa using hx7
    go_wp2
    go_ret
    exact ⟨rfl, HW.out⟩
  subst hx7
  have hmath := reset_math HH2.out (show ResetIs (NM.join was) [] ls b6 p6 0 by rw [← HJ.out]; exact HR6.out) HC7.out
  rcases hmath with ⟨hke, ho7⟩ | ⟨hke, ho7⟩
  ·
    subst hke
    have HO7 := Lib.hid ho7; clear ho7
    have k07 := V7.out.c0
    have k17 := V7.out.c1
    go_wp2_with fail
    clear k07 k17
    refine (open_any _ r7 r7 [] [] was 0 n7 0 q1 _ (Lib.hid V7.out.2) HO7 H_n7 (Lib.hid rfl) H_q1).mono ?_
    rintro e w8 ⟨A8, c8, B8, d8, C8, e8, rfl, hown, hr, l1, l2, hb⟩
    obtain ⟨hst, v8⟩ := var_step hb hown
    have hr_ := hr.below ((Below.refl w8.heap.size w8).alloc (Nat.le_refl _) (.cells #[.slice A8 n7 c8, .slice B8 0 d8] 25))
    have Vd_ := Lib.hid (Vd.out.below hst)
    have V1_ := Lib.hid (V1.out.below hst)
    have V2_ := Lib.hid (V2.out.below hst)
    have V3_ := Lib.hid (V3.out.below hst)
    have V4_ := Lib.hid (V4.out.below hst)
    have V5_ := Lib.hid (V5.out.below hst)
    have V6_ := Lib.hid (V6.out.below hst)
    have V7_ := Lib.hid (V7.out.below hst)
    have RL_ := Lib.hid (RL.out.below hst)
    have R1_ := Lib.hid (R1.out.below hst)
    have R5_ := Lib.hid (R5.out.below hst)
    have RJ_ := Lib.hid (RJ.out.below hst)
    have HW_ := Lib.hid (bmore HW.out hst (Nat.le_refl _))
    clear HW Vd V1 V2 V3 V4 V5 V6 V7 RL R1 R5 RJ
    have Vd := Vd_; clear Vd_
    have V1 := V1_; clear V1_
    have V2 := V2_; clear V2_
    have V3 := V3_; clear V3_
    have V4 := V4_; clear V4_
    have V5 := V5_; clear V5_
    have V6 := V6_; clear V6_
    have V7 := V7_; clear V7_
    have RL := RL_; clear RL_
    have R1 := R1_; clear R1_
    have R5 := R5_; clear R5_
    have RJ := RJ_; clear RJ_
    have HW := HW_; clear HW_
    have V8 := Lib.hid v8
    have R8 := Lib.hid hr_
    have L8 := Lib.hid (And.intro l1 l2)
    clear hown hb hst v8 hr hr_ l1 l2
    go_wp2_with fail
    generalize w8.alloc (.cells #[.slice A8 n7 c8, .slice B8 0 d8] 25) = u8 at Vd V1 V2 V3 V4 V5 V6 V7 V8 RL R1 R5 RJ R8 HW ⊢
    generalize w8.heap.size = g8 at V8 ⊢
    refine (same_texts C8 C1 q1 e8 e1 was _ R8.out R1.out (by omega)).mono ?_
    rintro e wq ⟨rfl, qq, rfl⟩
    have hbq := below_drewN (Below.refl u8.heap.size u8) qq
    have Vd_ := Lib.hid (Vd.out.below hbq)
    have V1_ := Lib.hid (V1.out.below hbq)
    have V2_ := Lib.hid (V2.out.below hbq)
    have V3_ := Lib.hid (V3.out.below hbq)
    have V4_ := Lib.hid (V4.out.below hbq)
    have V5_ := Lib.hid (V5.out.below hbq)
    have V6_ := Lib.hid (V6.out.below hbq)
    have V7_ := Lib.hid (V7.out.below hbq)
    have V8_ := Lib.hid (V8.out.below hbq)
    have RL_ := Lib.hid (RL.out.below hbq)
    have R1_ := Lib.hid (R1.out.below hbq)
    have R5_ := Lib.hid (R5.out.below hbq)
    have RJ_ := Lib.hid (RJ.out.below hbq)
    have R8_ := Lib.hid (R8.out.below hbq)
    have HW_ := Lib.hid (bmore HW.out hbq (Nat.le_refl _))
    clear HW Vd V1 V2 V3 V4 V5 V6 V7 V8 RL R1 R5 RJ R8
    have Vd := Vd_; clear Vd_
    have V1 := V1_; clear V1_
    have V2 := V2_; clear V2_
    have V3 := V3_; clear V3_
    have V4 := V4_; clear V4_
    have V5 := V5_; clear V5_
    have V6 := V6_; clear V6_
    have V7 := V7_; clear V7_
    have V8 := V8_; clear V8_
    have RL := RL_; clear RL_
    have R1 := R1_; clear R1_
    have R5 := R5_; clear R5_
    have RJ := RJ_; clear RJ_
    have R8 := R8_; clear R8_
    have HW := HW_; clear HW_
    clear hbq
    go_wp2
    go_ret
    exact ⟨rfl, HW.out⟩
  ·
    subst hke
    have HO7 := Lib.hid ho7; clear ho7
    have k07 := V7.out.c0
    have k17 := V7.out.c1
    go_wp2_with fail
    clear k07 k17
    refine (open_any _ r7 r7 [] [] ls 0 n7 0 nl _ (Lib.hid V7.out.2) HO7 H_n7 (Lib.hid rfl) HLL).mono ?_
    rintro e w8 ⟨A8, c8, B8, d8, C8, e8, rfl, hown, hr, l1, l2, hb⟩
    obtain ⟨hst, v8⟩ := var_step hb hown
    have hr_ := hr.below ((Below.refl w8.heap.size w8).alloc (Nat.le_refl _) (.cells #[.slice A8 n7 c8, .slice B8 0 d8] 25))
    have Vd_ := Lib.hid (Vd.out.below hst)
    have V1_ := Lib.hid (V1.out.below hst)
    have V2_ := Lib.hid (V2.out.below hst)
    have V3_ := Lib.hid (V3.out.below hst)
    have V4_ := Lib.hid (V4.out.below hst)
    have V5_ := Lib.hid (V5.out.below hst)
    have V6_ := Lib.hid (V6.out.below hst)
    have V7_ := Lib.hid (V7.out.below hst)
    have RL_ := Lib.hid (RL.out.below hst)
    have R1_ := Lib.hid (R1.out.below hst)
    have R5_ := Lib.hid (R5.out.below hst)
    have RJ_ := Lib.hid (RJ.out.below hst)
    have HW_ := Lib.hid (bmore HW.out hst (Nat.le_refl _))
    clear HW Vd V1 V2 V3 V4 V5 V6 V7 RL R1 R5 RJ
    have Vd := Vd_; clear Vd_
    have V1 := V1_; clear V1_
    have V2 := V2_; clear V2_
    have V3 := V3_; clear V3_
    have V4 := V4_; clear V4_
    have V5 := V5_; clear V5_
    have V6 := V6_; clear V6_
    have V7 := V7_; clear V7_
    have RL := RL_; clear RL_
    have R1 := R1_; clear R1_
    have R5 := R5_; clear R5_
    have RJ := RJ_; clear RJ_
    have HW := HW_; clear HW_
    have V8 := Lib.hid v8
    have R8 := Lib.hid hr_
    have L8 := Lib.hid (And.intro l1 l2)
    clear hown hb hst v8 hr hr_ l1 l2
    go_wp2_with fail
    generalize w8.alloc (.cells #[.slice A8 n7 c8, .slice B8 0 d8] 25) = u8 at Vd V1 V2 V3 V4 V5 V6 V7 V8 RL R1 R5 RJ R8 HW ⊢
    generalize w8.heap.size = g8 at V8 ⊢
    refine (same_texts C8 L nl e8 cl ls _ R8.out RL.out (by omega)).mono ?_
    rintro e wq ⟨rfl, qq, rfl⟩
    have hbq := below_drewN (Below.refl u8.heap.size u8) qq
    have Vd_ := Lib.hid (Vd.out.below hbq)
    have V1_ := Lib.hid (V1.out.below hbq)
    have V2_ := Lib.hid (V2.out.below hbq)
    have V3_ := Lib.hid (V3.out.below hbq)
    have V4_ := Lib.hid (V4.out.below hbq)
    have V5_ := Lib.hid (V5.out.below hbq)
    have V6_ := Lib.hid (V6.out.below hbq)
    have V7_ := Lib.hid (V7.out.below hbq)
    have V8_ := Lib.hid (V8.out.below hbq)
    have RL_ := Lib.hid (RL.out.below hbq)
    have R1_ := Lib.hid (R1.out.below hbq)
    have R5_ := Lib.hid (R5.out.below hbq)
    have RJ_ := Lib.hid (RJ.out.below hbq)
    have R8_ := Lib.hid (R8.out.below hbq)
    have HW_ := Lib.hid (bmore HW.out hbq (Nat.le_refl _))
    clear HW Vd V1 V2 V3 V4 V5 V6 V7 V8 RL R1 R5 RJ R8
    have Vd := Vd_; clear Vd_
    have V1 := V1_; clear V1_
    have V2 := V2_; clear V2_
    have V3 := V3_; clear V3_
    have V4 := V4_; clear V4_
    have V5 := V5_; clear V5_
    have V6 := V6_; clear V6_
    have V7 := V7_; clear V7_
    have V8 := V8_; clear V8_
    have RL := RL_; clear RL_
    have R1 := R1_; clear R1_
    have R5 := R5_; clear R5_
    have RJ := RJ_; clear RJ_
    have R8 := R8_; clear R8_
    have HW := HW_; clear HW_
    clear hbq
    go_wp2
    go_ret
    exact ⟨rfl, HW.out⟩

theorem walTorn_walk (v : Value) (b : List UInt8) (ps : List DM.Wr) (a1 : Option Addr) (len1 cap1 : Nat) (z1 : List ByteArray) (a2 a3 : Int) (w : World) (w0 : DiskArg w v b ps) (w1 : IsTexts w a1 len1 cap1 z1) (w2 : (Lit.int .i64 a2).wf = true) (w3 : (Lit.int .i64 a3).wf = true) :
    Calls Try.prog 6 #[v, .slice a1 len1 cap1, .int .i64 a2, .int .i64 a3] w fun e w' => e = .returned (.bool true) ∧ Below w.heap.size w w' := by
  have h4 : -9223372036854775808 ≤ a2 ∧ a2 ≤ 9223372036854775807 := by simpa [Lit.wf, IntKind.min, IntKind.max, IntKind.signed, IntKind.bits] using w2
  have h5 : -9223372036854775808 ≤ a3 ∧ a3 ≤ 9223372036854775807 := by simpa [Lit.wf, IntKind.min, IntKind.max, IntKind.signed, IntKind.bits] using w3
  obtain ⟨hl1, hm1, _⟩ := w1.len_le
  exact walTorn_core v b ps a1 len1 cap1 _ a2 a3 w (Lib.hid w0) (Lib.hid w1.texts) (Lib.hid (Nat.le_trans hl1 hm1)) (Lib.hid fun t ht => by have := w1.small t ht; unfold maxLen at this; omega) h4.1 h4.2 h5.1 h5.2
end Go.Proofs.Ytkdnkaiknmcfmaa
