/-
  The walk of WalHas: behind opening a disk has its records; behind adding those and the new ones; behind writing anew these alone; and it stays so behind a sync.
-/
import Derived.Test.YtkdnkaiknmcfmaaWalE
import Derived.Test.YtkdnkaiknmcfmaaWalMath
import Derived.Test.YtkdnkaiknmcfmaaDiskArg
import Derived.Test.YtkdnkaiknmcfmaaDiskGr
namespace Go.Proofs.Ytkdnkaiknmcfmaa
open Go.RowKit
set_option linter.unusedVariables false

set_option maxRecDepth 100000 in
set_option maxHeartbeats 8000000 in
theorem walHas_core (v : Value) (b : List UInt8) (ps : List DM.Wr) (L : Option Addr) (nl cl : Nat) (ls : List (List UInt8)) (w : World) (HV : Hid (DiskArg w v b ps)) (HL : Hid (Rd w L nl (sc ls))) (HNl : Hid (nl ≤ maxLen)) (HSm : Hid (∀ t ∈ ls, t.length ≤ 9223372036854775807)) :
    Calls Try.prog 5 #[v, .slice L nl cl] w fun e w' => e = .returned (.bool true) ∧ Below w.heap.size w w' := by
  obtain ⟨hv0, hb0, hp0⟩ := HV.out
  obtain ⟨A, n, c, B, m, d, rfl, h1, h2, h3, h4, h5, h6⟩ := hv0
  have hst : Below w.heap.size w (w.alloc (.cells #[.slice A n c, .slice B m d] 25)) := (Below.refl _ _).alloc (Nat.le_refl _) _
  have HW := Lib.hid hst
  have Vd : Hid (Var (w.alloc (.cells #[.slice A n c, .slice B m d] 25)) w.heap.size A n c B m d b ps) := Lib.hid ⟨Box.new _ _ _, HV.out.1.below hst⟩
  have RL := Lib.hid (HL.out.below hst)
  have HB0 := Lib.hid hb0
  have HP0 := Lib.hid hp0
  have hnl9 : nl ≤ 9223372036854775807 := by have := HNl.out; unfold maxLen at this; omega
  have hll : ls.length = nl := by have := HL.out.1; rwa [sc_length] at this
  have HLL := Lib.hid hll
  clear hst h1 h2 h3 h4 h5 h6 HV hb0 hp0 HL hll
  obtain ⟨b1, p1, was, x1, ho1⟩ := openIs_ex b ps
  go_enter Try.func5, Try.ntmps5
  go_wp2_with fail
  generalize w.alloc (.cells #[.slice A n c, .slice B m d] 25) = u0 at Vd RL HW ⊢
  generalize hgd : w.heap.size = gd at Vd ⊢
  have HGD := Lib.hid hgd; clear hgd
  refine (alive_any _).mono ?_
  rintro e wa ⟨rfl, hb⟩
  have Vd_ := Lib.hid (Vd.out.below hb)
  have RL_ := Lib.hid (RL.out.below hb)
  have HW_ := Lib.hid (bmore HW.out hb (Nat.le_refl _))
  clear HW Vd RL
  have Vd := Vd_; clear Vd_
  have RL := RL_; clear RL_
  have HW := HW_; clear HW_
  clear hb
  have k0d := Vd.out.c0
  have k1d := Vd.out.c1
  go_wp2_with fail
  clear k0d k1d
  refine (great_any _ b ps _ (Lib.hid Vd.out.2) HB0.out HP0).mono ?_
  rintro e wg ⟨gr, rfl, hsmall, hb⟩
  have Vd_ := Lib.hid (Vd.out.below hb)
  have RL_ := Lib.hid (RL.out.below hb)
  have HW_ := Lib.hid (bmore HW.out hb (Nat.le_refl _))
  clear HW Vd RL
  have Vd := Vd_; clear Vd_
  have RL := RL_; clear RL_
  have HW := HW_; clear HW_
  clear hb
  cases gr with
  | true =>
    go_wp2
    go_ret
    exact ⟨rfl, HW.out⟩
  | false =>
  have HSmall := Lib.hid (hsmall rfl); clear hsmall
  go_wp2_with fail
  refine (tgreat_any L nl cl ls _ RL.out HSm.out hnl9).mono ?_
  rintro e wh ⟨gr, rfl, rfl, hgr⟩
  cases gr with
  | true =>
    clear hgr
    go_wp2
    go_ret
    exact ⟨rfl, HW.out⟩
  | false =>
  have hnl : nl ≤ 1000 := hgr rfl
  clear hgr
  obtain ⟨n1, h_n1⟩ : ∃ k, b1.length = k := ⟨_, rfl⟩
  have H_n1 := Lib.hid h_n1; clear h_n1
  obtain ⟨m1, h_m1⟩ : ∃ k, p1.length = k := ⟨_, rfl⟩
  have H_m1 := Lib.hid h_m1; clear h_m1
  obtain ⟨q1, h_q1⟩ : ∃ k, was.length = k := ⟨_, rfl⟩
  have H_q1 := Lib.hid h_q1; clear h_q1
  have HO1 := Lib.hid ho1; clear ho1
  have k0d := Vd.out.c0
  have k1d := Vd.out.c1
  go_wp2_with fail
  clear k0d k1d
  refine (open_any _ b b1 ps p1 was x1 n1 m1 q1 _ (Lib.hid Vd.out.2) HO1 H_n1 H_m1 H_q1).mono ?_
  rintro e w1 ⟨A1, c1, B1, d1, C1, e1, rfl, hown, hr, l1, l2, hb⟩
  obtain ⟨hst, v1⟩ := var_step hb hown
  have hr_ := hr.below ((Below.refl w1.heap.size w1).alloc (Nat.le_refl _) (.cells #[.slice A1 n1 c1, .slice B1 m1 d1] 25))
  have Vd_ := Lib.hid (Vd.out.below hst)
  have RL_ := Lib.hid (RL.out.below hst)
  have HW_ := Lib.hid (bmore HW.out hst (Nat.le_refl _))
  clear HW Vd RL
  have Vd := Vd_; clear Vd_
  have RL := RL_; clear RL_
  have HW := HW_; clear HW_
  have V1 := Lib.hid v1
  have R1 := Lib.hid hr_
  have L1 := Lib.hid (And.intro l1 l2)
  clear hown hb hst v1 hr hr_ l1 l2
  go_upto_region 7 with (fail)
  generalize w1.alloc (.cells #[.slice A1 n1 c1, .slice B1 m1 d1] 25) = u1 at Vd V1 RL R1 HW ⊢
  generalize w1.heap.size = g1 at V1 ⊢
  by_cases hx1 : x1 = 0
  rotate_left
  · obtain rfl : 0 = q1 := by rw [← H_q1.out, (open_err HO1.out hx1).1]; rfl
    have t1 : (x1 != 0) = true := by simpa using hx1
    have t2 : decide (x1 = 0) = false := by simpa using hx1
    go_wp2
    go_ret
    exact ⟨rfl, HW.out⟩
  subst hx1
  have HH := Lib.hid (open_has HO1.out)
  have hq20 : q1 ≤ 1048576 := by rw [← H_q1.out]; exact has_many HH.out
  have k01 := V1.out.c0
  have k11 := V1.out.c1
  go_wp2_with fail
  clear k01 k11
  refine (open_any _ b1 b1 p1 p1 was 0 n1 m1 q1 _ (Lib.hid V1.out.2) (Lib.hid (has_open HH.out)) H_n1 H_m1 H_q1).mono ?_
  rintro e w2 ⟨A2, c2, B2, d2, C2, e2, rfl, hown, hr, l1, l2, hb⟩
  obtain ⟨hst, v2⟩ := var_step hb hown
  have hr_ := hr.below ((Below.refl w2.heap.size w2).alloc (Nat.le_refl _) (.cells #[.slice A2 n1 c2, .slice B2 m1 d2] 25))
  have Vd_ := Lib.hid (Vd.out.below hst)
  have V1_ := Lib.hid (V1.out.below hst)
  have RL_ := Lib.hid (RL.out.below hst)
  have R1_ := Lib.hid (R1.out.below hst)
  have HW_ := Lib.hid (bmore HW.out hst (Nat.le_refl _))
  clear HW Vd V1 RL R1
  have Vd := Vd_; clear Vd_
  have V1 := V1_; clear V1_
  have RL := RL_; clear RL_
  have R1 := R1_; clear R1_
  have HW := HW_; clear HW_
  have V2 := Lib.hid v2
  have R2 := Lib.hid hr_
  have L2 := Lib.hid (And.intro l1 l2)
  clear hown hb hst v2 hr hr_ l1 l2
  go_wp2_with fail
  generalize w2.alloc (.cells #[.slice A2 n1 c2, .slice B2 m1 d2] 25) = u2 at Vd V1 V2 RL R1 R2 HW ⊢
  generalize w2.heap.size = g2 at V2 ⊢
  refine (same_texts C1 C2 q1 e1 e2 was _ R1.out R2.out (by omega)).mono ?_
  rintro e wq ⟨rfl, qq, rfl⟩
  have hbq := below_drewN (Below.refl u2.heap.size u2) qq
  have Vd_ := Lib.hid (Vd.out.below hbq)
  have V1_ := Lib.hid (V1.out.below hbq)
  have V2_ := Lib.hid (V2.out.below hbq)
  have RL_ := Lib.hid (RL.out.below hbq)
  have R1_ := Lib.hid (R1.out.below hbq)
  have R2_ := Lib.hid (R2.out.below hbq)
  have HW_ := Lib.hid (bmore HW.out hbq (Nat.le_refl _))
  clear HW Vd V1 V2 RL R1 R2
  have Vd := Vd_; clear Vd_
  have V1 := V1_; clear V1_
  have V2 := V2_; clear V2_
  have RL := RL_; clear RL_
  have R1 := R1_; clear R1_
  have R2 := R2_; clear R2_
  have HW := HW_; clear HW_
  clear hbq
  obtain ⟨b3, p3, x3, ha3⟩ := addIs_ex b1 p1 ls
  obtain ⟨n3, h_n3⟩ : ∃ k, b3.length = k := ⟨_, rfl⟩
  have H_n3 := Lib.hid h_n3; clear h_n3
  obtain ⟨m3, h_m3⟩ : ∃ k, p3.length = k := ⟨_, rfl⟩
  have H_m3 := Lib.hid h_m3; clear h_m3
  have HA3 := Lib.hid ha3; clear ha3
  have k01 := V1.out.c0
  have k11 := V1.out.c1
  go_wp2_with fail
  clear k01 k11
  refine (add_any _ L nl cl b1 b3 p1 p3 ls x3 n3 m3 _ (Lib.hid V1.out.2) RL HSm hnl9 HA3 H_n3 H_m3).mono ?_
  rintro e w3 ⟨A3, c3, B3, d3, rfl, hown, hb⟩
  obtain ⟨hst, v3⟩ := var_step hb hown
  have Vd_ := Lib.hid (Vd.out.below hst)
  have V1_ := Lib.hid (V1.out.below hst)
  have V2_ := Lib.hid (V2.out.below hst)
  have RL_ := Lib.hid (RL.out.below hst)
  have R1_ := Lib.hid (R1.out.below hst)
  have R2_ := Lib.hid (R2.out.below hst)
  have HW_ := Lib.hid (bmore HW.out hst (Nat.le_refl _))
  clear HW Vd V1 V2 RL R1 R2
  have Vd := Vd_; clear Vd_
  have V1 := V1_; clear V1_
  have V2 := V2_; clear V2_
  have RL := RL_; clear RL_
  have R1 := R1_; clear R1_
  have R2 := R2_; clear R2_
  have HW := HW_; clear HW_
  have V3 := Lib.hid v3
  clear hown hb hst v3
  go_upto_region 13 with (fail)
  generalize w3.alloc (.cells #[.slice A3 n3 c3, .slice B3 m3 d3] 25) = u3 at Vd V1 V2 V3 RL R1 R2 HW ⊢
  generalize w3.heap.size = g3 at V3 ⊢
  by_cases hx3 : x3 = 0
  rotate_left
  · have t3 : (x3 == 0) = false := by simpa using hx3
    have t4 : decide (x3 = 0) = false := by simpa using hx3
    obtain ⟨b5, p5, x5, hr5⟩ := resetIs_ex b1 p1 ls
    obtain ⟨n5, h_n5⟩ : ∃ k, b5.length = k := ⟨_, rfl⟩
    have H_n5 := Lib.hid h_n5; clear h_n5
    obtain ⟨m5, h_m5⟩ : ∃ k, p5.length = k := ⟨_, rfl⟩
    have H_m5 := Lib.hid h_m5; clear h_m5
    have HR5 := Lib.hid hr5; clear hr5
    have k01 := V1.out.c0
    have k11 := V1.out.c1
    go_wp2_with fail
    clear k01 k11
    refine (reset_any _ L nl cl b1 b5 p1 p5 ls x5 n5 m5 _ (Lib.hid V1.out.2) RL HSm HNl HR5 H_n5 H_m5).mono ?_
    rintro e w5 ⟨A5, c5, B5, d5, rfl, hown, hb⟩
    obtain ⟨hst, v5⟩ := var_step hb hown
    have Vd_ := Lib.hid (Vd.out.below hst)
    have V1_ := Lib.hid (V1.out.below hst)
    have V2_ := Lib.hid (V2.out.below hst)
    have V3_ := Lib.hid (V3.out.below hst)
    have RL_ := Lib.hid (RL.out.below hst)
    have R1_ := Lib.hid (R1.out.below hst)
    have R2_ := Lib.hid (R2.out.below hst)
    have HW_ := Lib.hid (bmore HW.out hst (Nat.le_refl _))
    clear HW Vd V1 V2 V3 RL R1 R2
    have Vd := Vd_; clear Vd_
    have V1 := V1_; clear V1_
    have V2 := V2_; clear V2_
    have V3 := V3_; clear V3_
    have RL := RL_; clear RL_
    have R1 := R1_; clear R1_
    have R2 := R2_; clear R2_
    have HW := HW_; clear HW_
    have V5 := Lib.hid v5
    clear hown hb hst v5
    go_upto_region 19 with (fail)
    generalize w5.alloc (.cells #[.slice A5 n5 c5, .slice B5 m5 d5] 25) = u5 at Vd V1 V2 V3 V5 RL R1 R2 HW ⊢
    generalize w5.heap.size = g5 at V5 ⊢
    by_cases hx5 : x5 = 0
    rotate_left
    · have t5 : (x5 != 0) = true := by simpa using hx5
      have t6 : decide (x5 = 0) = false := by simpa using hx5
      go_wp2
      go_ret
      exact ⟨rfl, HW.out⟩
    subst hx5
    have HH5 := Lib.hid (reset_has HR5.out).1
    have k05 := V5.out.c0
    have k15 := V5.out.c1
    go_wp2_with fail
    clear k05 k15
    refine (open_any _ b5 b5 p5 p5 ls 0 n5 m5 nl _ (Lib.hid V5.out.2) (Lib.hid (has_open HH5.out)) H_n5 H_m5 HLL).mono ?_
    rintro e w6 ⟨A6, c6, B6, d6, C6, e6, rfl, hown, hr, l1, l2, hb⟩
    obtain ⟨hst, v6⟩ := var_step hb hown
    have hr_ := hr.below ((Below.refl w6.heap.size w6).alloc (Nat.le_refl _) (.cells #[.slice A6 n5 c6, .slice B6 m5 d6] 25))
    have Vd_ := Lib.hid (Vd.out.below hst)
    have V1_ := Lib.hid (V1.out.below hst)
    have V2_ := Lib.hid (V2.out.below hst)
    have V3_ := Lib.hid (V3.out.below hst)
    have V5_ := Lib.hid (V5.out.below hst)
    have RL_ := Lib.hid (RL.out.below hst)
    have R1_ := Lib.hid (R1.out.below hst)
    have R2_ := Lib.hid (R2.out.below hst)
    have HW_ := Lib.hid (bmore HW.out hst (Nat.le_refl _))
    clear HW Vd V1 V2 V3 V5 RL R1 R2
    have Vd := Vd_; clear Vd_
    have V1 := V1_; clear V1_
    have V2 := V2_; clear V2_
    have V3 := V3_; clear V3_
    have V5 := V5_; clear V5_
    have RL := RL_; clear RL_
    have R1 := R1_; clear R1_
    have R2 := R2_; clear R2_
    have HW := HW_; clear HW_
    have V6 := Lib.hid v6
    have R6 := Lib.hid hr_
    have L6 := Lib.hid (And.intro l1 l2)
    clear hown hb hst v6 hr hr_ l1 l2
    go_wp2_with fail
    generalize w6.alloc (.cells #[.slice A6 n5 c6, .slice B6 m5 d6] 25) = u6 at Vd V1 V2 V3 V5 V6 RL R1 R2 R6 HW ⊢
    generalize w6.heap.size = g6 at V6 ⊢
    refine (same_texts C6 L nl e6 cl ls _ R6.out RL.out (by omega)).mono ?_
    rintro e wq ⟨rfl, qq, rfl⟩
    have hbq := below_drewN (Below.refl u6.heap.size u6) qq
    have Vd_ := Lib.hid (Vd.out.below hbq)
    have V1_ := Lib.hid (V1.out.below hbq)
    have V2_ := Lib.hid (V2.out.below hbq)
    have V3_ := Lib.hid (V3.out.below hbq)
    have V5_ := Lib.hid (V5.out.below hbq)
    have V6_ := Lib.hid (V6.out.below hbq)
    have RL_ := Lib.hid (RL.out.below hbq)
    have R1_ := Lib.hid (R1.out.below hbq)
    have R2_ := Lib.hid (R2.out.below hbq)
    have R6_ := Lib.hid (R6.out.below hbq)
    have HW_ := Lib.hid (bmore HW.out hbq (Nat.le_refl _))
    clear HW Vd V1 V2 V3 V5 V6 RL R1 R2 R6
    have Vd := Vd_; clear Vd_
    have V1 := V1_; clear V1_
    have V2 := V2_; clear V2_
    have V3 := V3_; clear V3_
    have V5 := V5_; clear V5_
    have V6 := V6_; clear V6_
    have RL := RL_; clear RL_
    have R1 := R1_; clear R1_
    have R2 := R2_; clear R2_
    have R6 := R6_; clear R6_
    have HW := HW_; clear HW_
    clear hbq
    go_wp2
    go_ret
    exact ⟨rfl, HW.out⟩
  subst hx3
  obtain ⟨hh3, _, _, _⟩ := add_has HH.out HA3.out
  have HH3 := Lib.hid hh3; clear hh3
  obtain ⟨r4, hr4⟩ : ∃ r, NM.join (was ++ ls) = r := ⟨_, rfl⟩
  have hs4 := has_see HH3.out
  have ho4 := has_open (has_sync HH3.out)
  rw [hr4] at hs4 ho4
  have HS4 := Lib.hid hs4; clear hs4
  have HO4 := Lib.hid ho4; clear ho4
  obtain ⟨n4, h_n4⟩ : ∃ k, r4.length = k := ⟨_, rfl⟩
  have H_n4 := Lib.hid h_n4; clear h_n4
  have HQ4 := Lib.hid (show (was ++ ls).length = q1 + nl by rw [List.length_append, H_q1.out, HLL.out])
  clear hr4
  have k03 := V3.out.c0
  have k13 := V3.out.c1
  go_wp2_with fail
  clear k03 k13
  refine (sync_s _ b3 r4 p3 n4 0 _ (Lib.hid V3.out.2) HS4 H_n4).mono ?_
  rintro e w4 ⟨A4, c4, B4, d4, rfl, hown, hb⟩
  obtain ⟨hst, v4⟩ := var_step hb hown
  have Vd_ := Lib.hid (Vd.out.below hst)
  have V1_ := Lib.hid (V1.out.below hst)
  have V2_ := Lib.hid (V2.out.below hst)
  have V3_ := Lib.hid (V3.out.below hst)
  have RL_ := Lib.hid (RL.out.below hst)
  have R1_ := Lib.hid (R1.out.below hst)
  have R2_ := Lib.hid (R2.out.below hst)
  have HW_ := Lib.hid (bmore HW.out hst (Nat.le_refl _))
  clear HW Vd V1 V2 V3 RL R1 R2
  have Vd := Vd_; clear Vd_
  have V1 := V1_; clear V1_
  have V2 := V2_; clear V2_
  have V3 := V3_; clear V3_
  have RL := RL_; clear RL_
  have R1 := R1_; clear R1_
  have R2 := R2_; clear R2_
  have HW := HW_; clear HW_
  have V4 := Lib.hid v4
  clear hown hb hst v4
  have k04 := V4.out.c0
  have k14 := V4.out.c1
  go_wp2_with fail
  clear k04 k14
  generalize w4.alloc (.cells #[.slice A4 n4 c4, .slice B4 0 d4] 25) = u4 at Vd V1 V2 V3 V4 RL R1 R2 HW ⊢
  generalize w4.heap.size = g4 at V4 ⊢
  refine (open_any _ r4 r4 [] [] (was ++ ls) 0 n4 0 (q1 + nl) _ (Lib.hid V4.out.2) HO4 H_n4 (Lib.hid rfl) HQ4).mono ?_
  rintro e w7 ⟨A7, c7, B7, d7, C7, e7, rfl, hown, hr, l1, l2, hb⟩
  obtain ⟨hst, v7⟩ := var_step hb hown
  have hr_ := hr.below ((Below.refl w7.heap.size w7).alloc (Nat.le_refl _) (.cells #[.slice A7 n4 c7, .slice B7 0 d7] 25))
  have Vd_ := Lib.hid (Vd.out.below hst)
  have V1_ := Lib.hid (V1.out.below hst)
  have V2_ := Lib.hid (V2.out.below hst)
  have V3_ := Lib.hid (V3.out.below hst)
  have V4_ := Lib.hid (V4.out.below hst)
  have RL_ := Lib.hid (RL.out.below hst)
  have R1_ := Lib.hid (R1.out.below hst)
  have R2_ := Lib.hid (R2.out.below hst)
  have HW_ := Lib.hid (bmore HW.out hst (Nat.le_refl _))
  clear HW Vd V1 V2 V3 V4 RL R1 R2
  have Vd := Vd_; clear Vd_
  have V1 := V1_; clear V1_
  have V2 := V2_; clear V2_
  have V3 := V3_; clear V3_
  have V4 := V4_; clear V4_
  have RL := RL_; clear RL_
  have R1 := R1_; clear R1_
  have R2 := R2_; clear R2_
  have HW := HW_; clear HW_
  have V7 := Lib.hid v7
  have R7 := Lib.hid hr_
  have L7 := Lib.hid (And.intro l1 l2)
  clear hown hb hst v7 hr hr_ l1 l2
  go_wp2_with fail
  generalize w7.alloc (.cells #[.slice A7 n4 c7, .slice B7 0 d7] 25) = u7 at Vd V1 V2 V3 V4 V7 RL R1 R2 R7 HW ⊢
  generalize w7.heap.size = g7 at V7 ⊢
  refine (joined_any C1 L q1 nl e1 cl was ls _ R1 RL (by omega) (by omega)).mono ?_
  rintro e w8 ⟨A8, c8, rfl, hr8, _, _, hb⟩
  have Vd_ := Lib.hid (Vd.out.below hb)
  have V1_ := Lib.hid (V1.out.below hb)
  have V2_ := Lib.hid (V2.out.below hb)
  have V3_ := Lib.hid (V3.out.below hb)
  have V4_ := Lib.hid (V4.out.below hb)
  have V7_ := Lib.hid (V7.out.below hb)
  have RL_ := Lib.hid (RL.out.below hb)
  have R1_ := Lib.hid (R1.out.below hb)
  have R2_ := Lib.hid (R2.out.below hb)
  have R7_ := Lib.hid (R7.out.below hb)
  have HW_ := Lib.hid (bmore HW.out hb (Nat.le_refl _))
  clear HW Vd V1 V2 V3 V4 V7 RL R1 R2 R7
  have Vd := Vd_; clear Vd_
  have V1 := V1_; clear V1_
  have V2 := V2_; clear V2_
  have V3 := V3_; clear V3_
  have V4 := V4_; clear V4_
  have V7 := V7_; clear V7_
  have RL := RL_; clear RL_
  have R1 := R1_; clear R1_
  have R2 := R2_; clear R2_
  have R7 := R7_; clear R7_
  have HW := HW_; clear HW_
  clear hb
  have R8 := Lib.hid hr8; clear hr8
  go_wp2_with fail
  refine (same_texts C7 A8 (q1 + nl) e7 c8 (was ++ ls) _ R7.out R8.out (by omega)).mono ?_
  rintro e wq ⟨rfl, qq, rfl⟩
  have hbq := below_drewN (Below.refl w8.heap.size w8) qq
  have Vd_ := Lib.hid (Vd.out.below hbq)
  have V1_ := Lib.hid (V1.out.below hbq)
  have V2_ := Lib.hid (V2.out.below hbq)
  have V3_ := Lib.hid (V3.out.below hbq)
  have V4_ := Lib.hid (V4.out.below hbq)
  have V7_ := Lib.hid (V7.out.below hbq)
  have RL_ := Lib.hid (RL.out.below hbq)
  have R1_ := Lib.hid (R1.out.below hbq)
  have R2_ := Lib.hid (R2.out.below hbq)
  have R7_ := Lib.hid (R7.out.below hbq)
  have R8_ := Lib.hid (R8.out.below hbq)
  have HW_ := Lib.hid (bmore HW.out hbq (Nat.le_refl _))
  clear HW Vd V1 V2 V3 V4 V7 RL R1 R2 R7 R8
  have Vd := Vd_; clear Vd_
  have V1 := V1_; clear V1_
  have V2 := V2_; clear V2_
  have V3 := V3_; clear V3_
  have V4 := V4_; clear V4_
  have V7 := V7_; clear V7_
  have RL := RL_; clear RL_
  have R1 := R1_; clear R1_
  have R2 := R2_; clear R2_
  have R7 := R7_; clear R7_
  have R8 := R8_; clear R8_
  have HW := HW_; clear HW_
  clear hbq
  have k07 := V7.out.c0
  have k17 := V7.out.c1
  go_upto_region 18 with (fail)
  clear k07 k17
  obtain ⟨b5, p5, x5, hr5⟩ := resetIs_ex b1 p1 ls
  obtain ⟨n5, h_n5⟩ : ∃ k, b5.length = k := ⟨_, rfl⟩
  have H_n5 := Lib.hid h_n5; clear h_n5
  obtain ⟨m5, h_m5⟩ : ∃ k, p5.length = k := ⟨_, rfl⟩
  have H_m5 := Lib.hid h_m5; clear h_m5
  have HR5 := Lib.hid hr5; clear hr5
  have k01 := V1.out.c0
  have k11 := V1.out.c1
  go_wp2_with fail
  clear k01 k11
  refine (reset_any _ L nl cl b1 b5 p1 p5 ls x5 n5 m5 _ (Lib.hid V1.out.2) RL HSm HNl HR5 H_n5 H_m5).mono ?_
  rintro e w5 ⟨A5, c5, B5, d5, rfl, hown, hb⟩
  obtain ⟨hst, v5⟩ := var_step hb hown
  have Vd_ := Lib.hid (Vd.out.below hst)
  have V1_ := Lib.hid (V1.out.below hst)
  have V2_ := Lib.hid (V2.out.below hst)
  have V3_ := Lib.hid (V3.out.below hst)
  have V4_ := Lib.hid (V4.out.below hst)
  have V7_ := Lib.hid (V7.out.below hst)
  have RL_ := Lib.hid (RL.out.below hst)
  have R1_ := Lib.hid (R1.out.below hst)
  have R2_ := Lib.hid (R2.out.below hst)
  have R7_ := Lib.hid (R7.out.below hst)
  have R8_ := Lib.hid (R8.out.below hst)
  have HW_ := Lib.hid (bmore HW.out hst (Nat.le_refl _))
  clear HW Vd V1 V2 V3 V4 V7 RL R1 R2 R7 R8
  have Vd := Vd_; clear Vd_
  have V1 := V1_; clear V1_
  have V2 := V2_; clear V2_
  have V3 := V3_; clear V3_
  have V4 := V4_; clear V4_
  have V7 := V7_; clear V7_
  have RL := RL_; clear RL_
  have R1 := R1_; clear R1_
  have R2 := R2_; clear R2_
  have R7 := R7_; clear R7_
  have R8 := R8_; clear R8_
  have HW := HW_; clear HW_
  have V5 := Lib.hid v5
  clear hown hb hst v5
  go_upto_region 19 with (fail)
  generalize w5.alloc (.cells #[.slice A5 n5 c5, .slice B5 m5 d5] 25) = u5 at Vd V1 V2 V3 V4 V7 V5 RL R1 R2 R7 R8 HW ⊢
  generalize w5.heap.size = g5 at V5 ⊢
  by_cases hx5 : x5 = 0
  rotate_left
  · have t5 : (x5 != 0) = true := by simpa using hx5
    have t6 : decide (x5 = 0) = false := by simpa using hx5
    go_wp2
    go_ret
    exact ⟨rfl, HW.out⟩
  subst hx5
  have HH5 := Lib.hid (reset_has HR5.out).1
  have k05 := V5.out.c0
  have k15 := V5.out.c1
  go_wp2_with fail
  clear k05 k15
  refine (open_any _ b5 b5 p5 p5 ls 0 n5 m5 nl _ (Lib.hid V5.out.2) (Lib.hid (has_open HH5.out)) H_n5 H_m5 HLL).mono ?_
  rintro e w6 ⟨A6, c6, B6, d6, C6, e6, rfl, hown, hr, l1, l2, hb⟩
  obtain ⟨hst, v6⟩ := var_step hb hown
  have hr_ := hr.below ((Below.refl w6.heap.size w6).alloc (Nat.le_refl _) (.cells #[.slice A6 n5 c6, .slice B6 m5 d6] 25))
  have Vd_ := Lib.hid (Vd.out.below hst)
  have V1_ := Lib.hid (V1.out.below hst)
  have V2_ := Lib.hid (V2.out.below hst)
  have V3_ := Lib.hid (V3.out.below hst)
  have V4_ := Lib.hid (V4.out.below hst)
  have V7_ := Lib.hid (V7.out.below hst)
  have V5_ := Lib.hid (V5.out.below hst)
  have RL_ := Lib.hid (RL.out.below hst)
  have R1_ := Lib.hid (R1.out.below hst)
  have R2_ := Lib.hid (R2.out.below hst)
  have R7_ := Lib.hid (R7.out.below hst)
  have R8_ := Lib.hid (R8.out.below hst)
  have HW_ := Lib.hid (bmore HW.out hst (Nat.le_refl _))
  clear HW Vd V1 V2 V3 V4 V7 V5 RL R1 R2 R7 R8
  have Vd := Vd_; clear Vd_
  have V1 := V1_; clear V1_
  have V2 := V2_; clear V2_
  have V3 := V3_; clear V3_
  have V4 := V4_; clear V4_
  have V7 := V7_; clear V7_
  have V5 := V5_; clear V5_
  have RL := RL_; clear RL_
  have R1 := R1_; clear R1_
  have R2 := R2_; clear R2_
  have R7 := R7_; clear R7_
  have R8 := R8_; clear R8_
  have HW := HW_; clear HW_
  have V6 := Lib.hid v6
  have R6 := Lib.hid hr_
  have L6 := Lib.hid (And.intro l1 l2)
  clear hown hb hst v6 hr hr_ l1 l2
  go_wp2_with fail
  generalize w6.alloc (.cells #[.slice A6 n5 c6, .slice B6 m5 d6] 25) = u6 at Vd V1 V2 V3 V4 V7 V5 V6 RL R1 R2 R7 R8 R6 HW ⊢
  generalize w6.heap.size = g6 at V6 ⊢
  refine (same_texts C6 L nl e6 cl ls _ R6.out RL.out (by omega)).mono ?_
  rintro e wq ⟨rfl, qq, rfl⟩
  have hbq := below_drewN (Below.refl u6.heap.size u6) qq
  have Vd_ := Lib.hid (Vd.out.below hbq)
  have V1_ := Lib.hid (V1.out.below hbq)
  have V2_ := Lib.hid (V2.out.below hbq)
  have V3_ := Lib.hid (V3.out.below hbq)
  have V4_ := Lib.hid (V4.out.below hbq)
  have V7_ := Lib.hid (V7.out.below hbq)
  have V5_ := Lib.hid (V5.out.below hbq)
  have V6_ := Lib.hid (V6.out.below hbq)
  have RL_ := Lib.hid (RL.out.below hbq)
  have R1_ := Lib.hid (R1.out.below hbq)
  have R2_ := Lib.hid (R2.out.below hbq)
  have R7_ := Lib.hid (R7.out.below hbq)
  have R8_ := Lib.hid (R8.out.below hbq)
  have R6_ := Lib.hid (R6.out.below hbq)
  have HW_ := Lib.hid (bmore HW.out hbq (Nat.le_refl _))
  clear HW Vd V1 V2 V3 V4 V7 V5 V6 RL R1 R2 R7 R8 R6
  have Vd := Vd_; clear Vd_
  have V1 := V1_; clear V1_
  have V2 := V2_; clear V2_
  have V3 := V3_; clear V3_
  have V4 := V4_; clear V4_
  have V7 := V7_; clear V7_
  have V5 := V5_; clear V5_
  have V6 := V6_; clear V6_
  have RL := RL_; clear RL_
  have R1 := R1_; clear R1_
  have R2 := R2_; clear R2_
  have R7 := R7_; clear R7_
  have R8 := R8_; clear R8_
  have R6 := R6_; clear R6_
  have HW := HW_; clear HW_
  clear hbq
  go_wp2
  go_ret
  exact ⟨rfl, HW.out⟩

theorem walHas_walk (v : Value) (b : List UInt8) (ps : List DM.Wr) (a1 : Option Addr) (len1 cap1 : Nat) (z1 : List ByteArray) (w : World) (w0 : DiskArg w v b ps) (w1 : IsTexts w a1 len1 cap1 z1) :
    Calls Try.prog 5 #[v, .slice a1 len1 cap1] w fun e w' => e = .returned (.bool true) ∧ Below w.heap.size w w' := by
  obtain ⟨hl1, hm1, _⟩ := w1.len_le
  exact walHas_core v b ps a1 len1 cap1 _ w (Lib.hid w0) (Lib.hid w1.texts) (Lib.hid (Nat.le_trans hl1 hm1)) (Lib.hid fun t ht => by have := w1.small t ht; unfold maxLen at this; omega)
end Go.Proofs.Ytkdnkaiknmcfmaa
