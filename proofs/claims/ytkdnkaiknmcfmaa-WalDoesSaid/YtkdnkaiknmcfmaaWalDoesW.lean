/-
  The walk of WalDoes: disks are opened, added to and written anew as the document says; what is handed in stays, and what is answered is new memory.
-/
import Derived.Test.YtkdnkaiknmcfmaaWalE
import Derived.Test.YtkdnkaiknmcfmaaWalRA
import Derived.Test.YtkdnkaiknmcfmaaDiskArg
import Derived.Test.YtkdnkaiknmcfmaaDiskGr
import Derived.Test.YtkdnkaiknmcfmaaRefS
import Derived.Test.YtkdnkaiknmcfmaaTurnW
import Derived.BigRegion
namespace Go.Proofs.Ytkdnkaiknmcfmaa
open Go.RowKit
set_option linter.unusedVariables false

set_option maxRecDepth 100000 in
set_option maxHeartbeats 16000000 in
theorem walDoes_core (v : Value) (b : List UInt8) (ps : List DM.Wr) (L : Option Addr) (nl cl : Nat) (ls : List (List UInt8)) (w : World) (HV : Hid (DiskArg w v b ps)) (HL : Hid (Rd w L nl (sc ls))) (HNl : Hid (nl ≤ maxLen)) (HSm : Hid (∀ t ∈ ls, t.length ≤ 9223372036854775807)) :
    Calls Try.prog 4 #[v, .slice L nl cl] w fun e w' => e = .returned (.bool true) ∧ Below w.heap.size w w' := by
  obtain ⟨hv0, hb0, hp0⟩ := HV.out
  obtain ⟨A, n, c, B, m, d, rfl, h1, h2, h3, h4, h5, h6⟩ := hv0
  have hst : Below w.heap.size w (w.alloc (.cells #[.slice A n c, .slice B m d] 25)) := (Below.refl _ _).alloc (Nat.le_refl _) _
  have HW := Lib.hid hst
  have Vd : Hid (Var (w.alloc (.cells #[.slice A n c, .slice B m d] 25)) w.heap.size A n c B m d b ps) := Lib.hid ⟨Box.new _ _ _, HV.out.1.below hst⟩
  have RL := Lib.hid (HL.out.below hst)
  have HB0 := Lib.hid hb0
  have HP0 := Lib.hid hp0
  have hnl9 : nl ≤ 9223372036854775807 := by have := HNl.out; unfold maxLen at this; omega
  have hll : ls.length = nl := by have := HL.out.1; rwa [sc_length] at this
  have HLL := Lib.hid hll
  clear hst h1 h2 h3 h4 h5 h6 HV hb0 hp0 HL hll
  go_enter Try.func4, Try.ntmps4
  go_wp2_with fail
  generalize w.alloc (.cells #[.slice A n c, .slice B m d] 25) = u0 at Vd RL HW ⊢
  generalize hgd : w.heap.size = gd at Vd ⊢
  have HGD := Lib.hid hgd; clear hgd
  refine (great_any _ b ps _ (Lib.hid Vd.out.2) HB0.out HP0).mono ?_
  rintro e wg ⟨gr, rfl, hsmall, hb⟩
  have Vd_ := Lib.hid (Vd.out.below hb)
  have RL_ := Lib.hid (RL.out.below hb)
  have HW_ := Lib.hid (bmore HW.out hb (Nat.le_refl _))
  clear HW Vd RL
  have Vd := Vd_; clear Vd_
  have RL := RL_; clear RL_
  have HW := HW_; clear HW_
  clear hb
  cases gr with
  | true =>
    go_wp2
    go_ret
    exact ⟨rfl, HW.out⟩
  | false =>
  have HSmall := Lib.hid (hsmall rfl); clear hsmall
  go_wp2_with fail
  refine (tgreat_any L nl cl ls _ RL.out HSm.out hnl9).mono ?_
  rintro e wh ⟨gr, rfl, rfl, hgr⟩
  cases gr with
  | true =>
    clear hgr
    go_wp2
    go_ret
    exact ⟨rfl, HW.out⟩
  | false =>
  have hnl : nl ≤ 1000 := hgr rfl
  clear hgr
  have HT : Hid (DM.total b ps ≤ 140737488355328) := Lib.hid (Nat.le_trans HSmall.out.1 (by omega))
  have hpsl : ps.length ≤ 100000 := Nat.le_trans HSmall.out.2 (by omega)
  obtain ⟨b1, p1, was, x1, ho1⟩ := openIs_ex b ps
  obtain ⟨b3, p3, x3, ha3⟩ := addIs_ex b ps ls
  obtain ⟨b5, p5, x5, hr5⟩ := resetIs_ex b ps ls
  obtain ⟨n1, h_n1⟩ : ∃ k, b1.length = k := ⟨_, rfl⟩
  have H_n1 := Lib.hid h_n1; clear h_n1
  obtain ⟨m1, h_m1⟩ : ∃ k, p1.length = k := ⟨_, rfl⟩
  have H_m1 := Lib.hid h_m1; clear h_m1
  obtain ⟨q1, h_q1⟩ : ∃ k, was.length = k := ⟨_, rfl⟩
  have H_q1 := Lib.hid h_q1; clear h_q1
  obtain ⟨n3, h_n3⟩ : ∃ k, b3.length = k := ⟨_, rfl⟩
  have H_n3 := Lib.hid h_n3; clear h_n3
  obtain ⟨m3, h_m3⟩ : ∃ k, p3.length = k := ⟨_, rfl⟩
  have H_m3 := Lib.hid h_m3; clear h_m3
  obtain ⟨n5, h_n5⟩ : ∃ k, b5.length = k := ⟨_, rfl⟩
  have H_n5 := Lib.hid h_n5; clear h_n5
  obtain ⟨m5, h_m5⟩ : ∃ k, p5.length = k := ⟨_, rfl⟩
  have H_m5 := Lib.hid h_m5; clear h_m5
  have HO1 := Lib.hid ho1; clear ho1
  have HA3 := Lib.hid ha3; clear ha3
  have HR5 := Lib.hid hr5; clear hr5
  have htw := fun W (hW : DiskIs W (.agg #[.slice A n c, .slice B m d]) b ps) => twin_any (.agg #[.slice A n c, .slice B m d]) b ps W (Lib.hid hW) HT hpsl
  rw [Vd.out.len, Vd.out.wlen] at htw
  have HTw := Lib.hid htw; clear htw
  have k0d := Vd.out.c0
  have k1d := Vd.out.c1
  go_wp2_with fail
  clear k0d k1d
  refine (HTw.out _ Vd.out.2).mono ?_
  rintro e w9 ⟨A9, c9, B9, d9, rfl, hown, hb⟩
  obtain ⟨hst, v9⟩ := var_step hb hown
  have Vd_ := Lib.hid (Vd.out.below hst)
  have RL_ := Lib.hid (RL.out.below hst)
  have HW_ := Lib.hid (bmore HW.out hst (Nat.le_refl _))
  clear HW Vd RL
  have Vd := Vd_; clear Vd_
  have RL := RL_; clear RL_
  have HW := HW_; clear HW_
  have V9 := Lib.hid v9
  clear hown hb hst v9
  have k09 := V9.out.c0
  have k19 := V9.out.c1
  go_wp2_with fail
  clear k09 k19
  generalize w9.alloc (.cells #[.slice A9 n c9, .slice B9 m d9] 25) = u9 at Vd V9 RL HW ⊢
  generalize w9.heap.size = g9 at V9 ⊢
  clear HTw
  have V9f := V9
  have Vdf := Vd
  have HB9 : Hid (Below u9.heap.size u9 u9) := Lib.hid (Below.refl _ _)
  have lw : w.heap.size ≤ u9.heap.size := HW.out.size
  refine (open_any _ b b1 ps p1 was x1 n1 m1 q1 _ (Lib.hid V9.out.2) HO1 H_n1 H_m1 H_q1).mono ?_
  rintro e w1 ⟨A1, c1, B1, d1, C1, e1, rfl, hown, hr, l1, l2, hb⟩
  obtain ⟨hst, v1⟩ := var_step hb hown
  have hal : Below w1.heap.size w1 (w1.alloc (.cells #[.slice A1 n1 c1, .slice B1 m1 d1] 25)) := (Below.refl _ _).alloc (Nat.le_refl _) _
  have OW1 := Lib.hid hown
  have hr_ := hr.below hal
  have Vd_ := Lib.hid (Vd.out.below hst)
  have V9_ := Lib.hid (V9.out.below hst)
  have RL_ := Lib.hid (RL.out.below hst)
  have HW_ := Lib.hid (bmore HW.out hst (Nat.le_refl _))
  have HB9_ := Lib.hid (bmore HB9.out hst (Nat.le_refl _))
  clear HW Vd V9 RL HB9
  have Vd := Vd_; clear Vd_
  have V9 := V9_; clear V9_
  have RL := RL_; clear RL_
  have HB9 := HB9_; clear HB9_
  have HW := HW_; clear HW_
  have SM1 := Lib.hid hal
  have V1 := Lib.hid v1
  have R1 := Lib.hid hr_
  have L1 := Lib.hid (And.intro l1 l2)
  have le_1 := hb.size
  clear hown hb hst hal v1 hr hr_ l1 l2
  have k0d := Vd.out.c0
  have k1d := Vd.out.c1
  go_wp2_with fail
  clear k0d k1d
  generalize w1.alloc (.cells #[.slice A1 n1 c1, .slice B1 m1 d1] 25) = u1 at Vd V9 V1 RL R1 HB9 SM1 HW ⊢
  generalize hg1 : w1.heap.size = g1 at V1 ⊢
  have HG1 := Lib.hid hg1; clear hg1
  refine (refOpen_any _ b b1 ps p1 was x1 n1 m1 q1 _ (Lib.hid Vd.out.2) HT HO1 H_n1 H_m1 H_q1).mono ?_
  rintro e w2 ⟨A2, c2, B2, d2, C2, e2, rfl, hown, hr, l1, l2, hb⟩
  obtain ⟨hst, v2⟩ := var_step hb hown
  have hr_ := hr.below ((Below.refl w2.heap.size w2).alloc (Nat.le_refl _) (.cells #[.slice A2 n1 c2, .slice B2 m1 d2] 25))
  have Vd_ := Lib.hid (Vd.out.below hst)
  have V9_ := Lib.hid (V9.out.below hst)
  have V1_ := Lib.hid (V1.out.below hst)
  have RL_ := Lib.hid (RL.out.below hst)
  have R1_ := Lib.hid (R1.out.below hst)
  have HW_ := Lib.hid (bmore HW.out hst (Nat.le_refl _))
  have HB9_ := Lib.hid (bmore HB9.out hst (Nat.le_refl _))
  have SM1_ := Lib.hid (bmore SM1.out hst (Nat.le_refl _))
  clear HW Vd V9 V1 RL R1 HB9 SM1
  have Vd := Vd_; clear Vd_
  have V9 := V9_; clear V9_
  have V1 := V1_; clear V1_
  have RL := RL_; clear RL_
  have R1 := R1_; clear R1_
  have HB9 := HB9_; clear HB9_
  have SM1 := SM1_; clear SM1_
  have HW := HW_; clear HW_
  have V2 := Lib.hid v2
  have R2 := Lib.hid hr_
  have L2 := Lib.hid (And.intro l1 l2)
  clear hown hb hst v2 hr hr_ l1 l2
  have k09 := V9.out.c0
  have k19 := V9.out.c1
  go_wp2_with fail
  clear k09 k19
  generalize w2.alloc (.cells #[.slice A2 n1 c2, .slice B2 m1 d2] 25) = u2 at Vd V9 V1 V2 RL R1 R2 HB9 SM1 HW ⊢
  generalize w2.heap.size = g2 at V2 ⊢
  have le12 : w1.heap.size ≤ u2.heap.size := SM1.out.size
  refine (add_any _ L nl cl b b3 ps p3 ls x3 n3 m3 _ (Lib.hid V9.out.2) RL HSm hnl9 HA3 H_n3 H_m3).mono ?_
  rintro e w3 ⟨A3, c3, B3, d3, rfl, hown, hb⟩
  obtain ⟨hst, v3⟩ := var_step hb hown
  have hal : Below w3.heap.size w3 (w3.alloc (.cells #[.slice A3 n3 c3, .slice B3 m3 d3] 25)) := (Below.refl _ _).alloc (Nat.le_refl _) _
  have OW3 := Lib.hid hown
  have Vd_ := Lib.hid (Vd.out.below hst)
  have V9_ := Lib.hid (V9.out.below hst)
  have V1_ := Lib.hid (V1.out.below hst)
  have V2_ := Lib.hid (V2.out.below hst)
  have RL_ := Lib.hid (RL.out.below hst)
  have R1_ := Lib.hid (R1.out.below hst)
  have R2_ := Lib.hid (R2.out.below hst)
  have HW_ := Lib.hid (bmore HW.out hst (Nat.le_refl _))
  have HB9_ := Lib.hid (bmore HB9.out hst (Nat.le_refl _))
  have SM1_ := Lib.hid (bmore SM1.out hst (Nat.le_refl _))
  clear HW Vd V9 V1 V2 RL R1 R2 HB9 SM1
  have Vd := Vd_; clear Vd_
  have V9 := V9_; clear V9_
  have V1 := V1_; clear V1_
  have V2 := V2_; clear V2_
  have RL := RL_; clear RL_
  have R1 := R1_; clear R1_
  have R2 := R2_; clear R2_
  have HB9 := HB9_; clear HB9_
  have SM1 := SM1_; clear SM1_
  have HW := HW_; clear HW_
  have SM3 := Lib.hid hal
  have V3 := Lib.hid v3
  have le_3 := hb.size
  clear hown hb hst hal v3
  have k0d := Vd.out.c0
  have k1d := Vd.out.c1
  go_wp2_with fail
  clear k0d k1d
  generalize w3.alloc (.cells #[.slice A3 n3 c3, .slice B3 m3 d3] 25) = u3 at Vd V9 V1 V2 V3 RL R1 R2 HB9 SM1 SM3 HW ⊢
  generalize hg3 : w3.heap.size = g3 at V3 ⊢
  have HG3 := Lib.hid hg3; clear hg3
  refine (refAdd_any _ L nl cl b b3 ps p3 ls x3 n3 m3 _ (Lib.hid Vd.out.2) HT RL HSm hnl9 HA3 H_n3 H_m3).mono ?_
  rintro e w4 ⟨A4, c4, B4, d4, rfl, hown, hb⟩
  obtain ⟨hst, v4⟩ := var_step hb hown
  have Vd_ := Lib.hid (Vd.out.below hst)
  have V9_ := Lib.hid (V9.out.below hst)
  have V1_ := Lib.hid (V1.out.below hst)
  have V2_ := Lib.hid (V2.out.below hst)
  have V3_ := Lib.hid (V3.out.below hst)
  have RL_ := Lib.hid (RL.out.below hst)
  have R1_ := Lib.hid (R1.out.below hst)
  have R2_ := Lib.hid (R2.out.below hst)
  have HW_ := Lib.hid (bmore HW.out hst (Nat.le_refl _))
  have HB9_ := Lib.hid (bmore HB9.out hst (Nat.le_refl _))
  have SM1_ := Lib.hid (bmore SM1.out hst (Nat.le_refl _))
  have SM3_ := Lib.hid (bmore SM3.out hst (Nat.le_refl _))
  clear HW Vd V9 V1 V2 V3 RL R1 R2 HB9 SM1 SM3
  have Vd := Vd_; clear Vd_
  have V9 := V9_; clear V9_
  have V1 := V1_; clear V1_
  have V2 := V2_; clear V2_
  have V3 := V3_; clear V3_
  have RL := RL_; clear RL_
  have R1 := R1_; clear R1_
  have R2 := R2_; clear R2_
  have HB9 := HB9_; clear HB9_
  have SM1 := SM1_; clear SM1_
  have SM3 := SM3_; clear SM3_
  have HW := HW_; clear HW_
  have V4 := Lib.hid v4
  clear hown hb hst v4
  have k09 := V9.out.c0
  have k19 := V9.out.c1
  go_wp2_with fail
  clear k09 k19
  generalize w4.alloc (.cells #[.slice A4 n3 c4, .slice B4 m3 d4] 25) = u4 at Vd V9 V1 V2 V3 V4 RL R1 R2 HB9 SM1 SM3 HW ⊢
  generalize w4.heap.size = g4 at V4 ⊢
  refine (reset_any _ L nl cl b b5 ps p5 ls x5 n5 m5 _ (Lib.hid V9.out.2) RL HSm HNl HR5 H_n5 H_m5).mono ?_
  rintro e w5 ⟨A5, c5, B5, d5, rfl, hown, hb⟩
  obtain ⟨hst, v5⟩ := var_step hb hown
  have Vd_ := Lib.hid (Vd.out.below hst)
  have V9_ := Lib.hid (V9.out.below hst)
  have V1_ := Lib.hid (V1.out.below hst)
  have V2_ := Lib.hid (V2.out.below hst)
  have V3_ := Lib.hid (V3.out.below hst)
  have V4_ := Lib.hid (V4.out.below hst)
  have RL_ := Lib.hid (RL.out.below hst)
  have R1_ := Lib.hid (R1.out.below hst)
  have R2_ := Lib.hid (R2.out.below hst)
  have HW_ := Lib.hid (bmore HW.out hst (Nat.le_refl _))
  have HB9_ := Lib.hid (bmore HB9.out hst (Nat.le_refl _))
  have SM1_ := Lib.hid (bmore SM1.out hst (Nat.le_refl _))
  have SM3_ := Lib.hid (bmore SM3.out hst (Nat.le_refl _))
  clear HW Vd V9 V1 V2 V3 V4 RL R1 R2 HB9 SM1 SM3
  have Vd := Vd_; clear Vd_
  have V9 := V9_; clear V9_
  have V1 := V1_; clear V1_
  have V2 := V2_; clear V2_
  have V3 := V3_; clear V3_
  have V4 := V4_; clear V4_
  have RL := RL_; clear RL_
  have R1 := R1_; clear R1_
  have R2 := R2_; clear R2_
  have HB9 := HB9_; clear HB9_
  have SM1 := SM1_; clear SM1_
  have SM3 := SM3_; clear SM3_
  have HW := HW_; clear HW_
  have V5 := Lib.hid v5
  clear hown hb hst v5
  have k0d := Vd.out.c0
  have k1d := Vd.out.c1
  go_wp2_with fail
  clear k0d k1d
  generalize w5.alloc (.cells #[.slice A5 n5 c5, .slice B5 m5 d5] 25) = u5 at Vd V9 V1 V2 V3 V4 V5 RL R1 R2 HB9 SM1 SM3 HW ⊢
  generalize w5.heap.size = g5 at V5 ⊢
  refine (refReset_any _ L nl cl b b5 ps p5 ls x5 n5 m5 _ (Lib.hid Vd.out.2) HT RL HSm HNl HR5 H_n5 H_m5).mono ?_
  rintro e w6 ⟨A6, c6, B6, d6, rfl, hown, hb⟩
  obtain ⟨hst, v6⟩ := var_step hb hown
  have Vd_ := Lib.hid (Vd.out.below hst)
  have V9_ := Lib.hid (V9.out.below hst)
  have V1_ := Lib.hid (V1.out.below hst)
  have V2_ := Lib.hid (V2.out.below hst)
  have V3_ := Lib.hid (V3.out.below hst)
  have V4_ := Lib.hid (V4.out.below hst)
  have V5_ := Lib.hid (V5.out.below hst)
  have RL_ := Lib.hid (RL.out.below hst)
  have R1_ := Lib.hid (R1.out.below hst)
  have R2_ := Lib.hid (R2.out.below hst)
  have HW_ := Lib.hid (bmore HW.out hst (Nat.le_refl _))
  have HB9_ := Lib.hid (bmore HB9.out hst (Nat.le_refl _))
  have SM1_ := Lib.hid (bmore SM1.out hst (Nat.le_refl _))
  have SM3_ := Lib.hid (bmore SM3.out hst (Nat.le_refl _))
  clear HW Vd V9 V1 V2 V3 V4 V5 RL R1 R2 HB9 SM1 SM3
  have Vd := Vd_; clear Vd_
  have V9 := V9_; clear V9_
  have V1 := V1_; clear V1_
  have V2 := V2_; clear V2_
  have V3 := V3_; clear V3_
  have V4 := V4_; clear V4_
  have V5 := V5_; clear V5_
  have RL := RL_; clear RL_
  have R1 := R1_; clear R1_
  have R2 := R2_; clear R2_
  have HB9 := HB9_; clear HB9_
  have SM1 := SM1_; clear SM1_
  have SM3 := SM3_; clear SM3_
  have HW := HW_; clear HW_
  have V6 := Lib.hid v6
  clear hown hb hst v6
  go_upto_region 10 with (fail)
  generalize w6.alloc (.cells #[.slice A6 n5 c6, .slice B6 m5 d6] 25) = u6 at Vd V9 V1 V2 V3 V4 V5 V6 RL R1 R2 HB9 SM1 SM3 HW ⊢
  generalize w6.heap.size = g6 at V6 ⊢
  have e1 : (x1 != x1) = false := by simp
  have e2 : (x3 != x3) = false := by simp
  have e3 : (x5 != x5) = false := by simp
  have k01 := V1.out.c0
  have k11 := V1.out.c1
  have k02 := V2.out.c0
  have k12 := V2.out.c1
  go_wp2_with fail
  clear k01 k11 k02 k12
  refine (same_any _ _ b1 p1 _ (Lib.hid V1.out.2) (Lib.hid V2.out.2)).mono ?_
  rintro e ws ⟨rfl, hb⟩
  have Vd_ := Lib.hid (Vd.out.below hb)
  have V9_ := Lib.hid (V9.out.below hb)
  have V1_ := Lib.hid (V1.out.below hb)
  have V2_ := Lib.hid (V2.out.below hb)
  have V3_ := Lib.hid (V3.out.below hb)
  have V4_ := Lib.hid (V4.out.below hb)
  have V5_ := Lib.hid (V5.out.below hb)
  have V6_ := Lib.hid (V6.out.below hb)
  have RL_ := Lib.hid (RL.out.below hb)
  have R1_ := Lib.hid (R1.out.below hb)
  have R2_ := Lib.hid (R2.out.below hb)
  have HW_ := Lib.hid (bmore HW.out hb (Nat.le_refl _))
  have HB9_ := Lib.hid (bmore HB9.out hb (Nat.le_refl _))
  have SM1_ := Lib.hid (bmore SM1.out hb (Nat.le_refl _))
  have SM3_ := Lib.hid (bmore SM3.out hb (Nat.le_refl _))
  clear HW Vd V9 V1 V2 V3 V4 V5 V6 RL R1 R2 HB9 SM1 SM3
  have Vd := Vd_; clear Vd_
  have V9 := V9_; clear V9_
  have V1 := V1_; clear V1_
  have V2 := V2_; clear V2_
  have V3 := V3_; clear V3_
  have V4 := V4_; clear V4_
  have V5 := V5_; clear V5_
  have V6 := V6_; clear V6_
  have RL := RL_; clear RL_
  have R1 := R1_; clear R1_
  have R2 := R2_; clear R2_
  have HB9 := HB9_; clear HB9_
  have SM1 := SM1_; clear SM1_
  have SM3 := SM3_; clear SM3_
  have HW := HW_; clear HW_
  clear hb
  have hq9 : q1 ≤ 9223372036854775807 := by have := L1.out.1; have := L1.out.2; unfold maxLen at *; omega
  go_wp2_with fail
  refine (same_texts C1 C2 q1 _ _ was _ R1.out R2.out hq9).mono ?_
  rintro e wq ⟨rfl, qq, rfl⟩
  have hbq := below_drewN (Below.refl ws.heap.size ws) qq
  have Vd_ := Lib.hid (Vd.out.below hbq)
  have V9_ := Lib.hid (V9.out.below hbq)
  have V1_ := Lib.hid (V1.out.below hbq)
  have V2_ := Lib.hid (V2.out.below hbq)
  have V3_ := Lib.hid (V3.out.below hbq)
  have V4_ := Lib.hid (V4.out.below hbq)
  have V5_ := Lib.hid (V5.out.below hbq)
  have V6_ := Lib.hid (V6.out.below hbq)
  have RL_ := Lib.hid (RL.out.below hbq)
  have R1_ := Lib.hid (R1.out.below hbq)
  have R2_ := Lib.hid (R2.out.below hbq)
  have HW_ := Lib.hid (bmore HW.out hbq (Nat.le_refl _))
  have HB9_ := Lib.hid (bmore HB9.out hbq (Nat.le_refl _))
  have SM1_ := Lib.hid (bmore SM1.out hbq (Nat.le_refl _))
  have SM3_ := Lib.hid (bmore SM3.out hbq (Nat.le_refl _))
  clear HW Vd V9 V1 V2 V3 V4 V5 V6 RL R1 R2 HB9 SM1 SM3
  have Vd := Vd_; clear Vd_
  have V9 := V9_; clear V9_
  have V1 := V1_; clear V1_
  have V2 := V2_; clear V2_
  have V3 := V3_; clear V3_
  have V4 := V4_; clear V4_
  have V5 := V5_; clear V5_
  have V6 := V6_; clear V6_
  have RL := RL_; clear RL_
  have R1 := R1_; clear R1_
  have R2 := R2_; clear R2_
  have HB9 := HB9_; clear HB9_
  have SM1 := SM1_; clear SM1_
  have SM3 := SM3_; clear SM3_
  have HW := HW_; clear HW_
  clear hbq
  have k03 := V3.out.c0
  have k13 := V3.out.c1
  have k04 := V4.out.c0
  have k14 := V4.out.c1
  go_wp2_with fail
  clear k03 k13 k04 k14
  refine (same_any _ _ b3 p3 _ (Lib.hid V3.out.2) (Lib.hid V4.out.2)).mono ?_
  rintro e wt ⟨rfl, hb⟩
  have Vd_ := Lib.hid (Vd.out.below hb)
  have V9_ := Lib.hid (V9.out.below hb)
  have V1_ := Lib.hid (V1.out.below hb)
  have V2_ := Lib.hid (V2.out.below hb)
  have V3_ := Lib.hid (V3.out.below hb)
  have V4_ := Lib.hid (V4.out.below hb)
  have V5_ := Lib.hid (V5.out.below hb)
  have V6_ := Lib.hid (V6.out.below hb)
  have RL_ := Lib.hid (RL.out.below hb)
  have R1_ := Lib.hid (R1.out.below hb)
  have R2_ := Lib.hid (R2.out.below hb)
  have HW_ := Lib.hid (bmore HW.out hb (Nat.le_refl _))
  have HB9_ := Lib.hid (bmore HB9.out hb (Nat.le_refl _))
  have SM1_ := Lib.hid (bmore SM1.out hb (Nat.le_refl _))
  have SM3_ := Lib.hid (bmore SM3.out hb (Nat.le_refl _))
  clear HW Vd V9 V1 V2 V3 V4 V5 V6 RL R1 R2 HB9 SM1 SM3
  have Vd := Vd_; clear Vd_
  have V9 := V9_; clear V9_
  have V1 := V1_; clear V1_
  have V2 := V2_; clear V2_
  have V3 := V3_; clear V3_
  have V4 := V4_; clear V4_
  have V5 := V5_; clear V5_
  have V6 := V6_; clear V6_
  have RL := RL_; clear RL_
  have R1 := R1_; clear R1_
  have R2 := R2_; clear R2_
  have HB9 := HB9_; clear HB9_
  have SM1 := SM1_; clear SM1_
  have SM3 := SM3_; clear SM3_
  have HW := HW_; clear HW_
  clear hb
  have k05 := V5.out.c0
  have k15 := V5.out.c1
  have k06 := V6.out.c0
  have k16 := V6.out.c1
  go_wp2_with fail
  clear k05 k15 k06 k16
  refine (same_any _ _ b5 p5 _ (Lib.hid V5.out.2) (Lib.hid V6.out.2)).mono ?_
  rintro e wv ⟨rfl, hb⟩
  have Vd_ := Lib.hid (Vd.out.below hb)
  have V9_ := Lib.hid (V9.out.below hb)
  have V1_ := Lib.hid (V1.out.below hb)
  have V2_ := Lib.hid (V2.out.below hb)
  have V3_ := Lib.hid (V3.out.below hb)
  have V4_ := Lib.hid (V4.out.below hb)
  have V5_ := Lib.hid (V5.out.below hb)
  have V6_ := Lib.hid (V6.out.below hb)
  have RL_ := Lib.hid (RL.out.below hb)
  have R1_ := Lib.hid (R1.out.below hb)
  have R2_ := Lib.hid (R2.out.below hb)
  have HW_ := Lib.hid (bmore HW.out hb (Nat.le_refl _))
  have HB9_ := Lib.hid (bmore HB9.out hb (Nat.le_refl _))
  have SM1_ := Lib.hid (bmore SM1.out hb (Nat.le_refl _))
  have SM3_ := Lib.hid (bmore SM3.out hb (Nat.le_refl _))
  clear HW Vd V9 V1 V2 V3 V4 V5 V6 RL R1 R2 HB9 SM1 SM3
  have Vd := Vd_; clear Vd_
  have V9 := V9_; clear V9_
  have V1 := V1_; clear V1_
  have V2 := V2_; clear V2_
  have V3 := V3_; clear V3_
  have V4 := V4_; clear V4_
  have V5 := V5_; clear V5_
  have V6 := V6_; clear V6_
  have RL := RL_; clear RL_
  have R1 := R1_; clear R1_
  have R2 := R2_; clear R2_
  have HB9 := HB9_; clear HB9_
  have SM1 := SM1_; clear SM1_
  have SM3 := SM3_; clear SM3_
  have HW := HW_; clear HW_
  clear hb
  clear e1 e2 e3 V2 V4 V5 V6 R1 R2 RL hq9 hnl9 hpsl
  go_upto_region 12 with (fail)
  have lg1 : u9.heap.size ≤ g1 := by rw [← HG1.out]; exact le_1
  have lg12 : g1 ≤ u2.heap.size := by rw [← HG1.out]; exact le12
  have lg23 : u2.heap.size ≤ g3 := by rw [← HG3.out]; exact le_3
  have lg13 : g1 ≤ g3 := Nat.le_trans lg12 lg23
  obtain ⟨l1, hl1, hn1, hm1, ht1⟩ := turnRel_start OW1.out (fun k _ h => SM1.out.block k h) (Nat.le_of_eq HG1.out) V1.out.1
  rw [HG1.out] at ht1
  have HT1 := Lib.hid ht1
  have X3 := Lib.hid V3.out.1
  clear ht1 hm1 V1 V3 SM1 hl1 V9 Vd le_1 le_3 le12
  go_wp2_with fail
  go_loopw [20] (fun i wr => ∃ k : Nat, k ≤ n1 ∧ i = .int .i64 k ∧ TurnRel wv u9.heap.size g1 g1 A1 n1 c1 B1 m1 d1 l1 wr) (fun i _ => n1 - (intOf i).toNat)
  case atStart => exact ⟨0, by omega, rfl, HT1.out⟩
  case round =>
    clear HT1
    obtain ⟨k, hk, rfl, hrel⟩ := hrel
    have x0 : wr.cell? ⟨g1, 0, none⟩ = some (.slice A1 n1 c1) := hrel.2.2.1.cell 0
    by_cases hlt : k < n1
    · have hby := hrel.2.2.2.1
      obtain ⟨g', cur, rfl, b1, b2, b3, b4⟩ := hby (by omega)
      obtain ⟨z, hz⟩ := b4 k hlt
      have y0 : wr.cell? ⟨g', k, none⟩ = some (.int .u8 z) := (b3.cell k).trans hz
      have y1 : wr.frozen? ⟨g', k, none⟩ = false := b3.frozen k
      have hset : ∀ z', TurnRel wv u9.heap.size g1 g1 (some ⟨g', 0, none⟩) n1 c1 B1 m1 d1 l1 (wr.setCell ⟨g', k, none⟩ (.int .u8 z')) := fun z' => turn_set hrel b3 b1 b2 z'
      have HS := Lib.hid hset
      have hne : g' ≠ g1 := by have := hrel.2.1; omega
      have hne' : g1 ≠ g' := by omega
      have i0 : (0 : Int) ≤ (k : Int) := by omega
      have i1 : (k : Int) < (n1 : Int) := by omega
      clear hrel hset b3 b4 hz
      go_wp2_with fail
      go_region
      all_goals
        go_wp2_with fail
        go_roundw
        case rel => exact ⟨k + 1, by omega, by go_num, turn_drew (HS.out _)⟩
        case measure => simp [intOf]; omega
    · have hwi := hrel.1
      have HB9_ := Lib.hid (HB9.out.trans (hwi.below (Nat.le_refl _) HB9.out.size))
      have HW_ := Lib.hid (HW.out.trans (hwi.below lw HW.out.size))
      have X3_ : Hid (Box wr g3 25 #[.slice A3 n3 c3, .slice B3 m3 d3]) := Lib.hid ((hwi.block g3 X3.out.lt (.inr lg13)).trans X3.out)
      have hss : ∀ k, u2.heap.size ≤ k → k < w3.heap.size → wr.heap[k]? = w3.heap[k]? := fun k h1 h2 => (hwi.block k (Nat.lt_of_lt_of_le h2 SM3.out.size) (.inr (Nat.le_trans lg12 h1))).trans (SM3.out.block k h2)
      obtain ⟨l3, hl3, hn3, hm3, ht3⟩ := turnRel_start OW3.out hss (Nat.le_of_eq HG3.out) X3_.out
      rw [HG3.out] at ht3
      have HT3 := Lib.hid ht3
      have HL3 := Lib.hid hl3
      clear hrel hwi HB9 HW X3 X3_ SM3 hss ht3 hl3
      have HB9 := HB9_; clear HB9_
      have HW := HW_; clear HW_
      go_wp2_with fail
      clear x0
      generalize wr = wb at HB9 HW HT3 ⊢
      go_loopw [21] (fun i wr => ∃ k : Nat, k ≤ n3 ∧ i = .int .i64 k ∧ TurnRel wb u2.heap.size g3 g3 A3 n3 c3 B3 m3 d3 l3 wr) (fun i _ => n3 - (intOf i).toNat)
      case atStart => exact ⟨0, by omega, rfl, HT3.out⟩
      case round =>
        clear HT3 hlt hk
        obtain ⟨k2, hk2, rfl, hrel⟩ := hrel
        have x0 : wr.cell? ⟨g3, 0, none⟩ = some (.slice A3 n3 c3) := hrel.2.2.1.cell 0
        by_cases hlt : k2 < n3
        · have hby := hrel.2.2.2.1
          obtain ⟨g', cur, rfl, b1, b2, b3, b4⟩ := hby (by omega)
          obtain ⟨z, hz⟩ := b4 k2 hlt
          have y0 : wr.cell? ⟨g', k2, none⟩ = some (.int .u8 z) := (b3.cell k2).trans hz
          have y1 : wr.frozen? ⟨g', k2, none⟩ = false := b3.frozen k2
          have hset : ∀ z', TurnRel wb u2.heap.size g3 g3 (some ⟨g', 0, none⟩) n3 c3 B3 m3 d3 l3 (wr.setCell ⟨g', k2, none⟩ (.int .u8 z')) := fun z' => turn_set hrel b3 b1 b2 z'
          have HS := Lib.hid hset
          have hne : g' ≠ g3 := by have := hrel.2.1; omega
          have hne' : g3 ≠ g' := by omega
          have i0 : (0 : Int) ≤ (k2 : Int) := by omega
          have i1 : (k2 : Int) < (n3 : Int) := by omega
          clear hrel hset b3 b4 hz
          go_wp2_with fail
          go_region
          all_goals
            go_wp2_with fail
            go_roundw
            case rel => exact ⟨k2 + 1, by omega, by go_num, turn_drew (HS.out _)⟩
            case measure => simp [intOf]; omega
        · have HR2 := Lib.hid hrel
          clear hrel
          go_wp2_with fail
          clear x0
          generalize wr = wd at HR2 ⊢
          go_loopw [22] (fun i wr => ∃ k : Nat, k ≤ m3 ∧ i = .int .i64 k ∧ TurnRel wb u2.heap.size g3 g3 A3 n3 c3 B3 m3 d3 l3 wr) (fun i _ => m3 - (intOf i).toNat)
          case atStart => exact ⟨0, by omega, rfl, HR2.out⟩
          case round =>
            clear HR2 hlt hk2
            obtain ⟨k3, hk3, rfl, hrel⟩ := hrel
            have x1 : wr.cell? ⟨g3, 1, none⟩ = some (.slice B3 m3 d3) := hrel.2.2.1.cell 1
            by_cases hlt2 : k3 < m3
            · obtain ⟨bl, Ai, yi, ci, s, rfl, hlk, hck, _, hyi⟩ := hrel.at_ HL3.out hlt2
              have HLK := Lib.hid hlk
              have HR3 := Lib.hid hrel
              clear hrel hlk
              have i0 : (0 : Int) ≤ (k3 : Int) := by omega
              have i1 : (k3 : Int) < (m3 : Int) := by omega
              go_wp2_with fail
              clear x1 hck
              generalize wr = we at HR3 ⊢
              go_loopw [23] (fun i wr => ∃ j : Nat, j ≤ yi ∧ i = .int .i64 j ∧ TurnRel wb u2.heap.size g3 g3 A3 n3 c3 (some ⟨bl, 0, none⟩) m3 d3 l3 wr) (fun i _ => yi - (intOf i).toNat)
              case atStart => exact ⟨0, by omega, rfl, HR3.out⟩
              case round =>
                clear HR3
                obtain ⟨j, hj, rfl, hrel⟩ := hrel
                have x1 : wr.cell? ⟨g3, 1, none⟩ = some (.slice (some ⟨bl, 0, none⟩) m3 d3) := hrel.2.2.1.cell 1
                obtain ⟨bl', Ai', yi', ci', s', hB', hlk', hck, hby, _⟩ := hrel.at_ HL3.out hlt2
                rw [HLK.out] at hlk'
                simp at hlk' hB'
                obtain ⟨rfl, rfl, rfl, rfl⟩ := hlk'
                subst hB'
                by_cases hlt3 : j < yi
                · obtain ⟨g', cur, rfl, b1, b2, b3, b4⟩ := hby (by omega)
                  obtain ⟨z, hz⟩ := b4 j hlt3
                  have y0 : wr.cell? ⟨g', j, none⟩ = some (.int .u8 z) := (b3.cell j).trans hz
                  have y1 : wr.frozen? ⟨g', j, none⟩ = false := b3.frozen j
                  have hset : ∀ z', TurnRel wb u2.heap.size g3 g3 A3 n3 c3 (some ⟨bl, 0, none⟩) m3 d3 l3 (wr.setCell ⟨g', j, none⟩ (.int .u8 z')) := fun z' => turn_set hrel b3 b1 b2 z'
                  have HS := Lib.hid hset
                  have hne : g' ≠ g3 := by have := hrel.2.1; omega
                  have hne' : g3 ≠ g' := by omega
                  have j0 : (0 : Int) ≤ (j : Int) := by omega
                  have j1 : (j : Int) < (yi : Int) := by omega
                  clear hrel hset b3 b4 hz hby
                  go_wp2_with fail
                  go_region
                  all_goals
                    go_wp2_with fail
                    go_roundw
                    case rel => exact ⟨j + 1, by omega, by go_num, turn_drew (HS.out _)⟩
                    case measure => simp [intOf]; omega
                · obtain rfl : yi = j := by omega
                  have HR4 := Lib.hid hrel
                  clear hrel hby
                  go_wp2_with fail
                  go_roundw
                  case rel => exact ⟨k3 + 1, by omega, by go_num, HR4.out⟩
                  case measure => simp [intOf]; omega
            · obtain rfl : m3 = k3 := by omega
              have hwi := hrel.1
              have hb9 := HB9.out.trans (hwi.below (Nat.le_trans lg1 lg12) HB9.out.size)
              have HWz := Lib.hid (HW.out.trans (hwi.below (Nat.le_trans lw (Nat.le_trans lg1 lg12)) HW.out.size))
              have V9 := Lib.hid (V9f.out.below hb9)
              have Vd := Lib.hid (Vdf.out.below hb9)
              clear hrel hwi hb9
              have k0 := V9.out.c0
              have k1 := V9.out.c1
              have q0 := Vd.out.c0
              have q1' := Vd.out.c1
              go_wp2_with fail
              clear k0 k1 q0 q1' x1
              refine (same_any _ _ b ps _ (Lib.hid V9.out.2) (Lib.hid Vd.out.2)).mono ?_
              rintro e wz ⟨rfl, hb⟩
              have HWf := Lib.hid (bmore HWz.out hb (Nat.le_refl _))
              clear hb
              go_wp2
              go_ret
              exact ⟨rfl, HWf.out⟩

theorem walDoes_walk (v : Value) (b : List UInt8) (ps : List DM.Wr) (a1 : Option Addr) (len1 cap1 : Nat) (z1 : List ByteArray) (w : World) (w0 : DiskArg w v b ps) (w1 : IsTexts w a1 len1 cap1 z1) :
    Calls Try.prog 4 #[v, .slice a1 len1 cap1] w fun e w' => e = .returned (.bool true) ∧ Below w.heap.size w w' := by
  obtain ⟨hl1, hm1, _⟩ := w1.len_le
  exact walDoes_core v b ps a1 len1 cap1 _ w (Lib.hid w0) (Lib.hid w1.texts) (Lib.hid (Nat.le_trans hl1 hm1)) (Lib.hid fun t ht => by have := w1.small t ht; unfold maxLen at this; omega)
end Go.Proofs.Ytkdnkaiknmcfmaa
