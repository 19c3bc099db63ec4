/-
  The walk of DecreeMoves: worlds are checked, compared, copied, and move as the document says; they stay, and what is answered is new memory. Conditions: none beyond the arguments' own.
-/
import Derived.Test.YtiiobafcgdelmaaGreatL01
import Derived.Test.YtiiobafcgdelmaaGreatL47
import Derived.Test.YtiiobafcgdelmaaGreatL48
import Derived.Test.YtiiobafcgdelmaaGreatL49
import Derived.Test.YtiiobafcgdelmaaGreatL22
set_option linter.unusedVariables false
set_option linter.unusedSimpArgs false
namespace Go.Proofs.YtiiobafcgdelmaaGreat
open Go.RowKit Go.Shelf PD
set_option maxRecDepth 100000 in
set_option maxHeartbeats 16000000 in
theorem decreeMoves_walk (v0 : Value) (a : DC.Wd) (v1 : Value) (b : DC.Wd) (v2 : Value) (mv : DC.Mv) (w : World) (h0 : PD.WArg w v0 a ∧ PD.WCap v0) (h1 : PD.WArg w v1 b ∧ PD.WCap v1) (h2 : PD.MvArg v2 mv) :
  Calls Tryz.prog 3 #[v0, v1, v2] w (BoolIs true w) := by
 obtain ⟨⟨ha, fa⟩, ca⟩ := h0
 obtain ⟨⟨hb, fb⟩, _⟩ := h1
 obtain ⟨rfl, fm⟩ := h2
 have GA := h! (fun (U : World) (hU : Below w.heap.size w U) => wgreat_any v0 a U (ha.below hU) fa)
 have GB := h! (fun (U : World) (hU : Below w.heap.size w U) => wgreat_any v1 b U (hb.below hU) fb)
 have FA := h! fa
 have FB := h! fb
 have HA := h! ha
 have HBW := h! hb
 have HCA := h! ca
 have HMF := h! fm
 have hmv : mv.v.size ≤ 9223372036854775807 := by have := fm.2.2; unfold maxLen at this; omega
 obtain ⟨A0, c0, A1, c1, A2, c2, A3, c3, A4, c4, xs, rfl, _⟩ := ha
 obtain ⟨B0, d0, B1, d1, B2, d2, B3, d3, B4, d4, ys, rfl, _⟩ := hb
 clear fa fb ca fm
 obtain ⟨W0, hW0⟩ : ∃ W0, W0 = ((w.alloc (.cells #[.slice A0 a.ms.length c0, .slice A1 a.vs.length c1, .slice A2 a.ts.length c2, .slice A3 a.ml.length c3, .slice A4 a.ch.length c4] 28)).alloc (.cells #[.slice B0 b.ms.length d0, .slice B1 b.vs.length d1, .slice B2 b.ts.length d2, .slice B3 b.ml.length d3, .slice B4 b.ch.length d4] 28)).alloc (.cells #[.int .u8 mv.k, .int .i64 mv.n, .int .i64 mv.at_, .string mv.v] 30) := ⟨_, rfl⟩
 have hs0 : Box W0 w.heap.size 28 #[.slice A0 a.ms.length c0, .slice A1 a.vs.length c1, .slice A2 a.ts.length c2, .slice A3 a.ml.length c3, .slice A4 a.ch.length c4] ∧ Box W0 (w.heap.size + 1) 28 #[.slice B0 b.ms.length d0, .slice B1 b.vs.length d1, .slice B2 b.ts.length d2, .slice B3 b.ml.length d3, .slice B4 b.ch.length d4] ∧ Box W0 (w.heap.size + 1 + 1) 30 #[.int .u8 mv.k, .int .i64 mv.n, .int .i64 mv.at_, .string mv.v] ∧ Below w.heap.size w W0 := by
  rw [hW0]
  refine ⟨(Box.new _ _ _).below (below2 _ _) (by simp), ?_, ?_, below3 _ _ _⟩
  ·have := (Box.new (w.alloc (.cells #[.slice A0 a.ms.length c0, .slice A1 a.vs.length c1, .slice A2 a.ts.length c2, .slice A3 a.ml.length c3, .slice A4 a.ch.length c4] 28)) 28 #[.slice B0 b.ms.length d0, .slice B1 b.vs.length d1, .slice B2 b.ts.length d2, .slice B3 b.ml.length d3, .slice B4 b.ch.length d4]).below ((Below.refl _ _).alloc n! (.cells #[.int .u8 mv.k, .int .i64 mv.n, .int .i64 mv.at_, .string mv.v] 30)) (by simp)
   simpa using this
  ·have := Box.new ((w.alloc (.cells #[.slice A0 a.ms.length c0, .slice A1 a.vs.length c1, .slice A2 a.ts.length c2, .slice A3 a.ml.length c3, .slice A4 a.ch.length c4] 28)).alloc (.cells #[.slice B0 b.ms.length d0, .slice B1 b.vs.length d1, .slice B2 b.ts.length d2, .slice B3 b.ml.length d3, .slice B4 b.ch.length d4] 28)) 30 #[.int .u8 mv.k, .int .i64 mv.n, .int .i64 mv.at_, .string mv.v]
   simpa using this
 have HX := h! hs0.1
 have HY := h! hs0.2.1
 have HM := h! hs0.2.2.1
 have HB := h! hs0.2.2.2
 have mixed : Tryz.prog.follows Departure.mixedOrders = true := by kernel_rfl
 clear hs0
 go_enter Tryz.func3, Tryz.ntmps3
 go_upto_region 1 with (fail)
 rw [← hW0]
 clear hW0
 generalize w.heap.size + 1 + 1 = gm at HM ⊢
 generalize w.heap.size + 1 = gb at HY ⊢
 generalize hga : w.heap.size = ga at HX ⊢
 obtain ⟨⟨x0, x1, x2, x3, x4⟩, _⟩ := HX.out.five
 go_cut [24] (fun x wx => ∃ r : Bool, x = .bool r ∧ Below W0.heap.size W0 wx ∧ (r = false → Small a ∧ Small b ∧ mv.v.size ≤ 5000))
 case first =>
  subst hga
  go_wp2_with fail
  refine (GA.out _ HB.out).mono ?_
  rintro e w1 ⟨r1, rfl, hs1, hb1⟩
  have HB1 := h! hb1
  rcases r1 with _ | _
  rotate_left
  ·clear hb1 hs1
   go_wp2_with fail
   go_meet
   case rel => exact ⟨true, rfl, HB1.out, fun h => by cases h⟩
  have HS1 := h! (hs1 rfl)
  clear hb1 hs1 x0 x1 x2 x3 x4
  obtain ⟨⟨x0, x1, x2, x3, x4⟩, _⟩ := (HY.out.below HB1.out HY.out.lt).five
  go_wp2_with fail
  refine (GB.out _ (bmore HB.out HB1.out n!)).mono ?_
  rintro e w2 ⟨r2, rfl, hs2, hb2⟩
  have HB2 := h! (bmore HB1.out hb2 n!)
  rcases r2 with _ | _
  rotate_left
  ·clear hb2 hs2
   go_wp2_with fail
   go_meet
   case rel => exact ⟨true, rfl, HB2.out, fun h => by cases h⟩
  have HS2 := h! (hs2 rfl)
  clear hb2 hs2 x0 x1 x2 x3 x4
  obtain ⟨m0, m1, m2, m3⟩ := box4 (HM.out.below HB2.out HM.out.lt)
  by_cases h5 : 5000 < mv.v.size
  ·have e5 : decide ((5000 : Int) < (mv.v.size : Int)) = true := by simp; omega
   go_wp2_with fail
   go_meet
   case rel => exact ⟨true, rfl, HB2.out, fun h => by cases h⟩
  ·have e5 : decide ((5000 : Int) < (mv.v.size : Int)) = false := by simp; omega
   go_wp2_with fail
   go_meet
   case rel => exact ⟨false, rfl, HB2.out, fun _ => ⟨HS1.out, HS2.out, by omega⟩⟩
 clear x0 x1 x2 x3 x4
 obtain ⟨r, rfl, hbc, hsm⟩ := hcut
 have HBC := h! hbc
 rcases r with _ | _
 rotate_left
 ·clear hbc hsm
  go_wp2_with fail
  go_ret
  exact ⟨rfl, bmore HB.out HBC.out n!⟩
 obtain ⟨sa, sb, _⟩ := hsm rfl
 have FA := h! (sa.fit FA.out)
 have FB := h! (sb.fit FB.out)
 have HX := h! (HX.out.below HBC.out HX.out.lt)
 have HY := h! (HY.out.below HBC.out HY.out.lt)
 have HM := h! (HM.out.below HBC.out HM.out.lt)
 have HB := h! (bmore HB.out HBC.out n!)
 clear hbc hsm sa sb GA GB HBC
 obtain ⟨u0, hu0⟩ : ∃ u0, u0 = wc := ⟨_, rfl⟩
 rw [← hu0] at HX HY HM HB ⊢
 clear hu0
 subst hga
 obtain ⟨y, hy⟩ := doIs_ex a mv
 have HYI := h! hy
 clear hy
 obtain ⟨⟨x0, x1, x2, x3, x4⟩, _⟩ := HX.out.five
 have HTW := h! ((rwtwin_any _ a u0 (HA.out.below HB.out) FA.out).mono fun _ _ h => WRet.tret h FA.out)
 go_wp2_with fail
 refine HTW.out.mono ?_
 clear HTW x0 x1 x2 x3 x4
 rintro e w1 ⟨O0, o0, O1, o1, O2, o2, O3, o3, O4, o4, rfl, hb, hk, _⟩
 have hal : Below w1.heap.size w1 (w1.alloc (.cells #[.slice O0 a.ms.length o0, .slice O1 a.vs.length o1, .slice O2 a.ts.length o2, .slice O3 a.ml.length o3, .slice O4 a.ch.length o4] 28)) := b!
 have HO := h! (LVar.new hk)
 have hb := bmore hb hal n!
 have HX := h! (HX.out.below hb HX.out.lt)
 have HY := h! (HY.out.below hb HY.out.lt)
 have HM := h! (HM.out.below hb HM.out.lt)
 have HB := h! (bmore HB.out hb n!)
 clear hb hal hk
 go_upto_region 4 with (fail)
 generalize w1.alloc (.cells #[.slice O0 a.ms.length o0, .slice O1 a.vs.length o1, .slice O2 a.ts.length o2, .slice O3 a.ml.length o3, .slice O4 a.ch.length o4] 28) = V at HO HX HY HM HB ⊢
 generalize w1.heap.size = g7 at HO ⊢
 have HV := h! (Below.refl V.heap.size V)
 have HXV := HX
 have HMV := HM
 obtain ⟨⟨x0, x1, x2, x3, x4⟩, _⟩ := HO.out.1.five
 obtain ⟨m0, m1, m2, m3⟩ := box4 HM.out
 obtain ⟨wd, hwd⟩ : ∃ wd, wd = orZero y (DC.aft a mv) := ⟨_, rfl⟩
 have HFD := h! (show WFit wd by rw [hwd]; exact fit_do HYI.out FA.out)
 have HDO : Hid (Calls Tryz.prog 7 #[.agg #[.slice O0 a.ms.length o0, .slice O1 a.vs.length o1, .slice O2 a.ts.length o2, .slice O3 a.ml.length o3, .slice O4 a.ch.length o4], .agg #[.int .u8 mv.k, .int .i64 mv.n, .int .i64 mv.at_, .string mv.v]] V (XRet wd y V)) := h! (by rw [hwd]; exact (wdo_any _ a mv.k mv.n mv.at_ mv.v V HO.out.2.is FA.out HMF.out.1 HMF.out.2.1 HMF.out.2.2).mono fun _ _ h => DoRet.xret h HYI.out FA.out)
 have HWD := h! hwd
 clear hwd
 go_wp2_with fail
 refine HDO.out.mono ?_
 clear HDO x0 x1 x2 x3 x4 m0 m1 m2 m3
 rintro e w2 ⟨P0, p0, P1, p1, P2, p2, P3, p3, P4, p4, rfl, hb, hk, hr⟩
 have hal : Below w2.heap.size w2 (w2.alloc (.cells #[.slice P0 wd.ms.length p0, .slice P1 wd.vs.length p1, .slice P2 wd.ts.length p2, .slice P3 wd.ml.length p3, .slice P4 wd.ch.length p4] 28)) := b!
 have HP := h! (LVar.new hk)
 have HPR := h! (hr.below hal)
 have HHI := h! (And.intro hb.size hal.size)
 have hb := bmore hb hal n!
 have HV := h! hb
 clear hb hal hk hr HX HM
 go_upto_region 5 with (fail)
 generalize w2.alloc (.cells #[.slice P0 wd.ms.length p0, .slice P1 wd.vs.length p1, .slice P2 wd.ts.length p2, .slice P3 wd.ml.length p3, .slice P4 wd.ch.length p4] 28) = u2 at HP HPR HHI HV ⊢
 generalize hhi : w2.heap.size = hi at HP HPR HHI ⊢
 generalize hg8 : hi = g8 at HP ⊢
 clear hhi hg8
 obtain ⟨⟨x0, x1, x2, x3, x4⟩, _⟩ := (HXV.out.below HV.out HXV.out.lt).five
 obtain ⟨m0, m1, m2, m3⟩ := box4 (HMV.out.below HV.out HMV.out.lt)
 have HRD : Hid (Calls Tryz.prog 8 #[.agg #[.slice A0 a.ms.length c0, .slice A1 a.vs.length c1, .slice A2 a.ts.length c2, .slice A3 a.ml.length c3, .slice A4 a.ch.length c4], .agg #[.int .u8 mv.k, .int .i64 mv.n, .int .i64 mv.at_, .string mv.v]] u2 (VRet wd y u2)) := h! (by rw [HWD.out]; exact (rwdo_any _ a mv.k mv.n mv.at_ mv.v u2 (HA.out.below (bmore HB.out HV.out n!)) FA.out HCA.out HMF.out.1 HMF.out.2.1 HMF.out.2.2).mono fun _ _ h => RDoRet.vret h HYI.out)
 go_wp2_with fail
 refine HRD.out.mono ?_
 clear HRD x0 x1 x2 x3 x4 m0 m1 m2 m3
 rintro e w3 ⟨Q0, q0, Q1, q1, Q2, q2, Q3, q3, Q4, q4, rfl, hb, hk⟩
 have hal : Below w3.heap.size w3 (w3.alloc (.cells #[.slice Q0 wd.ms.length q0, .slice Q1 wd.vs.length q1, .slice Q2 wd.ts.length q2, .slice Q3 wd.ml.length q3, .slice Q4 wd.ch.length q4] 28)) := b!
 have HQ := h! (LVar.new hk)
 have hb := bmore hb hal n!
 have HP := h! (HP.out.below hb)
 have HPR := h! (HPR.out.below hb)
 have HHI := h! (And.intro HHI.out.1 (Nat.le_trans HHI.out.2 hb.size))
 have HV := h! (bmore HV.out hb n!)
 clear hb hal hk
 go_upto_region 6 with (fail)
 generalize w3.alloc (.cells #[.slice Q0 wd.ms.length q0, .slice Q1 wd.vs.length q1, .slice Q2 wd.ts.length q2, .slice Q3 wd.ml.length q3, .slice Q4 wd.ch.length q4] 28) = u3 at HP HPR HHI HV HQ ⊢
 generalize w3.heap.size = g10 at HQ ⊢
 obtain ⟨⟨x0, x1, x2, x3, x4⟩, _⟩ := (HO.out.below HV.out).1.five
 have HTW := h! ((wtwin_any _ a u3 (HO.out.below HV.out).2.is FA.out).mono fun _ _ h => WRet.tret h FA.out)
 go_wp2_with fail
 refine HTW.out.mono ?_
 clear HTW x0 x1 x2 x3 x4
 rintro e w4 ⟨T0, t0, T1, t1, T2, t2, T3, t3, T4, t4, rfl, hb, hk, hr⟩
 have hal : Below w4.heap.size w4 (w4.alloc (.cells #[.slice T0 a.ms.length t0, .slice T1 a.vs.length t1, .slice T2 a.ts.length t2, .slice T3 a.ml.length t3, .slice T4 a.ch.length t4] 28)) := b!
 have HT := h! (LVar.new hk)
 have HTR := h! (hr.below hal)
 have HH2 := h! (And.intro hb.size hal.size)
 have hb := bmore hb hal n!
 have HP := h! (HP.out.below hb)
 have HPR := h! (HPR.out.below hb)
 have HQ := h! (HQ.out.below hb)
 have HLO := h! HHI.out.2
 have HV := h! (bmore HV.out hb n!)
 clear hb hal hk hr
 go_upto_region 7 with (fail)
 generalize w4.alloc (.cells #[.slice T0 a.ms.length t0, .slice T1 a.vs.length t1, .slice T2 a.ts.length t2, .slice T3 a.ml.length t3, .slice T4 a.ch.length t4] 28) = u4 at HP HPR HV HQ HT HTR HH2 ⊢
 generalize hh2 : w4.heap.size = hi2 at HT HTR HH2 ⊢
 generalize hg12 : hi2 = g12 at HT ⊢
 have HG12 := h! (Nat.le_of_eq hg12)
 clear hh2 hg12
 obtain ⟨bm, hbm⟩ : ∃ bm : Bool, bm = true ↔ DC.May a := by by_cases h : DC.May a; (· exact ⟨true, by simpa using h⟩); (· exact ⟨false, by simpa using h⟩)
 obtain ⟨yc, hyc, hyb⟩ : ∃ yc : Int, ((DC.May a ∧ yc = 0) ∨ (¬ DC.May a ∧ yc = 8)) ∧ (yc == 0) = bm := by
  by_cases h : DC.May a
  ·exact ⟨0, .inl ⟨h, rfl⟩, by rw [hbm.2 h]; rfl⟩
  ·exact ⟨8, .inr ⟨h, rfl⟩, by rcases bm with _ | _; rfl; exact absurd (hbm.1 rfl) h⟩
 have hVU : ∀ U, Below u4.heap.size u4 U → Below V.heap.size V U := fun U hU => bmore HV.out hU n!
 have hwU : ∀ U, Below u4.heap.size u4 U → Below w.heap.size w U := fun U hU => bmore HB.out (hVU U hU) n!
 have C1 := h! (fun (U : World) (hU : Below u4.heap.size u4 U) => rwsame_self _ wd _ U (HP.out.below hU).2.is (HQ.out.below hU).2.is HFD.out)
 have C2 := h! (fun (U : World) (hU : Below u4.heap.size u4 U) => rwsame_self _ a _ U (HT.out.below hU).2.is (HA.out.below (hwU U hU)) FA.out)
 have C3 := h! (fun (U : World) (hU : Below u4.heap.size u4 U) => wcheck_any _ a yc U (HO.out.below (hVU U hU)).2.is FA.out hyc)
 have C4 := h! (fun (U : World) (hU : Below u4.heap.size u4 U) => rwmay_any _ a bm U (HA.out.below (hwU U hU)) FA.out hbm)
 have C5 := h! (fun (U : World) (hU : Below u4.heap.size u4 U) => wsame_any _ a _ b U (HO.out.below (hVU U hU)).2.is (HBW.out.below (hwU U hU)) FA.out FB.out)
 have C6 := h! (fun (U : World) (hU : Below u4.heap.size u4 U) => rwsame_any _ a _ b U (HA.out.below (hwU U hU)) (HBW.out.below (hwU U hU)) FA.out FB.out)
 generalize decide (a = b) = rs at C5 C6
 have XP : Hid (∀ U, Below u4.heap.size u4 U → Box U g8 28 #[.slice P0 wd.ms.length p0, .slice P1 wd.vs.length p1, .slice P2 wd.ts.length p2, .slice P3 wd.ml.length p3, .slice P4 wd.ch.length p4]) := h! (fun U hU => (HP.out.below hU).1)
 have XQ : Hid (∀ U, Below u4.heap.size u4 U → Box U g10 28 #[.slice Q0 wd.ms.length q0, .slice Q1 wd.vs.length q1, .slice Q2 wd.ts.length q2, .slice Q3 wd.ml.length q3, .slice Q4 wd.ch.length q4]) := h! (fun U hU => (HQ.out.below hU).1)
 have XT : Hid (∀ U, Below u4.heap.size u4 U → Box U g12 28 #[.slice T0 a.ms.length t0, .slice T1 a.vs.length t1, .slice T2 a.ts.length t2, .slice T3 a.ml.length t3, .slice T4 a.ch.length t4]) := h! (fun U hU => (HT.out.below hU).1)
 have XO : Hid (∀ U, Below u4.heap.size u4 U → Box U g7 28 #[.slice O0 a.ms.length o0, .slice O1 a.vs.length o1, .slice O2 a.ts.length o2, .slice O3 a.ml.length o3, .slice O4 a.ch.length o4]) := h! (fun U hU => (HO.out.below (hVU U hU)).1)
 have XW : Hid (∀ U, Below u4.heap.size u4 U → Box U w.heap.size 28 #[.slice A0 a.ms.length c0, .slice A1 a.vs.length c1, .slice A2 a.ts.length c2, .slice A3 a.ml.length c3, .slice A4 a.ch.length c4]) := h! (fun U hU => HXV.out.below (hVU U hU) HXV.out.lt)
 have XB : Hid (∀ U, Below u4.heap.size u4 U → Box U gb 28 #[.slice B0 b.ms.length d0, .slice B1 b.vs.length d1, .slice B2 b.ts.length d2, .slice B3 b.ml.length d3, .slice B4 b.ch.length d4]) := h! (fun U hU => HY.out.below (hVU U hU) HY.out.lt)
 have HVU := h! hVU
 clear hVU hwU hbm hyc
 have hyy : (y != y) = false := by simp
 have hbb : (bm != bm) = false := by simp
 have hrr : (rs != rs) = false := by simp
 have HD := h! (show Below u4.heap.size u4 u4.drew from (Below.refl _ _).drew)
 refine wp_region_held_drew (S := fun w' => Below u4.heap.size u4 w') (by kernel_rfl) HD.out (fun hHeld => ?_)
 obtain ⟨ud, hud⟩ : ∃ ud, ud = u4.drew := ⟨_, rfl⟩
 rw [← hud] at HD hHeld ⊢
 clear hud
 refine wpAnyH_take (i := 0) (v := ?_) rfl (by kernel_rfl) (by kernel_rfl) (by kernel_rfl) (fun _ _ _ h => h) (Or.inl ⟨by rfl, ?_⟩) (by assumption) ?_
 rotate_left
 ·intro w' hSw
  (try dsimp only at hSw)
  obtain ⟨⟨x0, x1, x2, x3, x4⟩, _⟩ := (XP.out w' hSw).five
  go_simp
  all_goals (with_reducible rfl)
 try simp only [Act.put, qq]
 refine wpAnyH_take (i := 1) (v := ?_) rfl (by kernel_rfl) (by kernel_rfl) (by kernel_rfl) (fun _ _ _ h => h) (Or.inl ⟨by rfl, ?_⟩) (by assumption) ?_
 rotate_left
 ·intro w' hSw
  (try dsimp only at hSw)
  obtain ⟨⟨x0, x1, x2, x3, x4⟩, _⟩ := (XQ.out w' hSw).five
  go_simp
  all_goals (with_reducible rfl)
 try simp only [Act.put, qq]
 refine qR 2 fun K hK => ?_
 go_simp
 refine (C1.out _ HD.out).mono ?_
 rintro e z1 ⟨rfl, hb⟩
 have HD := h! (bmore HD.out hb n!)
 clear hb C1
 refine hK.out _ _ HD.out (fun hHeld => ?_)
 clear hK
 try simp only [Act.put, qq]
 refine qT 3 ?_
 try simp only [Act.put, qq]
 refine qT 4 ?_
 try simp only [Act.put, qq]
 refine qT 5 ?_
 try simp only [Act.put, qq]
 refine qT 6 ?_
 try simp only [Act.put, qq]
 refine qT 7 ?_
 try simp only [Act.put, qq]
 refine qT 8 ?_
 try simp only [Act.put, qq]
 refine qT 9 ?_
 try simp only [Act.put, qq]
 refine wpAnyH_take (i := 10) (v := ?_) rfl (by kernel_rfl) (by kernel_rfl) (by kernel_rfl) (fun _ _ _ h => h) (Or.inl ⟨by rfl, ?_⟩) (by assumption) ?_
 rotate_left
 ·intro w' hSw
  (try dsimp only at hSw)
  obtain ⟨⟨x0, x1, x2, x3, x4⟩, _⟩ := (XT.out w' hSw).five
  go_simp
  all_goals (with_reducible rfl)
 try simp only [Act.put, qq]
 refine wpAnyH_take (i := 11) (v := ?_) rfl (by kernel_rfl) (by kernel_rfl) (by kernel_rfl) (fun _ _ _ h => h) (Or.inl ⟨by rfl, ?_⟩) (by assumption) ?_
 rotate_left
 ·intro w' hSw
  (try dsimp only at hSw)
  obtain ⟨⟨x0, x1, x2, x3, x4⟩, _⟩ := (XW.out w' hSw).five
  go_simp
  all_goals (with_reducible rfl)
 try simp only [Act.put, qq]
 refine qR 12 fun K hK => ?_
 go_simp
 refine (C2.out _ HD.out).mono ?_
 rintro e z2 ⟨rfl, hb⟩
 have HD := h! (bmore HD.out hb n!)
 clear hb C2
 refine hK.out _ _ HD.out (fun hHeld => ?_)
 clear hK
 try simp only [Act.put, qq]
 refine qT 13 ?_
 try simp only [Act.put, qq]
 refine qT 14 ?_
 try simp only [Act.put, qq]
 refine qT 15 ?_
 try simp only [Act.put, qq]
 refine wpAnyH_take (i := 16) (v := ?_) rfl (by kernel_rfl) (by kernel_rfl) (by kernel_rfl) (fun _ _ _ h => h) (Or.inl ⟨by rfl, ?_⟩) (by assumption) ?_
 rotate_left
 ·intro w' hSw
  (try dsimp only at hSw)
  obtain ⟨⟨x0, x1, x2, x3, x4⟩, _⟩ := (XO.out w' hSw).five
  go_simp
  all_goals (with_reducible rfl)
 try simp only [Act.put, qq]
 refine wpAnyH_take (i := 19) (v := ?_) rfl (by kernel_rfl) (by kernel_rfl) (by kernel_rfl) (fun _ _ _ h => h) (Or.inl ⟨by rfl, ?_⟩) (by assumption) ?_
 rotate_left
 ·intro w' hSw
  (try dsimp only at hSw)
  obtain ⟨⟨x0, x1, x2, x3, x4⟩, _⟩ := (XW.out w' hSw).five
  go_simp
  all_goals (with_reducible rfl)
 try simp only [Act.put, qq]
 refine qR 17 fun K hK => ?_
 go_simp
 refine (C3.out _ HD.out).mono ?_
 rintro e z3 ⟨rfl, hb⟩
 have HD := h! (bmore HD.out hb n!)
 clear hb C3
 refine hK.out _ _ HD.out (fun hHeld => ?_)
 clear hK
 try simp only [Act.put, qq]
 refine qT 18 ?_
 try simp only [Act.put, qq]
 refine qR 20 fun K hK => ?_
 go_simp
 refine (C4.out _ HD.out).mono ?_
 rintro e z4 ⟨rfl, hb⟩
 have HD := h! (bmore HD.out hb n!)
 clear hb C4
 refine hK.out _ _ HD.out (fun hHeld => ?_)
 clear hK
 try simp only [Act.put, qq]
 refine qT 21 ?_
 try simp only [Act.put, qq]
 refine qT 22 ?_
 try simp only [Act.put, qq]
 refine qT 23 ?_
 try simp only [Act.put, qq]
 refine wpAnyH_take (i := 24) (v := ?_) rfl (by kernel_rfl) (by kernel_rfl) (by kernel_rfl) (fun _ _ _ h => h) (Or.inl ⟨by rfl, ?_⟩) (by assumption) ?_
 rotate_left
 ·intro w' hSw
  (try dsimp only at hSw)
  obtain ⟨⟨x0, x1, x2, x3, x4⟩, _⟩ := (XO.out w' hSw).five
  go_simp
  all_goals (with_reducible rfl)
 try simp only [Act.put, qq]
 refine wpAnyH_take (i := 25) (v := ?_) rfl (by kernel_rfl) (by kernel_rfl) (by kernel_rfl) (fun _ _ _ h => h) (Or.inl ⟨by rfl, ?_⟩) (by assumption) ?_
 rotate_left
 ·intro w' hSw
  (try dsimp only at hSw)
  obtain ⟨⟨x0, x1, x2, x3, x4⟩, _⟩ := (XB.out w' hSw).five
  go_simp
  all_goals (with_reducible rfl)
 try simp only [Act.put, qq]
 refine wpAnyH_take (i := 27) (v := ?_) rfl (by kernel_rfl) (by kernel_rfl) (by kernel_rfl) (fun _ _ _ h => h) (Or.inl ⟨by rfl, ?_⟩) (by assumption) ?_
 rotate_left
 ·intro w' hSw
  (try dsimp only at hSw)
  obtain ⟨⟨x0, x1, x2, x3, x4⟩, _⟩ := (XW.out w' hSw).five
  go_simp
  all_goals (with_reducible rfl)
 try simp only [Act.put, qq]
 refine wpAnyH_take (i := 28) (v := ?_) rfl (by kernel_rfl) (by kernel_rfl) (by kernel_rfl) (fun _ _ _ h => h) (Or.inl ⟨by rfl, ?_⟩) (by assumption) ?_
 rotate_left
 ·intro w' hSw
  (try dsimp only at hSw)
  obtain ⟨⟨x0, x1, x2, x3, x4⟩, _⟩ := (XB.out w' hSw).five
  go_simp
  all_goals (with_reducible rfl)
 try simp only [Act.put, qq]
 refine qR 26 fun K hK => ?_
 go_simp
 refine (C5.out _ HD.out).mono ?_
 rintro e z5 ⟨rfl, hb⟩
 have HD := h! (bmore HD.out hb n!)
 clear hb C5
 refine hK.out _ _ HD.out (fun hHeld => ?_)
 clear hK
 try simp only [Act.put, qq]
 refine qR 29 fun K hK => ?_
 go_simp
 refine (C6.out _ HD.out).mono ?_
 rintro e z6 ⟨rfl, hb⟩
 have HD := h! (bmore HD.out hb n!)
 clear hb C6
 refine hK.out _ _ HD.out (fun hHeld => ?_)
 clear hK
 try simp only [Act.put, qq]
 refine qT 30 ?_
 try simp only [Act.put, qq]
 refine qT 31 ?_
 try simp only [Act.put, qq]
 refine wpAnyH_done (by kernel_rfl) ?_ _
 clear hHeld
 obtain ⟨⟨x0, x1, x2, x3, x4⟩, _⟩ := (XP.out _ HD.out).five
 have HT1 := h! (wturn_in V.heap.size hi P0 P1 P2 P3 P4 wd.ms.length wd.vs.length wd.ts.length wd.ml.length wd.ch.length p0 p1 p2 p3 p4 z6 (HPR.out.below HD.out) (by have := HHI.out.2; have := HH2.out.1; have := HH2.out.2; have := HD.out.size; omega) HFD.out.l0 HFD.out.l1 HFD.out.l2 HFD.out.l3)
 go_wp2_with fail
 refine HT1.out.mono ?_
 clear HT1 x0 x1 x2 x3 x4
 rintro e z7 ⟨rfl, hw1⟩
 have hVz : Below V.heap.size V z6 := HVU.out _ HD.out
 have HR2 := h! ((HTR.out.below HD.out).within hw1 HHI.out.2)
 have HBT := h! ((XT.out _ HD.out).within hw1 (.inr (by have := HHI.out.2; have := HH2.out.1; have := HG12.out; omega)))
 have HV7 := h! (hVz.trans (hw1.below n! hVz.size))
 have HS7 := h! (Nat.le_trans HD.out.size hw1.size)
 clear hw1 hVz
 obtain ⟨⟨x0, x1, x2, x3, x4⟩, _⟩ := HBT.out.five
 have HT2 := h! (wturn_in u3.heap.size hi2 T0 T1 T2 T3 T4 a.ms.length a.vs.length a.ts.length a.ml.length a.ch.length t0 t1 t2 t3 t4 z7 HR2.out (by have := HS7.out; have := HH2.out.2; omega) FA.out.l0 FA.out.l1 FA.out.l2 FA.out.l3)
 go_wp2_with fail
 refine HT2.out.mono ?_
 clear HT2 x0 x1 x2 x3 x4
 rintro e z8 ⟨rfl, hw2⟩
 have HV8 := h! (HV7.out.trans (hw2.below (by have := HHI.out.1; have := HHI.out.2; omega) HV7.out.size))
 clear hw2
 obtain ⟨⟨x0, x1, x2, x3, x4⟩, _⟩ := (HO.out.below HV8.out).1.five
 obtain ⟨⟨y0, y1, y2, y3, y4⟩, _⟩ := (HXV.out.below HV8.out HXV.out.lt).five
 have C7 := h! (rwsame_self _ a _ z8 (HO.out.below HV8.out).2.is (HA.out.below (bmore HB.out HV8.out n!)) FA.out)
 go_wp2_with fail
 refine C7.out.mono ?_
 rintro e z9 ⟨rfl, hb⟩
 have HBF := h! (bmore HB.out (bmore HV8.out hb n!) n!)
 clear hb
 go_wp2_with fail
 go_ret
 exact ⟨rfl, HBF.out⟩
end Go.Proofs.YtiiobafcgdelmaaGreat
