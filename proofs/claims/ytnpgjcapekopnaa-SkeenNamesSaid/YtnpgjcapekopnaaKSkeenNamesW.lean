/-
  The walk of SkeenNames (towncrierlaw15). Conditions: none.
-/
import Derived.Test.YtnpgjcapekopnaaK17
import Derived.Test.YtnpgjcapekopnaaK21
import Derived.Test.YtnpgjcapekopnaaK18
namespace Go.Proofs.Ytnpgjcapekopnaa.KP
open Go.RowKit CP TP
open CM (Mg Cm)
open TM (Sp)
open KM (Wt Sk)
set_option linter.unusedVariables false
set_option linter.unusedSimpArgs false
set_option maxRecDepth 100000
theorem fit_99 : CmFit { CM.zero with k := 99 } := ⟨⟨by decide, by decide⟩, ⟨in0, in0, sz0, sz0⟩, in0, in0, in0, in0, in0⟩
theorem fit_empty {c : Int} (h : i64In c) : SkFit ⟨c, [], []⟩ := ⟨h, (fun x hx => by cases hx), (fun x hx => by cases hx)⟩
theorem fit_zeroC : CmFit CM.zero := ⟨⟨by decide, by decide⟩, ⟨in0, in0, sz0, sz0⟩, in0, in0, in0, in0, in0⟩
set_option maxHeartbeats 16000000 in
theorem skeenNames_walk (w : World) : Calls Try.prog 3 #[] w fun e w' => e = .returned (.bool true) ∧ Below w.heap.size w w' := by
  have PA := papply15
  have PN : PNew := pnew15_any
  have HF1 := Lib.hid (show SkFit (⟨7, [⟨msg 5, 1, false⟩, ⟨msg 9, 7, true⟩], []⟩ : Sk) by have := af_fit [asgC 5, asgC 9, finC 9 7]; rw [names_run] at this; exact this)
  have HFD := Lib.hid (show SkFit (⟨3, [], [⟨3, 5⟩]⟩ : Sk) by have := af_fit [asgC 5, finC 5 3, asgC 5, finC 5 9, asg1 6, CM.zero]; rw [names_two] at this; exact this)
  go_enter Try.func3, Try.ntmps3
  go_wp2_with fail
  refine (assign15_any 5 w).mono ?_
  rintro e u1 ⟨v1, rfl, ⟨A1, c1, P1, d1, rfl, r1, s1⟩, b1⟩
  go_wp2_with fail
  refine (assign15_any 9 u1).mono ?_
  rintro e u2 ⟨v2, rfl, ⟨A2, c2, P2, d2, rfl, r2, s2⟩, b2⟩
  go_wp2_with fail
  refine (final15_any 9 7 u2).mono ?_
  rintro e u3 ⟨v3, rfl, ⟨A3, c3, P3, d3, rfl, r3, s3⟩, b3⟩
  have HB0 := Lib.hid (bmore (bmore (b1) b2 (Nat.le_refl _)) b3 (Nat.le_refl _))
  have hl := cms_lit u3 (LP.ecells [⟨A1, c1, P1, d1, asgC 5⟩, ⟨A2, c2, P2, d2, asgC 9⟩, ⟨A3, c3, P3, d3, finC 9 7⟩]).toArray [⟨A1, c1, P1, d1, asgC 5⟩, ⟨A2, c2, P2, d2, asgC 9⟩, ⟨A3, c3, P3, d3, finC 9 7⟩] 3 rfl rfl (by omega) (fun e he => by
    simp only [List.mem_cons, List.not_mem_nil, or_false] at he
    rcases he with rfl | rfl | rfl
    · exact ⟨r1.below (bmore b2 b3 (Nat.le_refl _)), s1.below (bmore b2 b3 (Nat.le_refl _)), fit_asgC (by constructor <;> decide)⟩
    · exact ⟨r2.below b3, s2.below b3, fit_asgC (by constructor <;> decide)⟩
    · exact ⟨r3, s3, fit_finC (by constructor <;> decide) (by constructor <;> decide)⟩)
  have hal := Lib.hid (show Below u3.heap.size u3 (u3.alloc (.cells (LP.ecells [⟨A1, c1, P1, d1, asgC 5⟩, ⟨A2, c2, P2, d2, asgC 9⟩, ⟨A3, c3, P3, d3, finC 9 7⟩]).toArray 33)) from (Below.refl _ _).alloc (Nat.le_refl _) _)
  have hca := after15_any PA PN _ 3 3 _ _ hl (fun e he => by
    simp only [List.mem_cons, List.not_mem_nil, or_false] at he
    rcases he with rfl | rfl | rfl <;> (first | (show 1 ≤ 4096; omega) | (show 0 ≤ 4096; omega))) (by omega)
  rw [show af (List.map LP.El.x [⟨A1, c1, P1, d1, asgC 5⟩, ⟨A2, c2, P2, d2, asgC 9⟩, ⟨A3, c3, P3, d3, finC 9 7⟩]) = _ from names_run] at hca
  obtain ⟨RR, hRR⟩ : ∃ RR : Sk × List Mg × Bool, RR = ((⟨7, [⟨msg 5, 1, false⟩, ⟨msg 9, 7, true⟩], []⟩ : Sk), [], true) := ⟨_, rfl⟩
  rw [← hRR] at hca
  have HRR := Lib.hid hRR
  have HCA := Lib.hid hca
  clear hRR
  clear hl hca r1 r2 r3 s1 s2 s3 b1 b2 b3
  unfold ccells asgC finC msg CM.mz
  unfold LP.ecells flat LP.ecell ccells asgC finC msg CM.mz at HCA hal
  simp only [List.length_cons, List.length_nil, Nat.zero_add] at HCA hal ⊢
  go_wp2_with fail
  refine (HCA.out).mono ?_
  rintro e w1 ⟨v, vm, rfl, hso, hkm, hb1⟩
  rw [HRR.out] at hso hkm ⊢
  obtain ⟨vW, vD, rfl, hk1, hk2⟩ := hso
  obtain ⟨AW, cW, rfl, _⟩ := hk1.g
  obtain ⟨BD, dD, rfl, _, _⟩ := own_form hk2
  obtain ⟨EM, fM, rfl, _⟩ := hkm.g
  have HB1 := Lib.hid (bmore (bmore HB0.out hal.out (Nat.le_refl _)) hb1 (Nat.le_refl _))
  have HS1 := Lib.hid (show SkIs w1 (vsk 7 (.slice AW 2 cW) (.slice BD 0 dD)) (⟨7, [⟨msg 5, 1, false⟩, ⟨msg 9, 7, true⟩], []⟩ : Sk) from SkO.is (b := (u3.alloc (.cells (LP.ecells [⟨A1, c1, P1, d1, asgC 5⟩, ⟨A2, c2, P2, d2, asgC 9⟩, ⟨A3, c3, P3, d3, finC 9 7⟩]).toArray 33)).heap.size) ⟨_, _, rfl, hk1, hk2⟩)
  clear HCA hal hk1 hk2 hkm hb1 HRR HB0
  unfold vsk at HS1 ⊢
  simp only [List.length_cons, List.length_nil, Nat.zero_add] at HS1 ⊢
  go_upto_region 2 with (fail)
  have hal : Below w1.heap.size w1 (w1.alloc (.cells #[.int .i64 7, .slice AW 2 cW, .slice BD 0 dD] 25)) := (Below.refl _ _).alloc (Nat.le_refl _) _
  have X1 := Lib.hid (Box.new w1 25 #[.int .i64 7, .slice AW 2 cW, .slice BD 0 dD])
  replace HB1 := Lib.hid (bmore HB1.out hal (Nat.le_refl _))
  replace HS1 := Lib.hid (HS1.out.below hal)
  clear hal
  generalize w1.alloc (.cells #[.int .i64 7, .slice AW 2 cW, .slice BD 0 dD] 25) = w2 at X1 HB1 HS1 ⊢
  generalize w1.heap.size = g1 at X1 ⊢
  have CL := Lib.hid (plocal15_any _ (⟨7, [⟨msg 5, 1, false⟩, ⟨msg 9, 7, true⟩], []⟩ : Sk) 9 w2 HS1.out HF1.out)
  rw [names_l9] at CL
  obtain ⟨x0, x1, x2⟩ := box_sk X1.out
  go_wp2_with fail
  refine (CL.out).mono ?_
  rintro e w3 ⟨rfl, hb⟩
  clear CL x0 x1 x2
  replace HB1 := Lib.hid (bmore HB1.out hb (Nat.le_refl _))
  replace HS1 := Lib.hid (HS1.out.below hb)
  replace X1 := Lib.hid (X1.out.below hb X1.out.lt)
  clear hb
  have CL := Lib.hid (plocal15_any _ (⟨7, [⟨msg 5, 1, false⟩, ⟨msg 9, 7, true⟩], []⟩ : Sk) 5 w3 HS1.out HF1.out)
  rw [names_l5] at CL
  obtain ⟨x0, x1, x2⟩ := box_sk X1.out
  go_wp2_with fail
  refine (CL.out).mono ?_
  rintro e w4 ⟨rfl, hb⟩
  clear CL x0 x1 x2
  replace HB1 := Lib.hid (bmore HB1.out hb (Nat.le_refl _))
  replace HS1 := Lib.hid (HS1.out.below hb)
  replace X1 := Lib.hid (X1.out.below hb X1.out.lt)
  clear hb
  go_wp2_with fail
  refine (assign15_any 5 w4).mono ?_
  rintro e u1 ⟨v1, rfl, ⟨A1, c1, P1, d1, rfl, r1, s1⟩, b1⟩
  go_wp2_with fail
  refine (final15_any 5 3 u1).mono ?_
  rintro e u2 ⟨v2, rfl, ⟨A2, c2, P2, d2, rfl, r2, s2⟩, b2⟩
  go_wp2_with fail
  refine (assign15_any 5 u2).mono ?_
  rintro e u3 ⟨v3, rfl, ⟨A3, c3, P3, d3, rfl, r3, s3⟩, b3⟩
  go_wp2_with fail
  refine (final15_any 5 9 u3).mono ?_
  rintro e u4 ⟨v4, rfl, ⟨A4, c4, P4, d4, rfl, r4, s4⟩, b4⟩
  have hb5 : Below u4.heap.size u4 (u4.alloc (.cells #[.int .i64 1] 3)) := (Below.refl _ _).alloc (Nat.le_refl _) _
  have r5 := (rowGe_lit u4 0 #[.int .i64 1] [1] 1 rfl rfl (by omega) (Nat.zero_le _)).1
  have b0 := bmore (bmore (bmore (bmore (b1) b2 (Nat.le_refl _)) b3 (Nat.le_refl _)) b4 (Nat.le_refl _)) hb5 (Nat.le_refl _)
  have hl := cms_lit (u4.alloc (.cells #[.int .i64 1] 3)) (LP.ecells [⟨A1, c1, P1, d1, asgC 5⟩, ⟨A2, c2, P2, d2, finC 5 3⟩, ⟨A3, c3, P3, d3, asgC 5⟩, ⟨A4, c4, P4, d4, finC 5 9⟩, ⟨some ⟨u4.heap.size, 0, none⟩, 1, none, 0, asg1 6⟩, ⟨none, 0, none, 0, CM.zero⟩]).toArray [⟨A1, c1, P1, d1, asgC 5⟩, ⟨A2, c2, P2, d2, finC 5 3⟩, ⟨A3, c3, P3, d3, asgC 5⟩, ⟨A4, c4, P4, d4, finC 5 9⟩, ⟨some ⟨u4.heap.size, 0, none⟩, 1, none, 0, asg1 6⟩, ⟨none, 0, none, 0, CM.zero⟩] 6 rfl rfl (by omega) (fun e he => by
    simp only [List.mem_cons, List.not_mem_nil, or_false] at he
    have b45 := bmore b4 hb5 (Nat.le_refl _)
    have b35 := bmore b3 b45 (Nat.le_refl _)
    have b25 := bmore b2 b35 (Nat.le_refl _)
    rcases he with rfl | rfl | rfl | rfl | rfl | rfl
    · exact ⟨r1.below b25, s1.below b25, fit_asgC (by constructor <;> decide)⟩
    · exact ⟨r2.below b35, s2.below b35, fit_finC (by constructor <;> decide) (by constructor <;> decide)⟩
    · exact ⟨r3.below b45, s3.below b45, fit_asgC (by constructor <;> decide)⟩
    · exact ⟨r4.below hb5, s4.below hb5, fit_finC (by constructor <;> decide) (by constructor <;> decide)⟩
    · exact ⟨r5, RowIs.none _, ⟨⟨by show (0 : Int) ≤ 1; decide, by show (1 : Int) ≤ 255; decide⟩, ⟨(show i64In 6 from ⟨by decide, by decide⟩), in0, sz0, sz0⟩, in0, in0, in0, in0, in0⟩⟩
    · exact ⟨RowIs.none _, RowIs.none _, fit_zeroC⟩)
  have hal := Lib.hid (show Below (u4.alloc (.cells #[.int .i64 1] 3)).heap.size (u4.alloc (.cells #[.int .i64 1] 3)) ((u4.alloc (.cells #[.int .i64 1] 3)).alloc (.cells (LP.ecells [⟨A1, c1, P1, d1, asgC 5⟩, ⟨A2, c2, P2, d2, finC 5 3⟩, ⟨A3, c3, P3, d3, asgC 5⟩, ⟨A4, c4, P4, d4, finC 5 9⟩, ⟨some ⟨u4.heap.size, 0, none⟩, 1, none, 0, asg1 6⟩, ⟨none, 0, none, 0, CM.zero⟩]).toArray 33)) from (Below.refl _ _).alloc (Nat.le_refl _) _)
  have hca := after15_any PA PN _ 6 6 _ _ hl (fun e he => by
    simp only [List.mem_cons, List.not_mem_nil, or_false] at he
    rcases he with rfl | rfl | rfl | rfl | rfl | rfl <;> (first | (show 1 ≤ 4096; omega) | (show 0 ≤ 4096; omega))) (by omega)
  rw [show af (List.map LP.El.x [⟨A1, c1, P1, d1, asgC 5⟩, ⟨A2, c2, P2, d2, finC 5 3⟩, ⟨A3, c3, P3, d3, asgC 5⟩, ⟨A4, c4, P4, d4, finC 5 9⟩, ⟨some ⟨u4.heap.size, 0, none⟩, 1, none, 0, asg1 6⟩, ⟨none, 0, none, 0, CM.zero⟩]) = _ from names_two] at hca
  obtain ⟨RR, hRR⟩ : ∃ RR : Sk × List Mg × Bool, RR = ((⟨3, [], [⟨3, 5⟩]⟩ : Sk), [msg 5], true) := ⟨_, rfl⟩
  rw [← hRR] at hca
  have hsz : (u4.alloc (.cells #[.int .i64 1] 3)).heap.size = u4.heap.size + 1 := by simp
  rw [hsz] at hca
  clear hsz
  have HRR := Lib.hid hRR
  have HCA := Lib.hid hca
  clear hl hca r1 r2 r3 r4 s1 s2 s3 s4 r5 b1 b2 b3 b4 hb5 hRR
  unfold ccells asgC finC msg CM.mz
  unfold LP.ecells flat LP.ecell ccells asgC finC msg CM.mz asg1 CM.zero at HCA hal
  simp only [List.length_cons, List.length_nil, Nat.zero_add] at HCA hal ⊢
  go_wp2_with fail
  refine (HCA.out).mono ?_
  rintro e w5 ⟨v, vm, rfl, hso, hkm, hb1⟩
  rw [HRR.out] at hso hkm ⊢
  obtain ⟨vW, vD, rfl, hk1, hk2⟩ := hso
  obtain ⟨AX, cX, rfl, _⟩ := hk1.g
  obtain ⟨BX, dX, rfl, _, _⟩ := own_form hk2
  obtain ⟨EX, fX, rfl, _⟩ := hkm.g
  have hb5 := bmore (bmore b0 hal.out (Nat.le_refl _)) hb1 (Nat.le_refl _)
  have HSD := Lib.hid (show SkIs w5 (vsk 3 (.slice AX 0 cX) (.slice BX 1 dX)) (⟨3, [], [⟨3, 5⟩]⟩ : Sk) from SkO.is ⟨_, _, rfl, hk1, hk2⟩)
  clear HCA hal hk1 hk2 hkm hb1 HRR b0
  unfold vsk at HSD ⊢
  simp only [List.length_cons, List.length_nil, Nat.zero_add] at HSD ⊢
  replace HB1 := Lib.hid (bmore HB1.out hb5 (Nat.le_refl _))
  replace HS1 := Lib.hid (HS1.out.below hb5)
  replace X1 := Lib.hid (X1.out.below hb5 X1.out.lt)
  clear hb5
  go_upto_region 5 with (fail)
  have hal : Below w5.heap.size w5 (w5.alloc (.cells #[.int .i64 3, .slice AX 0 cX, .slice BX 1 dX] 25)) := (Below.refl _ _).alloc (Nat.le_refl _) _
  have X2 := Lib.hid (Box.new w5 25 #[.int .i64 3, .slice AX 0 cX, .slice BX 1 dX])
  replace HB1 := Lib.hid (bmore HB1.out hal (Nat.le_refl _))
  replace HS1 := Lib.hid (HS1.out.below hal)
  replace X1 := Lib.hid (X1.out.below hal X1.out.lt)
  replace HSD := Lib.hid (HSD.out.below hal)
  clear hal
  generalize w5.alloc (.cells #[.int .i64 3, .slice AX 0 cX, .slice BX 1 dX] 25) = w6 at X2 HB1 HS1 X1 HSD ⊢
  generalize w5.heap.size = g2 at X2 ⊢
  have CL := Lib.hid (plocal15_any _ (⟨3, [], [⟨3, 5⟩]⟩ : Sk) 5 w6 HSD.out HFD.out)
  rw [names_g] at CL
  obtain ⟨x0, x1, x2⟩ := box_sk X2.out
  go_wp2_with fail
  refine (CL.out).mono ?_
  rintro e w7 ⟨rfl, hb⟩
  clear CL x0 x1 x2
  replace HB1 := Lib.hid (bmore HB1.out hb (Nat.le_refl _))
  replace HS1 := Lib.hid (HS1.out.below hb)
  replace X1 := Lib.hid (X1.out.below hb X1.out.lt)
  replace HSD := Lib.hid (HSD.out.below hb)
  replace X2 := Lib.hid (X2.out.below hb X2.out.lt)
  clear hb
  have CL := Lib.hid (PA _ (⟨7, [⟨msg 5, 1, false⟩, ⟨msg 9, 7, true⟩], []⟩ : Sk) 4 (.agg #[.int .u8 0, .int .i64 0, .slice none 0 0, .int .i64 0, .string ⟨#[]⟩, .string ⟨#[]⟩, .int .i64 0, .int .i64 0, .slice none 0 0, .int .i64 0, .int .i64 0, .int .i64 0]) CM.zero w7 HS1.out HF1.out ⟨none, 0, none, 0, rfl, RowIs.none _, RowIs.none _⟩ fit_zeroC (Nat.zero_le _))
  obtain ⟨RR, hRR⟩ : ∃ RR, RR = KM.applyF (⟨7, [⟨msg 5, 1, false⟩, ⟨msg 9, 7, true⟩], []⟩ : Sk) 4 CM.zero := ⟨_, rfl⟩
  rw [← hRR] at CL
  have HER := Lib.hid (show RR.2.2 = 2 by rw [hRR]; exact names_h)
  clear hRR
  obtain ⟨x0, x1, x2⟩ := box_sk X1.out
  go_wp2_with fail
  refine (CL.out).mono ?_
  rintro e w8 ⟨v, vm, rfl, hso, hkm, hb⟩
  rw [HER.out]
  obtain ⟨vW, vD, rfl, hk1, hk2⟩ := hso
  obtain ⟨AY, cY, rfl, _⟩ := hk1.g
  obtain ⟨BY, dY, rfl, _, _⟩ := own_form hk2
  obtain ⟨EY, fY, rfl, _⟩ := hkm.g
  clear CL hk1 hk2 hkm HER x0 x1 x2
  unfold vsk
  replace HB1 := Lib.hid (bmore HB1.out hb (Nat.le_refl _))
  replace HS1 := Lib.hid (HS1.out.below hb)
  replace X1 := Lib.hid (X1.out.below hb X1.out.lt)
  replace HSD := Lib.hid (HSD.out.below hb)
  replace X2 := Lib.hid (X2.out.below hb X2.out.lt)
  clear hb
  go_upto_region 7 with (fail)
  have hal : Below w8.heap.size w8 (w8.alloc (.cells #[.int .i64 RR.1.c, .slice AY RR.1.ws.length cY, .slice BY RR.1.ds.length dY] 25)) := (Below.refl _ _).alloc (Nat.le_refl _) _
  have Xa := Lib.hid (Box.new w8 25 #[.int .i64 RR.1.c, .slice AY RR.1.ws.length cY, .slice BY RR.1.ds.length dY])
  replace HB1 := Lib.hid (bmore HB1.out hal (Nat.le_refl _))
  replace HS1 := Lib.hid (HS1.out.below hal)
  replace X1 := Lib.hid (X1.out.below hal X1.out.lt)
  replace HSD := Lib.hid (HSD.out.below hal)
  replace X2 := Lib.hid (X2.out.below hal X2.out.lt)
  clear hal
  generalize w8.alloc (.cells #[.int .i64 RR.1.c, .slice AY RR.1.ws.length cY, .slice BY RR.1.ds.length dY] 25) = w9 at Xa HB1 HS1 X1 HSD X2 ⊢
  generalize w8.heap.size = ga at Xa ⊢
  generalize RR.1.c = q1 at Xa ⊢
  generalize RR.1.ws.length = q2 at Xa ⊢
  generalize RR.1.ds.length = q3 at Xa ⊢
  have CL := Lib.hid (PA _ (⟨7, [⟨msg 5, 1, false⟩, ⟨msg 9, 7, true⟩], []⟩ : Sk) 0 (.agg #[.int .u8 99, .int .i64 0, .slice none 0 0, .int .i64 0, .string ⟨#[]⟩, .string ⟨#[]⟩, .int .i64 0, .int .i64 0, .slice none 0 0, .int .i64 0, .int .i64 0, .int .i64 0]) { CM.zero with k := 99 } w9 HS1.out HF1.out ⟨none, 0, none, 0, rfl, RowIs.none _, RowIs.none _⟩ fit_99 (Nat.zero_le _))
  obtain ⟨RR, hRR⟩ : ∃ RR, RR = KM.applyF (⟨7, [⟨msg 5, 1, false⟩, ⟨msg 9, 7, true⟩], []⟩ : Sk) 0 { CM.zero with k := 99 } := ⟨_, rfl⟩
  rw [← hRR] at CL
  have HER := Lib.hid (show RR.2.2 = 120 by rw [hRR]; exact names_i)
  clear hRR
  obtain ⟨x0, x1, x2⟩ := box_sk X1.out
  go_wp2_with fail
  refine (CL.out).mono ?_
  rintro e w10 ⟨v, vm, rfl, hso, hkm, hb⟩
  rw [HER.out]
  obtain ⟨vW, vD, rfl, hk1, hk2⟩ := hso
  obtain ⟨AY, cY, rfl, _⟩ := hk1.g
  obtain ⟨BY, dY, rfl, _, _⟩ := own_form hk2
  obtain ⟨EY, fY, rfl, _⟩ := hkm.g
  clear CL hk1 hk2 hkm HER x0 x1 x2
  unfold vsk
  replace HB1 := Lib.hid (bmore HB1.out hb (Nat.le_refl _))
  replace HS1 := Lib.hid (HS1.out.below hb)
  replace X1 := Lib.hid (X1.out.below hb X1.out.lt)
  replace HSD := Lib.hid (HSD.out.below hb)
  replace X2 := Lib.hid (X2.out.below hb X2.out.lt)
  replace Xa := Lib.hid (Xa.out.below hb Xa.out.lt)
  clear hb
  go_upto_region 8 with (fail)
  have hal : Below w10.heap.size w10 (w10.alloc (.cells #[.int .i64 RR.1.c, .slice AY RR.1.ws.length cY, .slice BY RR.1.ds.length dY] 25)) := (Below.refl _ _).alloc (Nat.le_refl _) _
  have Xb := Lib.hid (Box.new w10 25 #[.int .i64 RR.1.c, .slice AY RR.1.ws.length cY, .slice BY RR.1.ds.length dY])
  replace HB1 := Lib.hid (bmore HB1.out hal (Nat.le_refl _))
  replace HS1 := Lib.hid (HS1.out.below hal)
  replace X1 := Lib.hid (X1.out.below hal X1.out.lt)
  replace HSD := Lib.hid (HSD.out.below hal)
  replace X2 := Lib.hid (X2.out.below hal X2.out.lt)
  replace Xa := Lib.hid (Xa.out.below hal Xa.out.lt)
  clear hal
  generalize w10.alloc (.cells #[.int .i64 RR.1.c, .slice AY RR.1.ws.length cY, .slice BY RR.1.ds.length dY] 25) = w11 at Xb HB1 HS1 X1 HSD X2 Xa ⊢
  generalize w10.heap.size = gb at Xb ⊢
  generalize RR.1.c = q4 at Xb ⊢
  generalize RR.1.ws.length = q5 at Xb ⊢
  generalize RR.1.ds.length = q6 at Xb ⊢
  go_wp2_with fail
  refine (assign15_any 5 w11).mono ?_
  rintro e w12 ⟨v1, rfl, ⟨A1, c1, P1, d1, rfl, r1, s1⟩, hb⟩
  replace HB1 := Lib.hid (bmore HB1.out hb (Nat.le_refl _))
  replace HS1 := Lib.hid (HS1.out.below hb)
  replace X1 := Lib.hid (X1.out.below hb X1.out.lt)
  replace HSD := Lib.hid (HSD.out.below hb)
  replace X2 := Lib.hid (X2.out.below hb X2.out.lt)
  replace Xa := Lib.hid (Xa.out.below hb Xa.out.lt)
  clear hb
  have CL := Lib.hid (PA (.agg #[.int .i64 1073741824, .slice none 0 0, .slice none 0 0]) ⟨1073741824, [], []⟩ 0 _ (asgC 5) w12 ⟨none, 0, none, 0, rfl, kR_nil KW w12, spsIs_nil w12⟩ (fit_empty ⟨by decide, by decide⟩) ⟨A1, c1, P1, d1, rfl, r1, s1⟩ (fit_asgC (by constructor <;> decide)) (by show 1 ≤ 17592186044416; omega))
  obtain ⟨RR2, hRR⟩ : ∃ RR, RR = KM.applyF ⟨1073741824, [], []⟩ 0 (asgC 5) := ⟨_, rfl⟩
  rw [← hRR] at CL
  have HER := Lib.hid (show RR2.2.2 = 9 by rw [hRR]; exact names_j)
  clear hRR r1 s1
  unfold ccells asgC msg at CL
  unfold ccells asgC msg
  simp only [List.length_cons, List.length_nil, Nat.zero_add] at CL ⊢
  go_wp2_with fail
  refine (CL.out).mono ?_
  rintro e w13 ⟨v, vm, rfl, hso, hkm, hb⟩
  rw [HER.out]
  obtain ⟨vW, vD, rfl, hk1, hk2⟩ := hso
  obtain ⟨AY2, cY2, rfl, _⟩ := hk1.g
  obtain ⟨BY2, dY2, rfl, _, _⟩ := own_form hk2
  obtain ⟨EY2, fY2, rfl, _⟩ := hkm.g
  clear CL hk1 hk2 hkm HER
  unfold vsk
  replace HB1 := Lib.hid (bmore HB1.out hb (Nat.le_refl _))
  replace HS1 := Lib.hid (HS1.out.below hb)
  replace X1 := Lib.hid (X1.out.below hb X1.out.lt)
  replace HSD := Lib.hid (HSD.out.below hb)
  replace X2 := Lib.hid (X2.out.below hb X2.out.lt)
  replace Xa := Lib.hid (Xa.out.below hb Xa.out.lt)
  clear hb
  go_wp2_with fail
  refine (alive15_any PA PN _).mono ?_
  rintro e w14 ⟨rfl, hb⟩
  replace hb := bmore ((Below.refl _ _).alloc (Nat.le_refl _) _) hb (Nat.le_refl _)
  replace HB1 := Lib.hid (bmore HB1.out hb (Nat.le_refl _))
  replace HS1 := Lib.hid (HS1.out.below hb)
  replace X1 := Lib.hid (X1.out.below hb X1.out.lt)
  replace HSD := Lib.hid (HSD.out.below hb)
  replace X2 := Lib.hid (X2.out.below hb X2.out.lt)
  replace Xa := Lib.hid (Xa.out.below hb Xa.out.lt)
  clear hb
  obtain ⟨x0, x1, x2⟩ := box_sk X1.out
  obtain ⟨y0, y1, y2⟩ := box_sk X2.out
  have CK := Lib.hid (pcheck15_any (.agg #[.int .i64 (-1), .slice none 0 0, .slice none 0 0]) ⟨-1, [], []⟩ w14 ⟨none, 0, none, 0, rfl, kR_nil KW w14, spsIs_nil w14⟩ (fit_empty ⟨by decide, by decide⟩))
  rw [if_neg names_c] at CK
  go_wp2_with fail
  refine (CK.out).mono ?_
  rintro e w15 ⟨rfl, hb⟩
  clear CK x0 x1 x2 y0 y1 y2
  replace HB1 := Lib.hid (bmore HB1.out hb (Nat.le_refl _))
  go_wp2_with fail
  go_ret
  exact ⟨by first | rfl | simp, HB1.out⟩
end Go.Proofs.Ytnpgjcapekopnaa.KP
namespace Go.Proofs.Ytnpgjcapekopnaa
open Go.RowKit
theorem skeenNames_walk (w : World) : Calls Try.prog 3 #[] w fun e w' => e = .returned (.bool true) ∧ Below w.heap.size w w' := KP.skeenNames_walk w
end Go.Proofs.Ytnpgjcapekopnaa
