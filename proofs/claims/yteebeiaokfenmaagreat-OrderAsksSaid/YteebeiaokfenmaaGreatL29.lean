/- Contracts of functions, L29: each as its theorem says. -/
import Derived.Test.YteebeiaokfenmaaGreatL26
import Derived.Test.YteebeiaokfenmaaGreatL23
set_option linter.unusedVariables false
set_option linter.unusedSimpArgs false
set_option maxRecDepth 100000
set_option maxHeartbeats 16000000
namespace Go.Proofs.YteebeiaokfenmaaGreat
namespace CP
open Go.RowKit
open CM (Mg Cm)
theorem parse_5_0 (v : Value) (l : List UInt8) (w : World) (h : BsIs w w.heap.size v l) (r0 : List UInt8) (hk : nums 1 l = some ([5], r0)) (hq0 : nums 3 r0 = none) (ho : CM.parse l = none) :
  Calls Tryz.prog 113 #[v] w (ParseIs (CM.parse l) w) := by
 have HX := h! (Box.new w 91 #[.int .u8 0, .int .i64 0, .slice none 0 0, .int .i64 0, .string ⟨#[]⟩, .string ⟨#[]⟩, .int .i64 0, .int .i64 0, .slice none 0 0, .int .i64 0, .int .i64 0, .int .i64 0])
 have hb0 : Below w.heap.size w (w.alloc (.cells #[.int .u8 0, .int .i64 0, .slice none 0 0, .int .i64 0, .string ⟨#[]⟩, .string ⟨#[]⟩, .int .i64 0, .int .i64 0, .slice none 0 0, .int .i64 0, .int .i64 0, .int .i64 0] 91)) := b!
 have HV := h! (h.below hb0)
 have HB := h! hb0
 clear h hb0
 have HO := h! ho
 have HK := h! hk
 have HQ0 := h! hq0
 clear ho hk hq0
 generalize CM.parse l = oo at HO ⊢
 go_enter Tryz.func113, Tryz.ntmps113
 go_upto_region 1 with (fail)
 generalize w.alloc (.cells #[.int .u8 0, .int .i64 0, .slice none 0 0, .int .i64 0, .string ⟨#[]⟩, .string ⟨#[]⟩, .int .i64 0, .int .i64 0, .slice none 0 0, .int .i64 0, .int .i64 0, .int .i64 0] 91) = w1 at HX HV HB ⊢
 have HW := h! (Nat.le_of_lt HX.out.lt)
 go_wp2_with fail
 refine (nums_yes HK.out HW.out HV.out (by omega) (by omega)).mono ?_
 rintro e w2 ⟨bl, dd, v0, rfl, hrow, hv, hb⟩
 have y0 := hrow.2.2 0 _ rfl
 simp at y0
 have HX2 := h! (HX.out.below hb HX.out.lt)
 have HB2 := h! (bmore HB.out hb n!)
 clear HX HB HW HV HK
 have HV2 := h! hv
 clear hb hrow hv
 go_upto_region 5 with (fail)
 clear y0
 have S := h! (pa_new HX2.out HB2.out #[.int .u8 5, .int .i64 0, .slice none 0 0, .int .i64 0, .string ⟨#[]⟩, .string ⟨#[]⟩, .int .i64 0, .int .i64 0, .slice none 0 0, .int .i64 0, .int .i64 0, .int .i64 0])
 have HV := h! (HV2.out.below (show Below w2.heap.size w2 (w2.alloc (.cells #[.int .u8 5, .int .i64 0, .slice none 0 0, .int .i64 0, .string ⟨#[]⟩, .string ⟨#[]⟩, .int .i64 0, .int .i64 0, .slice none 0 0, .int .i64 0, .int .i64 0, .int .i64 0] 91)) from (Below.refl _ _).alloc n! _))
 generalize w2.alloc (.cells #[.int .u8 5, .int .i64 0, .slice none 0 0, .int .i64 0, .string ⟨#[]⟩, .string ⟨#[]⟩, .int .i64 0, .int .i64 0, .slice none 0 0, .int .i64 0, .int .i64 0, .int .i64 0] 91) = w4 at S HV ⊢
 generalize w2.heap.size = g at S ⊢
 have HW := h! (show w.heap.size ≤ w4.heap.size from Nat.le_of_lt S.out.1.lt)
 clear HX2 HB2 HV2
 have c0 := S.out.2.1.cell 0
 simp at c0
 go_upto_region 36 with (fail)
 clear c0
 go_wp2_with fail
 refine (nums_no HQ0.out HW.out HV.out (by omega) (by omega)).mono ?_
 rintro e w5 ⟨rfl, hb⟩
 replace S := h! (S.out.below hb)
 clear hb HV HW
 obtain ⟨c0, c1, c2, c3, c4, c5, c6, c7, c8, c9, c10, c11⟩ := box_cm S.out.2.1
 obtain ⟨d0, d1, d2, d3, d4, d5, d6, d7, d8, d9, d10, d11⟩ := box_cm S.out.1
 have g0 := S.out.1.frozen 0
 have g1 := S.out.1.frozen 1
 have g2 := S.out.1.frozen 2
 have g3 := S.out.1.frozen 3
 have g4 := S.out.1.frozen 4
 have g5 := S.out.1.frozen 5
 have g6 := S.out.1.frozen 6
 have g7 := S.out.1.frozen 7
 have g8 := S.out.1.frozen 8
 have g9 := S.out.1.frozen 9
 have g10 := S.out.1.frozen 10
 have g11 := S.out.1.frozen 11
 have HBF := h! S.out.2.2.2
 clear S
 go_wp2_with fail
 refine bodyPost_ret (v := .tuple #[.agg #[.int .u8 5, .int .i64 0, .slice none 0 0, .int .i64 0, .string ⟨#[]⟩, .string ⟨#[]⟩, .int .i64 0, .int .i64 0, .slice none 0 0, .int .i64 0, .int .i64 0, .int .i64 0], .slice none 0 0, .bool false]) (by simp [results, Tryz.results113, go_sem, d0, d1, d2, d3, d4, d5, d6, d7, d8, d9, d10, d11]; try rfl) rfl ?_
 exact ⟨put12_below HBF.out n! (.int .u8 5) (.int .i64 0) (.slice none 0 0) (.int .i64 0) (.string ⟨#[]⟩) (.string ⟨#[]⟩) (.int .i64 0) (.int .i64 0) (.slice none 0 0) (.int .i64 0) (.int .i64 0) (.int .i64 0), .inl ⟨HO.out, none, 0, none, 0, (⟨5, ⟨0, [], 0, .empty, .empty⟩, 0, 0, [], 0, 0, 0⟩ : Cm), _, rfl⟩⟩
theorem parse_5_ok (v : Value) (l : List UInt8) (w : World) (h : BsIs w w.heap.size v l) (r0 : List UInt8) (hk : nums 1 l = some ([5], r0)) {n0 n1 n2 : Nat} {r1 : List UInt8} (hq0 : nums 3 r0 = some ([n0, n1, n2], r1)) (ho : CM.parse l = some ((⟨5, CM.mz, (n0 : Nat), 0, [], (n1 : Nat), 0, (n2 : Nat)⟩ : Cm), r1)) (hfit : CmFit (⟨5, CM.mz, (n0 : Nat), 0, [], (n1 : Nat), 0, (n2 : Nat)⟩ : Cm)) :
  Calls Tryz.prog 113 #[v] w (ParseIs (CM.parse l) w) := by
 have HX := h! (Box.new w 91 #[.int .u8 0, .int .i64 0, .slice none 0 0, .int .i64 0, .string ⟨#[]⟩, .string ⟨#[]⟩, .int .i64 0, .int .i64 0, .slice none 0 0, .int .i64 0, .int .i64 0, .int .i64 0])
 have hb0 : Below w.heap.size w (w.alloc (.cells #[.int .u8 0, .int .i64 0, .slice none 0 0, .int .i64 0, .string ⟨#[]⟩, .string ⟨#[]⟩, .int .i64 0, .int .i64 0, .slice none 0 0, .int .i64 0, .int .i64 0, .int .i64 0] 91)) := b!
 have HV := h! (h.below hb0)
 have HB := h! hb0
 clear h hb0
 have HO := h! ho
 have HFIT := h! hfit
 have HK := h! hk
 have HQ0 := h! hq0
 clear ho hk hfit hq0
 generalize CM.parse l = oo at HO ⊢
 go_enter Tryz.func113, Tryz.ntmps113
 go_upto_region 1 with (fail)
 generalize w.alloc (.cells #[.int .u8 0, .int .i64 0, .slice none 0 0, .int .i64 0, .string ⟨#[]⟩, .string ⟨#[]⟩, .int .i64 0, .int .i64 0, .slice none 0 0, .int .i64 0, .int .i64 0, .int .i64 0] 91) = w1 at HX HV HB ⊢
 have HW := h! (Nat.le_of_lt HX.out.lt)
 go_wp2_with fail
 refine (nums_yes HK.out HW.out HV.out (by omega) (by omega)).mono ?_
 rintro e w2 ⟨bl, dd, v0, rfl, hrow, hv, hb⟩
 have y0 := hrow.2.2 0 _ rfl
 simp at y0
 have HX2 := h! (HX.out.below hb HX.out.lt)
 have HB2 := h! (bmore HB.out hb n!)
 clear HX HB HW HV HK
 have HV2 := h! hv
 clear hb hrow hv
 go_upto_region 5 with (fail)
 clear y0
 have S := h! (pa_new HX2.out HB2.out #[.int .u8 5, .int .i64 0, .slice none 0 0, .int .i64 0, .string ⟨#[]⟩, .string ⟨#[]⟩, .int .i64 0, .int .i64 0, .slice none 0 0, .int .i64 0, .int .i64 0, .int .i64 0])
 have HV := h! (HV2.out.below (show Below w2.heap.size w2 (w2.alloc (.cells #[.int .u8 5, .int .i64 0, .slice none 0 0, .int .i64 0, .string ⟨#[]⟩, .string ⟨#[]⟩, .int .i64 0, .int .i64 0, .slice none 0 0, .int .i64 0, .int .i64 0, .int .i64 0] 91)) from (Below.refl _ _).alloc n! _))
 generalize w2.alloc (.cells #[.int .u8 5, .int .i64 0, .slice none 0 0, .int .i64 0, .string ⟨#[]⟩, .string ⟨#[]⟩, .int .i64 0, .int .i64 0, .slice none 0 0, .int .i64 0, .int .i64 0, .int .i64 0] 91) = w4 at S HV ⊢
 generalize w2.heap.size = g at S ⊢
 have HW := h! (show w.heap.size ≤ w4.heap.size from Nat.le_of_lt S.out.1.lt)
 clear HX2 HB2 HV2
 have c0 := S.out.2.1.cell 0
 simp at c0
 go_upto_region 36 with (fail)
 clear c0
 go_wp2_with fail
 refine (nums_yes HQ0.out HW.out HV.out (by omega) (by omega)).mono ?_
 rintro e w5 ⟨bl, d0, v1, rfl, hrow, hv, hb⟩
 have HG := h! S.out.2.1.lt
 replace S := h! (S.out.below hb)
 have RN := h! hrow
 replace HV := h! hv
 replace HW := h! (Nat.le_trans HW.out hb.size)
 skip
 clear hb hrow hv
 go_upto_region 38 with (fail)
 have y0 := RN.out.2.2 0 _ rfl
 have c6 := S.out.2.1.cell 6
 have f6 := S.out.2.1.frozen 6
 simp at c6
 go_upto_region 39 with (fail)
 clear y0 c6 f6
 replace S := h! (show Pa w _ g #[.int .u8 5, .int .i64 0, .slice none 0 0, .int .i64 0, .string ⟨#[]⟩, .string ⟨#[]⟩, .int .i64 (n0 : Nat), .int .i64 0, .slice none 0 0, .int .i64 0, .int .i64 0, .int .i64 0] from S.out.put 6 (.int .i64 (n0 : Nat)))
 replace RN := h! (RN.out.set HG.out (i := 6) (.int .i64 (n0 : Nat)))
 replace HV := h! (HV.out.set (show w.heap.size ≤ g from Nat.le_of_lt S.out.2.2.1) (i := 6) (.int .i64 (n0 : Nat)))
 replace HW := h! (Nat.le_of_lt S.out.1.lt)
 skip
 generalize World.setCell _ ⟨g, 6, none⟩ _ = wz at S RN HV HW ⊢
 go_upto_region 39 with (fail)
 have y1 := RN.out.2.2 1 _ rfl
 have c9 := S.out.2.1.cell 9
 have f9 := S.out.2.1.frozen 9
 simp at c9
 go_upto_region 40 with (fail)
 clear y1 c9 f9
 replace S := h! (show Pa w _ g #[.int .u8 5, .int .i64 0, .slice none 0 0, .int .i64 0, .string ⟨#[]⟩, .string ⟨#[]⟩, .int .i64 (n0 : Nat), .int .i64 0, .slice none 0 0, .int .i64 (n1 : Nat), .int .i64 0, .int .i64 0] from S.out.put 9 (.int .i64 (n1 : Nat)))
 replace RN := h! (RN.out.set HG.out (i := 9) (.int .i64 (n1 : Nat)))
 replace HV := h! (HV.out.set (show w.heap.size ≤ g from Nat.le_of_lt S.out.2.2.1) (i := 9) (.int .i64 (n1 : Nat)))
 replace HW := h! (Nat.le_of_lt S.out.1.lt)
 skip
 generalize World.setCell _ ⟨g, 9, none⟩ _ = wz at S RN HV HW ⊢
 go_upto_region 40 with (fail)
 have y2 := RN.out.2.2 2 _ rfl
 have c11 := S.out.2.1.cell 11
 have f11 := S.out.2.1.frozen 11
 simp at c11
 go_upto_region 41 with (fail)
 clear y2 c11 f11
 replace S := h! (show Pa w _ g #[.int .u8 5, .int .i64 0, .slice none 0 0, .int .i64 0, .string ⟨#[]⟩, .string ⟨#[]⟩, .int .i64 (n0 : Nat), .int .i64 0, .slice none 0 0, .int .i64 (n1 : Nat), .int .i64 0, .int .i64 (n2 : Nat)] from S.out.put 11 (.int .i64 (n2 : Nat)))
 replace RN := h! (RN.out.set HG.out (i := 11) (.int .i64 (n2 : Nat)))
 replace HV := h! (HV.out.set (show w.heap.size ≤ g from Nat.le_of_lt S.out.2.2.1) (i := 11) (.int .i64 (n2 : Nat)))
 replace HW := h! (Nat.le_of_lt S.out.1.lt)
 skip
 generalize World.setCell _ ⟨g, 11, none⟩ _ = wz at S RN HV HW ⊢
 clear RN HG
 obtain ⟨c0, c1, c2, c3, c4, c5, c6, c7, c8, c9, c10, c11⟩ := box_cm S.out.2.1
 obtain ⟨d0, d1, d2, d3, d4, d5, d6, d7, d8, d9, d10, d11⟩ := box_cm S.out.1
 have g0 := S.out.1.frozen 0
 have g1 := S.out.1.frozen 1
 have g2 := S.out.1.frozen 2
 have g3 := S.out.1.frozen 3
 have g4 := S.out.1.frozen 4
 have g5 := S.out.1.frozen 5
 have g6 := S.out.1.frozen 6
 have g7 := S.out.1.frozen 7
 have g8 := S.out.1.frozen 8
 have g9 := S.out.1.frozen 9
 have g10 := S.out.1.frozen 10
 have g11 := S.out.1.frozen 11
 have HBF := h! S.out.2.2.2
 have HP := h! S.out.2.2.1
 clear S
 go_wp2_with fail
 refine bodyPost_ret (v := .tuple #[.agg #[.int .u8 5, .int .i64 0, .slice none 0 0, .int .i64 0, .string ⟨#[]⟩, .string ⟨#[]⟩, .int .i64 (n0 : Nat), .int .i64 0, .slice none 0 0, .int .i64 (n1 : Nat), .int .i64 0, .int .i64 (n2 : Nat)], v1, .bool true]) (by simp [results, Tryz.results113, go_sem, d0, d1, d2, d3, d4, d5, d6, d7, d8, d9, d10, d11]; try rfl) rfl ?_
 exact ⟨put12_below HBF.out n! (.int .u8 5) (.int .i64 0) (.slice none 0 0) (.int .i64 0) (.string ⟨#[]⟩) (.string ⟨#[]⟩) (.int .i64 (n0 : Nat)) (.int .i64 0) (.slice none 0 0) (.int .i64 (n1 : Nat)) (.int .i64 0) (.int .i64 (n2 : Nat)), .inr ⟨(⟨5, CM.mz, (n0 : Nat), 0, [], (n1 : Nat), 0, (n2 : Nat)⟩ : Cm), r1, _, _, HO.out, rfl, ⟨none, 0, none, 0, rfl, RowGe.none _ _, RowGe.none _ _⟩, HFIT.out, HV.out.put12 n! (.int .u8 5) (.int .i64 0) (.slice none 0 0) (.int .i64 0) (.string ⟨#[]⟩) (.string ⟨#[]⟩) (.int .i64 (n0 : Nat)) (.int .i64 0) (.slice none 0 0) (.int .i64 (n1 : Nat)) (.int .i64 0) (.int .i64 (n2 : Nat))⟩⟩
theorem parse_6_0 (v : Value) (l : List UInt8) (w : World) (h : BsIs w w.heap.size v l) (r0 : List UInt8) (hk : nums 1 l = some ([6], r0)) (hq0 : nums 3 r0 = none) (ho : CM.parse l = none) :
  Calls Tryz.prog 113 #[v] w (ParseIs (CM.parse l) w) := by
 have HX := h! (Box.new w 91 #[.int .u8 0, .int .i64 0, .slice none 0 0, .int .i64 0, .string ⟨#[]⟩, .string ⟨#[]⟩, .int .i64 0, .int .i64 0, .slice none 0 0, .int .i64 0, .int .i64 0, .int .i64 0])
 have hb0 : Below w.heap.size w (w.alloc (.cells #[.int .u8 0, .int .i64 0, .slice none 0 0, .int .i64 0, .string ⟨#[]⟩, .string ⟨#[]⟩, .int .i64 0, .int .i64 0, .slice none 0 0, .int .i64 0, .int .i64 0, .int .i64 0] 91)) := b!
 have HV := h! (h.below hb0)
 have HB := h! hb0
 clear h hb0
 have HO := h! ho
 have HK := h! hk
 have HQ0 := h! hq0
 clear ho hk hq0
 generalize CM.parse l = oo at HO ⊢
 go_enter Tryz.func113, Tryz.ntmps113
 go_upto_region 1 with (fail)
 generalize w.alloc (.cells #[.int .u8 0, .int .i64 0, .slice none 0 0, .int .i64 0, .string ⟨#[]⟩, .string ⟨#[]⟩, .int .i64 0, .int .i64 0, .slice none 0 0, .int .i64 0, .int .i64 0, .int .i64 0] 91) = w1 at HX HV HB ⊢
 have HW := h! (Nat.le_of_lt HX.out.lt)
 go_wp2_with fail
 refine (nums_yes HK.out HW.out HV.out (by omega) (by omega)).mono ?_
 rintro e w2 ⟨bl, dd, v0, rfl, hrow, hv, hb⟩
 have y0 := hrow.2.2 0 _ rfl
 simp at y0
 have HX2 := h! (HX.out.below hb HX.out.lt)
 have HB2 := h! (bmore HB.out hb n!)
 clear HX HB HW HV HK
 have HV2 := h! hv
 clear hb hrow hv
 go_upto_region 5 with (fail)
 clear y0
 have S := h! (pa_new HX2.out HB2.out #[.int .u8 6, .int .i64 0, .slice none 0 0, .int .i64 0, .string ⟨#[]⟩, .string ⟨#[]⟩, .int .i64 0, .int .i64 0, .slice none 0 0, .int .i64 0, .int .i64 0, .int .i64 0])
 have HV := h! (HV2.out.below (show Below w2.heap.size w2 (w2.alloc (.cells #[.int .u8 6, .int .i64 0, .slice none 0 0, .int .i64 0, .string ⟨#[]⟩, .string ⟨#[]⟩, .int .i64 0, .int .i64 0, .slice none 0 0, .int .i64 0, .int .i64 0, .int .i64 0] 91)) from (Below.refl _ _).alloc n! _))
 generalize w2.alloc (.cells #[.int .u8 6, .int .i64 0, .slice none 0 0, .int .i64 0, .string ⟨#[]⟩, .string ⟨#[]⟩, .int .i64 0, .int .i64 0, .slice none 0 0, .int .i64 0, .int .i64 0, .int .i64 0] 91) = w4 at S HV ⊢
 generalize w2.heap.size = g at S ⊢
 have HW := h! (show w.heap.size ≤ w4.heap.size from Nat.le_of_lt S.out.1.lt)
 clear HX2 HB2 HV2
 have c0 := S.out.2.1.cell 0
 simp at c0
 go_upto_region 36 with (fail)
 clear c0
 go_wp2_with fail
 refine (nums_no HQ0.out HW.out HV.out (by omega) (by omega)).mono ?_
 rintro e w5 ⟨rfl, hb⟩
 replace S := h! (S.out.below hb)
 clear hb HV HW
 obtain ⟨c0, c1, c2, c3, c4, c5, c6, c7, c8, c9, c10, c11⟩ := box_cm S.out.2.1
 obtain ⟨d0, d1, d2, d3, d4, d5, d6, d7, d8, d9, d10, d11⟩ := box_cm S.out.1
 have g0 := S.out.1.frozen 0
 have g1 := S.out.1.frozen 1
 have g2 := S.out.1.frozen 2
 have g3 := S.out.1.frozen 3
 have g4 := S.out.1.frozen 4
 have g5 := S.out.1.frozen 5
 have g6 := S.out.1.frozen 6
 have g7 := S.out.1.frozen 7
 have g8 := S.out.1.frozen 8
 have g9 := S.out.1.frozen 9
 have g10 := S.out.1.frozen 10
 have g11 := S.out.1.frozen 11
 have HBF := h! S.out.2.2.2
 clear S
 go_wp2_with fail
 refine bodyPost_ret (v := .tuple #[.agg #[.int .u8 6, .int .i64 0, .slice none 0 0, .int .i64 0, .string ⟨#[]⟩, .string ⟨#[]⟩, .int .i64 0, .int .i64 0, .slice none 0 0, .int .i64 0, .int .i64 0, .int .i64 0], .slice none 0 0, .bool false]) (by simp [results, Tryz.results113, go_sem, d0, d1, d2, d3, d4, d5, d6, d7, d8, d9, d10, d11]; try rfl) rfl ?_
 exact ⟨put12_below HBF.out n! (.int .u8 6) (.int .i64 0) (.slice none 0 0) (.int .i64 0) (.string ⟨#[]⟩) (.string ⟨#[]⟩) (.int .i64 0) (.int .i64 0) (.slice none 0 0) (.int .i64 0) (.int .i64 0) (.int .i64 0), .inl ⟨HO.out, none, 0, none, 0, (⟨6, ⟨0, [], 0, .empty, .empty⟩, 0, 0, [], 0, 0, 0⟩ : Cm), _, rfl⟩⟩
theorem parse_6_ok (v : Value) (l : List UInt8) (w : World) (h : BsIs w w.heap.size v l) (r0 : List UInt8) (hk : nums 1 l = some ([6], r0)) {n0 n1 n2 : Nat} {r1 : List UInt8} (hq0 : nums 3 r0 = some ([n0, n1, n2], r1)) (ho : CM.parse l = some ((⟨6, CM.mz, (n0 : Nat), 0, [], (n1 : Nat), 0, (n2 : Nat)⟩ : Cm), r1)) (hfit : CmFit (⟨6, CM.mz, (n0 : Nat), 0, [], (n1 : Nat), 0, (n2 : Nat)⟩ : Cm)) :
  Calls Tryz.prog 113 #[v] w (ParseIs (CM.parse l) w) := by
 have HX := h! (Box.new w 91 #[.int .u8 0, .int .i64 0, .slice none 0 0, .int .i64 0, .string ⟨#[]⟩, .string ⟨#[]⟩, .int .i64 0, .int .i64 0, .slice none 0 0, .int .i64 0, .int .i64 0, .int .i64 0])
 have hb0 : Below w.heap.size w (w.alloc (.cells #[.int .u8 0, .int .i64 0, .slice none 0 0, .int .i64 0, .string ⟨#[]⟩, .string ⟨#[]⟩, .int .i64 0, .int .i64 0, .slice none 0 0, .int .i64 0, .int .i64 0, .int .i64 0] 91)) := b!
 have HV := h! (h.below hb0)
 have HB := h! hb0
 clear h hb0
 have HO := h! ho
 have HFIT := h! hfit
 have HK := h! hk
 have HQ0 := h! hq0
 clear ho hk hfit hq0
 generalize CM.parse l = oo at HO ⊢
 go_enter Tryz.func113, Tryz.ntmps113
 go_upto_region 1 with (fail)
 generalize w.alloc (.cells #[.int .u8 0, .int .i64 0, .slice none 0 0, .int .i64 0, .string ⟨#[]⟩, .string ⟨#[]⟩, .int .i64 0, .int .i64 0, .slice none 0 0, .int .i64 0, .int .i64 0, .int .i64 0] 91) = w1 at HX HV HB ⊢
 have HW := h! (Nat.le_of_lt HX.out.lt)
 go_wp2_with fail
 refine (nums_yes HK.out HW.out HV.out (by omega) (by omega)).mono ?_
 rintro e w2 ⟨bl, dd, v0, rfl, hrow, hv, hb⟩
 have y0 := hrow.2.2 0 _ rfl
 simp at y0
 have HX2 := h! (HX.out.below hb HX.out.lt)
 have HB2 := h! (bmore HB.out hb n!)
 clear HX HB HW HV HK
 have HV2 := h! hv
 clear hb hrow hv
 go_upto_region 5 with (fail)
 clear y0
 have S := h! (pa_new HX2.out HB2.out #[.int .u8 6, .int .i64 0, .slice none 0 0, .int .i64 0, .string ⟨#[]⟩, .string ⟨#[]⟩, .int .i64 0, .int .i64 0, .slice none 0 0, .int .i64 0, .int .i64 0, .int .i64 0])
 have HV := h! (HV2.out.below (show Below w2.heap.size w2 (w2.alloc (.cells #[.int .u8 6, .int .i64 0, .slice none 0 0, .int .i64 0, .string ⟨#[]⟩, .string ⟨#[]⟩, .int .i64 0, .int .i64 0, .slice none 0 0, .int .i64 0, .int .i64 0, .int .i64 0] 91)) from (Below.refl _ _).alloc n! _))
 generalize w2.alloc (.cells #[.int .u8 6, .int .i64 0, .slice none 0 0, .int .i64 0, .string ⟨#[]⟩, .string ⟨#[]⟩, .int .i64 0, .int .i64 0, .slice none 0 0, .int .i64 0, .int .i64 0, .int .i64 0] 91) = w4 at S HV ⊢
 generalize w2.heap.size = g at S ⊢
 have HW := h! (show w.heap.size ≤ w4.heap.size from Nat.le_of_lt S.out.1.lt)
 clear HX2 HB2 HV2
 have c0 := S.out.2.1.cell 0
 simp at c0
 go_upto_region 36 with (fail)
 clear c0
 go_wp2_with fail
 refine (nums_yes HQ0.out HW.out HV.out (by omega) (by omega)).mono ?_
 rintro e w5 ⟨bl, d0, v1, rfl, hrow, hv, hb⟩
 have HG := h! S.out.2.1.lt
 replace S := h! (S.out.below hb)
 have RN := h! hrow
 replace HV := h! hv
 replace HW := h! (Nat.le_trans HW.out hb.size)
 skip
 clear hb hrow hv
 go_upto_region 38 with (fail)
 have y0 := RN.out.2.2 0 _ rfl
 have c6 := S.out.2.1.cell 6
 have f6 := S.out.2.1.frozen 6
 simp at c6
 go_upto_region 39 with (fail)
 clear y0 c6 f6
 replace S := h! (show Pa w _ g #[.int .u8 6, .int .i64 0, .slice none 0 0, .int .i64 0, .string ⟨#[]⟩, .string ⟨#[]⟩, .int .i64 (n0 : Nat), .int .i64 0, .slice none 0 0, .int .i64 0, .int .i64 0, .int .i64 0] from S.out.put 6 (.int .i64 (n0 : Nat)))
 replace RN := h! (RN.out.set HG.out (i := 6) (.int .i64 (n0 : Nat)))
 replace HV := h! (HV.out.set (show w.heap.size ≤ g from Nat.le_of_lt S.out.2.2.1) (i := 6) (.int .i64 (n0 : Nat)))
 replace HW := h! (Nat.le_of_lt S.out.1.lt)
 skip
 generalize World.setCell _ ⟨g, 6, none⟩ _ = wz at S RN HV HW ⊢
 go_upto_region 39 with (fail)
 have y1 := RN.out.2.2 1 _ rfl
 have c9 := S.out.2.1.cell 9
 have f9 := S.out.2.1.frozen 9
 simp at c9
 go_upto_region 40 with (fail)
 clear y1 c9 f9
 replace S := h! (show Pa w _ g #[.int .u8 6, .int .i64 0, .slice none 0 0, .int .i64 0, .string ⟨#[]⟩, .string ⟨#[]⟩, .int .i64 (n0 : Nat), .int .i64 0, .slice none 0 0, .int .i64 (n1 : Nat), .int .i64 0, .int .i64 0] from S.out.put 9 (.int .i64 (n1 : Nat)))
 replace RN := h! (RN.out.set HG.out (i := 9) (.int .i64 (n1 : Nat)))
 replace HV := h! (HV.out.set (show w.heap.size ≤ g from Nat.le_of_lt S.out.2.2.1) (i := 9) (.int .i64 (n1 : Nat)))
 replace HW := h! (Nat.le_of_lt S.out.1.lt)
 skip
 generalize World.setCell _ ⟨g, 9, none⟩ _ = wz at S RN HV HW ⊢
 go_upto_region 40 with (fail)
 have y2 := RN.out.2.2 2 _ rfl
 have c11 := S.out.2.1.cell 11
 have f11 := S.out.2.1.frozen 11
 simp at c11
 go_upto_region 41 with (fail)
 clear y2 c11 f11
 replace S := h! (show Pa w _ g #[.int .u8 6, .int .i64 0, .slice none 0 0, .int .i64 0, .string ⟨#[]⟩, .string ⟨#[]⟩, .int .i64 (n0 : Nat), .int .i64 0, .slice none 0 0, .int .i64 (n1 : Nat), .int .i64 0, .int .i64 (n2 : Nat)] from S.out.put 11 (.int .i64 (n2 : Nat)))
 replace RN := h! (RN.out.set HG.out (i := 11) (.int .i64 (n2 : Nat)))
 replace HV := h! (HV.out.set (show w.heap.size ≤ g from Nat.le_of_lt S.out.2.2.1) (i := 11) (.int .i64 (n2 : Nat)))
 replace HW := h! (Nat.le_of_lt S.out.1.lt)
 skip
 generalize World.setCell _ ⟨g, 11, none⟩ _ = wz at S RN HV HW ⊢
 clear RN HG
 obtain ⟨c0, c1, c2, c3, c4, c5, c6, c7, c8, c9, c10, c11⟩ := box_cm S.out.2.1
 obtain ⟨d0, d1, d2, d3, d4, d5, d6, d7, d8, d9, d10, d11⟩ := box_cm S.out.1
 have g0 := S.out.1.frozen 0
 have g1 := S.out.1.frozen 1
 have g2 := S.out.1.frozen 2
 have g3 := S.out.1.frozen 3
 have g4 := S.out.1.frozen 4
 have g5 := S.out.1.frozen 5
 have g6 := S.out.1.frozen 6
 have g7 := S.out.1.frozen 7
 have g8 := S.out.1.frozen 8
 have g9 := S.out.1.frozen 9
 have g10 := S.out.1.frozen 10
 have g11 := S.out.1.frozen 11
 have HBF := h! S.out.2.2.2
 have HP := h! S.out.2.2.1
 clear S
 go_wp2_with fail
 refine bodyPost_ret (v := .tuple #[.agg #[.int .u8 6, .int .i64 0, .slice none 0 0, .int .i64 0, .string ⟨#[]⟩, .string ⟨#[]⟩, .int .i64 (n0 : Nat), .int .i64 0, .slice none 0 0, .int .i64 (n1 : Nat), .int .i64 0, .int .i64 (n2 : Nat)], v1, .bool true]) (by simp [results, Tryz.results113, go_sem, d0, d1, d2, d3, d4, d5, d6, d7, d8, d9, d10, d11]; try rfl) rfl ?_
 exact ⟨put12_below HBF.out n! (.int .u8 6) (.int .i64 0) (.slice none 0 0) (.int .i64 0) (.string ⟨#[]⟩) (.string ⟨#[]⟩) (.int .i64 (n0 : Nat)) (.int .i64 0) (.slice none 0 0) (.int .i64 (n1 : Nat)) (.int .i64 0) (.int .i64 (n2 : Nat)), .inr ⟨(⟨6, CM.mz, (n0 : Nat), 0, [], (n1 : Nat), 0, (n2 : Nat)⟩ : Cm), r1, _, _, HO.out, rfl, ⟨none, 0, none, 0, rfl, RowGe.none _ _, RowGe.none _ _⟩, HFIT.out, HV.out.put12 n! (.int .u8 6) (.int .i64 0) (.slice none 0 0) (.int .i64 0) (.string ⟨#[]⟩) (.string ⟨#[]⟩) (.int .i64 (n0 : Nat)) (.int .i64 0) (.slice none 0 0) (.int .i64 (n1 : Nat)) (.int .i64 0) (.int .i64 (n2 : Nat))⟩⟩
theorem text_a (v : ByteArray) (w : World) (hn : v.size ≤ 4096) :
  Calls Tryz.prog 71 #[.string v] w fun e w' => ∃ A c, e = .returned (.tuple #[.slice A (NM.text (RM.bsz v)).length c, .int .i64 0]) ∧ Rd w' A (NM.text (RM.bsz v)).length (bc (NM.text (RM.bsz v))) ∧ Below w.heap.size w w' := by
 refine (text_ok v w hn).mono ?_
 rintro e w' ⟨u, rfl, ho, hb⟩
 obtain ⟨A, c, rfl, _, _⟩ := own_slice ho
 exact ⟨A, c, rfl, Rd.of_own ho, hb⟩
theorem ints_a (B : Option Addr) (n d : Nat) (l : List Int) (w : World) (hr : Rd w B n (ic l)) (hn : n ≤ 4096) (hok : ∀ z ∈ l, 0 ≤ z ∧ z ≤ 1099511627776) :
  Calls Tryz.prog 70 #[.slice B n d] w fun e w' => ∃ A c, e = .returned (.tuple #[.slice A (NM.ints (CM.nats l)).length c, .int .i64 0]) ∧ Rd w' A (NM.ints (CM.nats l)).length (bc (NM.ints (CM.nats l))) ∧ Below w.heap.size w w' := by
 refine (ints_any B n d l w hr hn).mono ?_
 rintro e w' ⟨hb, ⟨_, v, rfl, ho⟩ | ⟨h, _⟩⟩
 ·obtain ⟨A, c, rfl, _, _⟩ := own_slice ho
  exact ⟨A, c, rfl, Rd.of_own ho, hb⟩
 ·exact absurd hok h
def Ws (w0 w : World) (X : Array Value) (f : Nat) (a b c d e : Bool) (g : Nat) (v : Value) (pre : List UInt8) : Prop :=
 Box w w0.heap.size 91 X ∧ GatV w g v pre ∧ Box w f 126 #[.bool a, .bool b, .bool c, .bool d, .bool e] ∧ (f ≠ g ∧ v.ownBlock ≠ some f ∧ w0.heap.size < g) ∧ Below w0.heap.size w0 w
section
variable {w0 w w' : World} {X : Array Value} {f g : Nat} {a b c d e : Bool} {v v' : Value} {pre pre' : List UInt8}
theorem Ws.below (h : Ws w0 w X f a b c d e g v pre) (hb : Below w.heap.size w w') : Ws w0 w' X f a b c d e g v pre :=
 ⟨h.1.below hb h.1.lt, h.2.1.below hb, h.2.2.1.below hb h.2.2.1.lt, h.2.2.2.1, bmore h.2.2.2.2 hb n!⟩
theorem Ws.more (h : Ws w0 w X f a b c d e g v pre) (hg : GatV w' g v' pre') (hk : Kp w w' g v v') (hb : Below g w w') : Ws w0 w' X f a b c d e g v' pre' := by
 obtain ⟨k1, k2⟩ := hk f _ _ h.2.2.1 h.2.2.2.1.1 h.2.2.2.1.2.1
 exact ⟨h.1.below hb h.2.2.2.1.2.2, hg, k1, ⟨h.2.2.2.1.1, k2, h.2.2.2.1.2.2⟩, h.2.2.2.2.trans (hb.mono (Nat.le_of_lt h.2.2.2.1.2.2))⟩
theorem GatV.fresh (h : GatV w g v pre) : w.heap.size ≠ g ∧ v.ownBlock ≠ some w.heap.size :=
 ⟨by have := h.1.lt; omega, fun k => by obtain ⟨_, cur, hc⟩ := own_block h.2.2 k; have := hc.lt; omega⟩
theorem gat_nil (w : World) : Box ((w.alloc (.cells #[.slice none 0 0] 120)).alloc (.cells #[.nilFunc] 121)) (w.heap.size + 1) 121 #[.nilFunc] := Box.new_at _ (by simp)
theorem gat_new (w : World) : GatV ((w.alloc (.cells #[.slice none 0 0] 120)).alloc (.cells #[gval w.heap.size] 121)) w.heap.size (.slice none 0 0) [] :=
 ⟨(Box.new w _ _).alloc _, Box.new_at _ (by simp), World.ownsRow_nil _ _ _ _⟩
theorem gat_below (w : World) (x : Value) : Below w.heap.size w ((w.alloc (.cells #[.slice none 0 0] 120)).alloc (.cells #[x] 121)) :=
 ((Below.refl _ _).alloc n! _).alloc (by simp) _
theorem ws_new (h : Box w w0.heap.size 91 X) (hG : GatV w g v pre) (hg : w0.heap.size < g) (hb : Below w0.heap.size w0 w) (a b c d e : Bool) :
  Ws w0 (w.alloc (.cells #[.bool a, .bool b, .bool c, .bool d, .bool e] 126)) X w.heap.size a b c d e g v pre :=
 ⟨h.alloc _, hG.below ((Below.refl _ _).alloc n! _), Box.new w _ _, ⟨hG.fresh.1, hG.fresh.2, hg⟩, hb.alloc hb.size _⟩
end
theorem nums_lit {w0 w : World} {X : Array Value} {f g : Nat} {a b c d e : Bool} {v : Value} {pre : List UInt8} (S : Ws w0 w X f a b c d e g v pre) (l : List Nat) (n : Nat) (xs : Array Value) (hx : xs = (zsN l).toArray) (hn : n = l.length) (h10 : l.length ≤ 10) (hm : ∀ x ∈ l, x ≤ 1099511627776) (hp : pre.length ≤ 5000) :
  Calls Tryz.prog 67 #[.slice (some ⟨w.heap.size, 0, none⟩) n n, .pointer (some ⟨g + 1, 0, none⟩)] (w.alloc (.cells xs 3)) fun x w' => x = .returned (.tuple #[]) ∧ ∃ v', Ws w0 w' X f a b c d e g v' (pre ++ encs l) := by
 subst hx hn
 have S2 := S.below (w' := w.alloc (.cells (zsN l).toArray 3)) ((Below.refl _ _).alloc n! _)
 refine (numbers_any g w.heap.size v pre _ l.length l.length l _ S2.2.1 rfl (Box.new w _ _) S.2.1.fresh.1 S.2.1.fresh.2 h10 hm hp rfl).mono ?_
 rintro e w' ⟨rfl, v', hg, hk, hb⟩
 exact ⟨rfl, v', S2.more hg hk hb⟩
theorem text_lenp {v : ByteArray} (h : v.size ≤ 100) : (NM.text (RM.bsz v)).length ≤ 200 := by
 unfold NM.text
 rw [List.length_append, RM.bsz_len]
 have := NM.enc_le v.size
 omega
theorem ints_lenp {l : List Int} (h : l.length ≤ 6) : (NM.ints (CM.nats l)).length ≤ 200 := by
 have h1 : (CM.nats l).length = l.length := by simp [CM.nats]
 unfold NM.ints
 rw [List.length_append]
 have := NM.enc_le (CM.nats l).length
 have := NM.body_le (CM.nats l)
 omega
theorem pwrite_0 (mi mt : Int) (mg : List Int) (mk mb : ByteArray) (aid atm : Int) (ams : List Int) (atp awh an : Int) (A : Option Addr) (c : Nat) (P : Option Addr) (q : Nat) (w : World) (r1 : RowIs w A c mg) (r3 : RowIs w P q ams) (hm : CM.may ⟨0, ⟨mi, mg, mt, mk, mb⟩, aid, atm, ams, atp, awh, an⟩) (hf : CmFit ⟨0, ⟨mi, mg, mt, mk, mb⟩, aid, atm, ams, atp, awh, an⟩) :
  Calls Tryz.prog 42 #[.agg #[.int .u8 0, .int .i64 mi, .slice A mg.length c, .int .i64 mt, .string mk, .string mb, .int .i64 aid, .int .i64 atm, .slice P ams.length q, .int .i64 atp, .int .i64 awh, .int .i64 an]] w fun e w' => e = .returned (.tuple #[.string ⟨(CM.wr ⟨0, ⟨mi, mg, mt, mk, mb⟩, aid, atm, ams, atp, awh, an⟩).toArray⟩, .int .i64 0]) ∧ Below w.heap.size w w' := by
 have CC := h! (fun W (hb : Below w.heap.size w W) => pcheck_any ⟨0, ⟨mi, mg, mt, mk, mb⟩, aid, atm, ams, atp, awh, an⟩ (.agg (ccells A c P q ⟨0, ⟨mi, mg, mt, mk, mb⟩, aid, atm, ams, atp, awh, an⟩)) W ⟨A, c, P, q, rfl, r1.below hb, r3.below hb⟩ hf)
 rw [if_pos hm] at CC
 unfold ccells at CC
 simp only at CC
 have le0 : (encs [0]).length ≤ 10 := encs_len [0]
 have hw : [] ++ encs [0] = CM.wr ⟨0, ⟨mi, mg, mt, mk, mb⟩, aid, atm, ams, atp, awh, an⟩ := by unfold CM.wr CM.bod; simp [List.append_assoc, encs]
 have HW := h! hw
 generalize CM.wr ⟨0, ⟨mi, mg, mt, mk, mb⟩, aid, atm, ams, atp, awh, an⟩ = T at HW ⊢
 have CF := h! (fun w => fields_any (show Fl 0 false false false false false true from .inl ⟨rfl, rfl, rfl, rfl, rfl, rfl, rfl⟩) w)
 have hb0 : Below w.heap.size w (w.alloc (.cells #[.int .u8 0, .int .i64 mi, .slice A mg.length c, .int .i64 mt, .string mk, .string mb, .int .i64 aid, .int .i64 atm, .slice P ams.length q, .int .i64 atp, .int .i64 awh, .int .i64 an] 91)) := b!
 have HB := h! hb0
 have R0 := h! (Box.new w 91 #[.int .u8 0, .int .i64 mi, .slice A mg.length c, .int .i64 mt, .string mk, .string mb, .int .i64 aid, .int .i64 atm, .slice P ams.length q, .int .i64 atp, .int .i64 awh, .int .i64 an])
 clear hb0 hw hm hf r1 r3
 go_enter Tryz.func42, Tryz.ntmps42
 go_wp2_with fail
 refine (CC.out _ HB.out).mono ?_
 rintro e w1 ⟨rfl, hb1⟩
 have R1 := h! (R0.out.below hb1 R0.out.lt)
 have HB1 := h! (bmore HB.out hb1 (by simp))
 have HLT := h! (Nat.lt_of_lt_of_le R0.out.lt hb1.size)
 clear hb1 R0 HB CC
 have cN := (gat_nil w1).cell 0
 have fN := (gat_nil w1).frozen 0
 simp at cN
 have hst : ∀ (a : Addr) (fn : Fn) (x y : Array Value) (w : World), (store a (.func fn x y)).run Tryz.prog w = stored Tryz.prog w a (.func fn x y) .plain := fun _ _ _ _ _ => run_store _ _ _ _ _ rfl
 go_upto_region 7 with (fail)
 clear cN fN hst
 have GN := h! (gat_new w1)
 unfold gval at GN
 have hb2 := gat_below w1 (.func (.func 66) #[] #[.pointer (some ⟨w1.heap.size, 0, none⟩)])
 replace R1 := h! (R1.out.below hb2 R1.out.lt)
 replace HB1 := h! (bmore HB1.out hb2 n!)
 clear hb2
 generalize (w1.alloc (.cells #[.slice none 0 0] 120)).alloc (.cells #[.func (.func 66) #[] #[.pointer (some ⟨w1.heap.size, 0, none⟩)]] 121) = w2 at GN R1 HB1 ⊢
 generalize w1.heap.size = g at GN HLT ⊢
 obtain ⟨c0, c1, c2, c3, c4, c5, c6, c7, c8, c9, c10, c11⟩ := box_cm R1.out
 clear c1 c2 c3 c4 c5 c6 c7 c8 c9 c10 c11
 go_wp2_with fail
 refine (CF.out _).mono ?_
 rintro e w3 ⟨rfl, hb3⟩
 have S := h! (ws_new (R1.out.below hb3 R1.out.lt) (show GatV w3 g (.slice none 0 0) [] from GN.out.below hb3) HLT.out (bmore HB1.out hb3 n!) false false false false false)
 clear hb3 GN R1 HB1 HLT CF c0
 go_upto_region 8 with (fail)
 generalize w3.alloc (.cells #[.bool false, .bool false, .bool false, .bool false, .bool false] 126) = w4 at S ⊢
 generalize w3.heap.size = f at S ⊢
 have HSS : Hid (∀ W v' pre', Ws w W #[.int .u8 0, .int .i64 mi, .slice A mg.length c, .int .i64 mt, .string mk, .string mb, .int .i64 aid, .int .i64 atm, .slice P ams.length q, .int .i64 atp, .int .i64 awh, .int .i64 an] f false false false false false g v' pre' → W.cell? ⟨g + 1, 0, none⟩ = some (.func (.func 66) #[] #[.pointer (some ⟨g, 0, none⟩)])) := h! (fun W v' pre' hW => by
  have := hW.2.1.2.1.cell 0
  simpa [gval] using this)
 obtain ⟨x0, x1, x2, x3, x4, x5, x6, x7, x8, x9, x10, x11⟩ := box_cm S.out.1
 obtain ⟨y0, y1, y2, y3, y4⟩ := box_mg S.out.2.2.1
 go_wp2_with fail
 clear x0 x1 x2 x3 x4 x5 x6 x7 x8 x9 x10 x11 y0 y1 y2 y3 y4
 refine (nums_lit S.out [0] _ _ rfl rfl (by simp) (by intro z hz; simp at hz; omega) (by simp only [List.length_append, List.length_nil]; omega)).mono ?_
 rintro e u0 ⟨rfl, v0, hS⟩
 replace S := h! hS
 clear hS
 obtain ⟨x0, x1, x2, x3, x4, x5, x6, x7, x8, x9, x10, x11⟩ := box_cm S.out.1
 obtain ⟨y0, y1, y2, y3, y4⟩ := box_mg S.out.2.2.1
 rw [HW.out] at S
 obtain ⟨b1, _, ho⟩ := S.out.2.1
 obtain ⟨A9, q9, rfl, _, _⟩ := own_slice ho
 have d1 := b1.cell 0
 simp at d1
 have hc := str_at (Rd.of_own ho) q9
 clear b1 ho x0 x1 x2 x3 x4 x5 x6 x7 x8 x9 x10 x11
 go_wp2_with fail
 go_ret2
 exact ⟨rfl, S.out.2.2.2.2⟩
end CP
end Go.Proofs.YteebeiaokfenmaaGreat
