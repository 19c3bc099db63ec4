/- Contracts of functions, L28: each as its theorem says. -/
import Derived.Test.YteebeiaokfenmaaGreatL26
set_option linter.unusedVariables false
set_option linter.unusedSimpArgs false
set_option maxRecDepth 100000
set_option maxHeartbeats 16000000
namespace Go.Proofs.YteebeiaokfenmaaGreat
namespace CP
open Go.RowKit
open CM (Mg Cm)
theorem parse_2_0 (v : Value) (l : List UInt8) (w : World) (h : BsIs w w.heap.size v l) (r0 : List UInt8) (hk : nums 1 l = some ([2], r0)) (hq0 : nums 2 r0 = none) (ho : CM.parse l = none) :
  Calls Tryz.prog 113 #[v] w (ParseIs (CM.parse l) w) := by
 have HX := h! (Box.new w 91 #[.int .u8 0, .int .i64 0, .slice none 0 0, .int .i64 0, .string ⟨#[]⟩, .string ⟨#[]⟩, .int .i64 0, .int .i64 0, .slice none 0 0, .int .i64 0, .int .i64 0, .int .i64 0])
 have hb0 : Below w.heap.size w (w.alloc (.cells #[.int .u8 0, .int .i64 0, .slice none 0 0, .int .i64 0, .string ⟨#[]⟩, .string ⟨#[]⟩, .int .i64 0, .int .i64 0, .slice none 0 0, .int .i64 0, .int .i64 0, .int .i64 0] 91)) := b!
 have HV := h! (h.below hb0)
 have HB := h! hb0
 clear h hb0
 have HO := h! ho
 have HK := h! hk
 have HQ0 := h! hq0
 clear ho hk hq0
 generalize CM.parse l = oo at HO ⊢
 go_enter Tryz.func113, Tryz.ntmps113
 go_upto_region 1 with (fail)
 generalize w.alloc (.cells #[.int .u8 0, .int .i64 0, .slice none 0 0, .int .i64 0, .string ⟨#[]⟩, .string ⟨#[]⟩, .int .i64 0, .int .i64 0, .slice none 0 0, .int .i64 0, .int .i64 0, .int .i64 0] 91) = w1 at HX HV HB ⊢
 have HW := h! (Nat.le_of_lt HX.out.lt)
 go_wp2_with fail
 refine (nums_yes HK.out HW.out HV.out (by omega) (by omega)).mono ?_
 rintro e w2 ⟨bl, dd, v0, rfl, hrow, hv, hb⟩
 have y0 := hrow.2.2 0 _ rfl
 simp at y0
 have HX2 := h! (HX.out.below hb HX.out.lt)
 have HB2 := h! (bmore HB.out hb n!)
 clear HX HB HW HV HK
 have HV2 := h! hv
 clear hb hrow hv
 go_upto_region 5 with (fail)
 clear y0
 have S := h! (pa_new HX2.out HB2.out #[.int .u8 2, .int .i64 0, .slice none 0 0, .int .i64 0, .string ⟨#[]⟩, .string ⟨#[]⟩, .int .i64 0, .int .i64 0, .slice none 0 0, .int .i64 0, .int .i64 0, .int .i64 0])
 have HV := h! (HV2.out.below (show Below w2.heap.size w2 (w2.alloc (.cells #[.int .u8 2, .int .i64 0, .slice none 0 0, .int .i64 0, .string ⟨#[]⟩, .string ⟨#[]⟩, .int .i64 0, .int .i64 0, .slice none 0 0, .int .i64 0, .int .i64 0, .int .i64 0] 91)) from (Below.refl _ _).alloc n! _))
 generalize w2.alloc (.cells #[.int .u8 2, .int .i64 0, .slice none 0 0, .int .i64 0, .string ⟨#[]⟩, .string ⟨#[]⟩, .int .i64 0, .int .i64 0, .slice none 0 0, .int .i64 0, .int .i64 0, .int .i64 0] 91) = w4 at S HV ⊢
 generalize w2.heap.size = g at S ⊢
 have HW := h! (show w.heap.size ≤ w4.heap.size from Nat.le_of_lt S.out.1.lt)
 clear HX2 HB2 HV2
 have c0 := S.out.2.1.cell 0
 simp at c0
 go_upto_region 21 with (fail)
 clear c0
 go_wp2_with fail
 refine (nums_no HQ0.out HW.out HV.out (by omega) (by omega)).mono ?_
 rintro e w5 ⟨rfl, hb⟩
 replace S := h! (S.out.below hb)
 clear hb HV HW
 obtain ⟨c0, c1, c2, c3, c4, c5, c6, c7, c8, c9, c10, c11⟩ := box_cm S.out.2.1
 obtain ⟨d0, d1, d2, d3, d4, d5, d6, d7, d8, d9, d10, d11⟩ := box_cm S.out.1
 have g0 := S.out.1.frozen 0
 have g1 := S.out.1.frozen 1
 have g2 := S.out.1.frozen 2
 have g3 := S.out.1.frozen 3
 have g4 := S.out.1.frozen 4
 have g5 := S.out.1.frozen 5
 have g6 := S.out.1.frozen 6
 have g7 := S.out.1.frozen 7
 have g8 := S.out.1.frozen 8
 have g9 := S.out.1.frozen 9
 have g10 := S.out.1.frozen 10
 have g11 := S.out.1.frozen 11
 have HBF := h! S.out.2.2.2
 clear S
 go_wp2_with fail
 refine bodyPost_ret (v := .tuple #[.agg #[.int .u8 2, .int .i64 0, .slice none 0 0, .int .i64 0, .string ⟨#[]⟩, .string ⟨#[]⟩, .int .i64 0, .int .i64 0, .slice none 0 0, .int .i64 0, .int .i64 0, .int .i64 0], .slice none 0 0, .bool false]) (by simp [results, Tryz.results113, go_sem, d0, d1, d2, d3, d4, d5, d6, d7, d8, d9, d10, d11]; try rfl) rfl ?_
 exact ⟨put12_below HBF.out n! (.int .u8 2) (.int .i64 0) (.slice none 0 0) (.int .i64 0) (.string ⟨#[]⟩) (.string ⟨#[]⟩) (.int .i64 0) (.int .i64 0) (.slice none 0 0) (.int .i64 0) (.int .i64 0) (.int .i64 0), .inl ⟨HO.out, none, 0, none, 0, (⟨2, ⟨0, [], 0, .empty, .empty⟩, 0, 0, [], 0, 0, 0⟩ : Cm), _, rfl⟩⟩
theorem parse_2_ok (v : Value) (l : List UInt8) (w : World) (h : BsIs w w.heap.size v l) (r0 : List UInt8) (hk : nums 1 l = some ([2], r0)) {n0 n1 : Nat} {r1 : List UInt8} (hq0 : nums 2 r0 = some ([n0, n1], r1)) (ho : CM.parse l = some ((⟨2, CM.mz, (n0 : Nat), (n1 : Nat), [], 0, 0, 0⟩ : Cm), r1)) (hfit : CmFit (⟨2, CM.mz, (n0 : Nat), (n1 : Nat), [], 0, 0, 0⟩ : Cm)) :
  Calls Tryz.prog 113 #[v] w (ParseIs (CM.parse l) w) := by
 have HX := h! (Box.new w 91 #[.int .u8 0, .int .i64 0, .slice none 0 0, .int .i64 0, .string ⟨#[]⟩, .string ⟨#[]⟩, .int .i64 0, .int .i64 0, .slice none 0 0, .int .i64 0, .int .i64 0, .int .i64 0])
 have hb0 : Below w.heap.size w (w.alloc (.cells #[.int .u8 0, .int .i64 0, .slice none 0 0, .int .i64 0, .string ⟨#[]⟩, .string ⟨#[]⟩, .int .i64 0, .int .i64 0, .slice none 0 0, .int .i64 0, .int .i64 0, .int .i64 0] 91)) := b!
 have HV := h! (h.below hb0)
 have HB := h! hb0
 clear h hb0
 have HO := h! ho
 have HFIT := h! hfit
 have HK := h! hk
 have HQ0 := h! hq0
 clear ho hk hfit hq0
 generalize CM.parse l = oo at HO ⊢
 go_enter Tryz.func113, Tryz.ntmps113
 go_upto_region 1 with (fail)
 generalize w.alloc (.cells #[.int .u8 0, .int .i64 0, .slice none 0 0, .int .i64 0, .string ⟨#[]⟩, .string ⟨#[]⟩, .int .i64 0, .int .i64 0, .slice none 0 0, .int .i64 0, .int .i64 0, .int .i64 0] 91) = w1 at HX HV HB ⊢
 have HW := h! (Nat.le_of_lt HX.out.lt)
 go_wp2_with fail
 refine (nums_yes HK.out HW.out HV.out (by omega) (by omega)).mono ?_
 rintro e w2 ⟨bl, dd, v0, rfl, hrow, hv, hb⟩
 have y0 := hrow.2.2 0 _ rfl
 simp at y0
 have HX2 := h! (HX.out.below hb HX.out.lt)
 have HB2 := h! (bmore HB.out hb n!)
 clear HX HB HW HV HK
 have HV2 := h! hv
 clear hb hrow hv
 go_upto_region 5 with (fail)
 clear y0
 have S := h! (pa_new HX2.out HB2.out #[.int .u8 2, .int .i64 0, .slice none 0 0, .int .i64 0, .string ⟨#[]⟩, .string ⟨#[]⟩, .int .i64 0, .int .i64 0, .slice none 0 0, .int .i64 0, .int .i64 0, .int .i64 0])
 have HV := h! (HV2.out.below (show Below w2.heap.size w2 (w2.alloc (.cells #[.int .u8 2, .int .i64 0, .slice none 0 0, .int .i64 0, .string ⟨#[]⟩, .string ⟨#[]⟩, .int .i64 0, .int .i64 0, .slice none 0 0, .int .i64 0, .int .i64 0, .int .i64 0] 91)) from (Below.refl _ _).alloc n! _))
 generalize w2.alloc (.cells #[.int .u8 2, .int .i64 0, .slice none 0 0, .int .i64 0, .string ⟨#[]⟩, .string ⟨#[]⟩, .int .i64 0, .int .i64 0, .slice none 0 0, .int .i64 0, .int .i64 0, .int .i64 0] 91) = w4 at S HV ⊢
 generalize w2.heap.size = g at S ⊢
 have HW := h! (show w.heap.size ≤ w4.heap.size from Nat.le_of_lt S.out.1.lt)
 clear HX2 HB2 HV2
 have c0 := S.out.2.1.cell 0
 simp at c0
 go_upto_region 21 with (fail)
 clear c0
 go_wp2_with fail
 refine (nums_yes HQ0.out HW.out HV.out (by omega) (by omega)).mono ?_
 rintro e w5 ⟨bl, d0, v1, rfl, hrow, hv, hb⟩
 have HG := h! S.out.2.1.lt
 replace S := h! (S.out.below hb)
 have RN := h! hrow
 replace HV := h! hv
 replace HW := h! (Nat.le_trans HW.out hb.size)
 skip
 clear hb hrow hv
 go_upto_region 23 with (fail)
 have y0 := RN.out.2.2 0 _ rfl
 have c6 := S.out.2.1.cell 6
 have f6 := S.out.2.1.frozen 6
 simp at c6
 go_upto_region 24 with (fail)
 clear y0 c6 f6
 replace S := h! (show Pa w _ g #[.int .u8 2, .int .i64 0, .slice none 0 0, .int .i64 0, .string ⟨#[]⟩, .string ⟨#[]⟩, .int .i64 (n0 : Nat), .int .i64 0, .slice none 0 0, .int .i64 0, .int .i64 0, .int .i64 0] from S.out.put 6 (.int .i64 (n0 : Nat)))
 replace RN := h! (RN.out.set HG.out (i := 6) (.int .i64 (n0 : Nat)))
 replace HV := h! (HV.out.set (show w.heap.size ≤ g from Nat.le_of_lt S.out.2.2.1) (i := 6) (.int .i64 (n0 : Nat)))
 replace HW := h! (Nat.le_of_lt S.out.1.lt)
 skip
 generalize World.setCell _ ⟨g, 6, none⟩ _ = wz at S RN HV HW ⊢
 go_upto_region 24 with (fail)
 have y1 := RN.out.2.2 1 _ rfl
 have c7 := S.out.2.1.cell 7
 have f7 := S.out.2.1.frozen 7
 simp at c7
 go_upto_region 41 with (fail)
 clear y1 c7 f7
 replace S := h! (show Pa w _ g #[.int .u8 2, .int .i64 0, .slice none 0 0, .int .i64 0, .string ⟨#[]⟩, .string ⟨#[]⟩, .int .i64 (n0 : Nat), .int .i64 (n1 : Nat), .slice none 0 0, .int .i64 0, .int .i64 0, .int .i64 0] from S.out.put 7 (.int .i64 (n1 : Nat)))
 replace RN := h! (RN.out.set HG.out (i := 7) (.int .i64 (n1 : Nat)))
 replace HV := h! (HV.out.set (show w.heap.size ≤ g from Nat.le_of_lt S.out.2.2.1) (i := 7) (.int .i64 (n1 : Nat)))
 replace HW := h! (Nat.le_of_lt S.out.1.lt)
 skip
 generalize World.setCell _ ⟨g, 7, none⟩ _ = wz at S RN HV HW ⊢
 clear RN HG
 obtain ⟨c0, c1, c2, c3, c4, c5, c6, c7, c8, c9, c10, c11⟩ := box_cm S.out.2.1
 obtain ⟨d0, d1, d2, d3, d4, d5, d6, d7, d8, d9, d10, d11⟩ := box_cm S.out.1
 have g0 := S.out.1.frozen 0
 have g1 := S.out.1.frozen 1
 have g2 := S.out.1.frozen 2
 have g3 := S.out.1.frozen 3
 have g4 := S.out.1.frozen 4
 have g5 := S.out.1.frozen 5
 have g6 := S.out.1.frozen 6
 have g7 := S.out.1.frozen 7
 have g8 := S.out.1.frozen 8
 have g9 := S.out.1.frozen 9
 have g10 := S.out.1.frozen 10
 have g11 := S.out.1.frozen 11
 have HBF := h! S.out.2.2.2
 have HP := h! S.out.2.2.1
 clear S
 go_wp2_with fail
 refine bodyPost_ret (v := .tuple #[.agg #[.int .u8 2, .int .i64 0, .slice none 0 0, .int .i64 0, .string ⟨#[]⟩, .string ⟨#[]⟩, .int .i64 (n0 : Nat), .int .i64 (n1 : Nat), .slice none 0 0, .int .i64 0, .int .i64 0, .int .i64 0], v1, .bool true]) (by simp [results, Tryz.results113, go_sem, d0, d1, d2, d3, d4, d5, d6, d7, d8, d9, d10, d11]; try rfl) rfl ?_
 exact ⟨put12_below HBF.out n! (.int .u8 2) (.int .i64 0) (.slice none 0 0) (.int .i64 0) (.string ⟨#[]⟩) (.string ⟨#[]⟩) (.int .i64 (n0 : Nat)) (.int .i64 (n1 : Nat)) (.slice none 0 0) (.int .i64 0) (.int .i64 0) (.int .i64 0), .inr ⟨(⟨2, CM.mz, (n0 : Nat), (n1 : Nat), [], 0, 0, 0⟩ : Cm), r1, _, _, HO.out, rfl, ⟨none, 0, none, 0, rfl, RowGe.none _ _, RowGe.none _ _⟩, HFIT.out, HV.out.put12 n! (.int .u8 2) (.int .i64 0) (.slice none 0 0) (.int .i64 0) (.string ⟨#[]⟩) (.string ⟨#[]⟩) (.int .i64 (n0 : Nat)) (.int .i64 (n1 : Nat)) (.slice none 0 0) (.int .i64 0) (.int .i64 0) (.int .i64 0)⟩⟩
theorem parse_3_0 (v : Value) (l : List UInt8) (w : World) (h : BsIs w w.heap.size v l) (r0 : List UInt8) (hk : nums 1 l = some ([3], r0)) (hq0 : CM.lst 6 r0 = none) (ho : CM.parse l = none) :
  Calls Tryz.prog 113 #[v] w (ParseIs (CM.parse l) w) := by
 have HX := h! (Box.new w 91 #[.int .u8 0, .int .i64 0, .slice none 0 0, .int .i64 0, .string ⟨#[]⟩, .string ⟨#[]⟩, .int .i64 0, .int .i64 0, .slice none 0 0, .int .i64 0, .int .i64 0, .int .i64 0])
 have hb0 : Below w.heap.size w (w.alloc (.cells #[.int .u8 0, .int .i64 0, .slice none 0 0, .int .i64 0, .string ⟨#[]⟩, .string ⟨#[]⟩, .int .i64 0, .int .i64 0, .slice none 0 0, .int .i64 0, .int .i64 0, .int .i64 0] 91)) := b!
 have HV := h! (h.below hb0)
 have HB := h! hb0
 clear h hb0
 have HO := h! ho
 have HK := h! hk
 have HQ0 := h! hq0
 clear ho hk hq0
 generalize CM.parse l = oo at HO ⊢
 go_enter Tryz.func113, Tryz.ntmps113
 go_upto_region 1 with (fail)
 generalize w.alloc (.cells #[.int .u8 0, .int .i64 0, .slice none 0 0, .int .i64 0, .string ⟨#[]⟩, .string ⟨#[]⟩, .int .i64 0, .int .i64 0, .slice none 0 0, .int .i64 0, .int .i64 0, .int .i64 0] 91) = w1 at HX HV HB ⊢
 have HW := h! (Nat.le_of_lt HX.out.lt)
 go_wp2_with fail
 refine (nums_yes HK.out HW.out HV.out (by omega) (by omega)).mono ?_
 rintro e w2 ⟨bl, dd, v0, rfl, hrow, hv, hb⟩
 have y0 := hrow.2.2 0 _ rfl
 simp at y0
 have HX2 := h! (HX.out.below hb HX.out.lt)
 have HB2 := h! (bmore HB.out hb n!)
 clear HX HB HW HV HK
 have HV2 := h! hv
 clear hb hrow hv
 go_upto_region 5 with (fail)
 clear y0
 have S := h! (pa_new HX2.out HB2.out #[.int .u8 3, .int .i64 0, .slice none 0 0, .int .i64 0, .string ⟨#[]⟩, .string ⟨#[]⟩, .int .i64 0, .int .i64 0, .slice none 0 0, .int .i64 0, .int .i64 0, .int .i64 0])
 have HV := h! (HV2.out.below (show Below w2.heap.size w2 (w2.alloc (.cells #[.int .u8 3, .int .i64 0, .slice none 0 0, .int .i64 0, .string ⟨#[]⟩, .string ⟨#[]⟩, .int .i64 0, .int .i64 0, .slice none 0 0, .int .i64 0, .int .i64 0, .int .i64 0] 91)) from (Below.refl _ _).alloc n! _))
 generalize w2.alloc (.cells #[.int .u8 3, .int .i64 0, .slice none 0 0, .int .i64 0, .string ⟨#[]⟩, .string ⟨#[]⟩, .int .i64 0, .int .i64 0, .slice none 0 0, .int .i64 0, .int .i64 0, .int .i64 0] 91) = w4 at S HV ⊢
 generalize w2.heap.size = g at S ⊢
 have HW := h! (show w.heap.size ≤ w4.heap.size from Nat.le_of_lt S.out.1.lt)
 clear HX2 HB2 HV2
 have c0 := S.out.2.1.cell 0
 simp at c0
 go_upto_region 26 with (fail)
 clear c0
 go_wp2_with fail
 refine (list_no HQ0.out HV.out (by omega)).mono ?_
 rintro e w5 ⟨rfl, hb⟩
 replace S := h! (S.out.below hb)
 clear hb HV HW
 have c8 := S.out.2.1.cell 8
 have f8 := S.out.2.1.frozen 8
 simp at c8
 go_upto_region 41 with (fail)
 clear c8 f8
 replace S := h! (show Pa w _ g #[.int .u8 3, .int .i64 0, .slice none 0 0, .int .i64 0, .string ⟨#[]⟩, .string ⟨#[]⟩, .int .i64 0, .int .i64 0, .slice none 0 0, .int .i64 0, .int .i64 0, .int .i64 0] from S.out.put 8 (.slice none 0 0))
 generalize World.setCell _ ⟨g, 8, none⟩ _ = wz at S ⊢
 obtain ⟨c0, c1, c2, c3, c4, c5, c6, c7, c8, c9, c10, c11⟩ := box_cm S.out.2.1
 obtain ⟨d0, d1, d2, d3, d4, d5, d6, d7, d8, d9, d10, d11⟩ := box_cm S.out.1
 have g0 := S.out.1.frozen 0
 have g1 := S.out.1.frozen 1
 have g2 := S.out.1.frozen 2
 have g3 := S.out.1.frozen 3
 have g4 := S.out.1.frozen 4
 have g5 := S.out.1.frozen 5
 have g6 := S.out.1.frozen 6
 have g7 := S.out.1.frozen 7
 have g8 := S.out.1.frozen 8
 have g9 := S.out.1.frozen 9
 have g10 := S.out.1.frozen 10
 have g11 := S.out.1.frozen 11
 have HBF := h! S.out.2.2.2
 clear S
 go_wp2_with fail
 refine bodyPost_ret (v := .tuple #[.agg #[.int .u8 3, .int .i64 0, .slice none 0 0, .int .i64 0, .string ⟨#[]⟩, .string ⟨#[]⟩, .int .i64 0, .int .i64 0, .slice none 0 0, .int .i64 0, .int .i64 0, .int .i64 0], .slice none 0 0, .bool false]) (by simp [results, Tryz.results113, go_sem, d0, d1, d2, d3, d4, d5, d6, d7, d8, d9, d10, d11]; try rfl) rfl ?_
 exact ⟨put12_below HBF.out n! (.int .u8 3) (.int .i64 0) (.slice none 0 0) (.int .i64 0) (.string ⟨#[]⟩) (.string ⟨#[]⟩) (.int .i64 0) (.int .i64 0) (.slice none 0 0) (.int .i64 0) (.int .i64 0) (.int .i64 0), .inl ⟨HO.out, none, 0, none, 0, (⟨3, ⟨0, [], 0, .empty, .empty⟩, 0, 0, [], 0, 0, 0⟩ : Cm), _, rfl⟩⟩
theorem parse_3_ok (v : Value) (l : List UInt8) (w : World) (h : BsIs w w.heap.size v l) (r0 : List UInt8) (hk : nums 1 l = some ([3], r0)) {xs : List Nat} {r1 : List UInt8} (hq0 : CM.lst 6 r0 = some (xs, r1)) (ho : CM.parse l = some ((⟨3, CM.mz, 0, 0, CM.zs xs, 0, 0, 0⟩ : Cm), r1)) (hfit : CmFit (⟨3, CM.mz, 0, 0, CM.zs xs, 0, 0, 0⟩ : Cm)) :
  Calls Tryz.prog 113 #[v] w (ParseIs (CM.parse l) w) := by
 have HX := h! (Box.new w 91 #[.int .u8 0, .int .i64 0, .slice none 0 0, .int .i64 0, .string ⟨#[]⟩, .string ⟨#[]⟩, .int .i64 0, .int .i64 0, .slice none 0 0, .int .i64 0, .int .i64 0, .int .i64 0])
 have hb0 : Below w.heap.size w (w.alloc (.cells #[.int .u8 0, .int .i64 0, .slice none 0 0, .int .i64 0, .string ⟨#[]⟩, .string ⟨#[]⟩, .int .i64 0, .int .i64 0, .slice none 0 0, .int .i64 0, .int .i64 0, .int .i64 0] 91)) := b!
 have HV := h! (h.below hb0)
 have HB := h! hb0
 clear h hb0
 have HO := h! ho
 have HFIT := h! hfit
 have HK := h! hk
 have HQ0 := h! hq0
 clear ho hk hfit hq0
 generalize CM.parse l = oo at HO ⊢
 go_enter Tryz.func113, Tryz.ntmps113
 go_upto_region 1 with (fail)
 generalize w.alloc (.cells #[.int .u8 0, .int .i64 0, .slice none 0 0, .int .i64 0, .string ⟨#[]⟩, .string ⟨#[]⟩, .int .i64 0, .int .i64 0, .slice none 0 0, .int .i64 0, .int .i64 0, .int .i64 0] 91) = w1 at HX HV HB ⊢
 have HW := h! (Nat.le_of_lt HX.out.lt)
 go_wp2_with fail
 refine (nums_yes HK.out HW.out HV.out (by omega) (by omega)).mono ?_
 rintro e w2 ⟨bl, dd, v0, rfl, hrow, hv, hb⟩
 have y0 := hrow.2.2 0 _ rfl
 simp at y0
 have HX2 := h! (HX.out.below hb HX.out.lt)
 have HB2 := h! (bmore HB.out hb n!)
 clear HX HB HW HV HK
 have HV2 := h! hv
 clear hb hrow hv
 go_upto_region 5 with (fail)
 clear y0
 have S := h! (pa_new HX2.out HB2.out #[.int .u8 3, .int .i64 0, .slice none 0 0, .int .i64 0, .string ⟨#[]⟩, .string ⟨#[]⟩, .int .i64 0, .int .i64 0, .slice none 0 0, .int .i64 0, .int .i64 0, .int .i64 0])
 have HV := h! (HV2.out.below (show Below w2.heap.size w2 (w2.alloc (.cells #[.int .u8 3, .int .i64 0, .slice none 0 0, .int .i64 0, .string ⟨#[]⟩, .string ⟨#[]⟩, .int .i64 0, .int .i64 0, .slice none 0 0, .int .i64 0, .int .i64 0, .int .i64 0] 91)) from (Below.refl _ _).alloc n! _))
 generalize w2.alloc (.cells #[.int .u8 3, .int .i64 0, .slice none 0 0, .int .i64 0, .string ⟨#[]⟩, .string ⟨#[]⟩, .int .i64 0, .int .i64 0, .slice none 0 0, .int .i64 0, .int .i64 0, .int .i64 0] 91) = w4 at S HV ⊢
 generalize w2.heap.size = g at S ⊢
 have HW := h! (show w.heap.size ≤ w4.heap.size from Nat.le_of_lt S.out.1.lt)
 clear HX2 HB2 HV2
 have c0 := S.out.2.1.cell 0
 simp at c0
 go_upto_region 26 with (fail)
 clear c0
 go_wp2_with fail
 refine (list_yes HQ0.out HV.out (by omega)).mono ?_
 rintro e w5 ⟨B, d, v1, rfl, hrow, hv, hb⟩
 have RG := h! S.out.2.1.lt
 replace S := h! (S.out.below hb)
 have RW := h! hrow
 replace HV := h! hv
 clear hb hrow hv
 have c8 := S.out.2.1.cell 8
 have f8 := S.out.2.1.frozen 8
 simp at c8
 go_upto_region 41 with (fail)
 clear c8 f8
 replace S := h! (show Pa w _ g #[.int .u8 3, .int .i64 0, .slice none 0 0, .int .i64 0, .string ⟨#[]⟩, .string ⟨#[]⟩, .int .i64 0, .int .i64 0, .slice B (CM.zs xs).length d, .int .i64 0, .int .i64 0, .int .i64 0] from S.out.put 8 (.slice B (CM.zs xs).length d))
 replace HV := h! (HV.out.set (show w.heap.size ≤ g from Nat.le_of_lt S.out.2.2.1) (i := 8) (.slice B (CM.zs xs).length d))
 replace RW := h! (RW.out.set RG.out (i := 8) (.slice B (CM.zs xs).length d))
 replace HW := h! (Nat.le_of_lt S.out.1.lt)
 generalize World.setCell _ ⟨g, 8, none⟩ _ = wz at S RW HV HW ⊢
 obtain ⟨c0, c1, c2, c3, c4, c5, c6, c7, c8, c9, c10, c11⟩ := box_cm S.out.2.1
 obtain ⟨d0, d1, d2, d3, d4, d5, d6, d7, d8, d9, d10, d11⟩ := box_cm S.out.1
 have g0 := S.out.1.frozen 0
 have g1 := S.out.1.frozen 1
 have g2 := S.out.1.frozen 2
 have g3 := S.out.1.frozen 3
 have g4 := S.out.1.frozen 4
 have g5 := S.out.1.frozen 5
 have g6 := S.out.1.frozen 6
 have g7 := S.out.1.frozen 7
 have g8 := S.out.1.frozen 8
 have g9 := S.out.1.frozen 9
 have g10 := S.out.1.frozen 10
 have g11 := S.out.1.frozen 11
 have HBF := h! S.out.2.2.2
 have HP := h! S.out.2.2.1
 clear S
 go_wp2_with fail
 refine bodyPost_ret (v := .tuple #[.agg #[.int .u8 3, .int .i64 0, .slice none 0 0, .int .i64 0, .string ⟨#[]⟩, .string ⟨#[]⟩, .int .i64 0, .int .i64 0, .slice B (CM.zs xs).length d, .int .i64 0, .int .i64 0, .int .i64 0], v1, .bool true]) (by simp [results, Tryz.results113, go_sem, d0, d1, d2, d3, d4, d5, d6, d7, d8, d9, d10, d11]; try rfl) rfl ?_
 exact ⟨put12_below HBF.out n! (.int .u8 3) (.int .i64 0) (.slice none 0 0) (.int .i64 0) (.string ⟨#[]⟩) (.string ⟨#[]⟩) (.int .i64 0) (.int .i64 0) (.slice B (CM.zs xs).length d) (.int .i64 0) (.int .i64 0) (.int .i64 0), .inr ⟨(⟨3, CM.mz, 0, 0, CM.zs xs, 0, 0, 0⟩ : Cm), r1, _, _, HO.out, rfl, ⟨none, 0, B, d, rfl, RowGe.none _ _, (RW.out.put12p (Nat.lt_trans HP.out RG.out) (.int .u8 3) (.int .i64 0) (.slice none 0 0) (.int .i64 0) (.string ⟨#[]⟩) (.string ⟨#[]⟩) (.int .i64 0) (.int .i64 0) (.slice B (CM.zs xs).length d) (.int .i64 0) (.int .i64 0) (.int .i64 0)).mono (Nat.le_of_lt (Nat.lt_trans HP.out RG.out))⟩, HFIT.out, HV.out.put12 n! (.int .u8 3) (.int .i64 0) (.slice none 0 0) (.int .i64 0) (.string ⟨#[]⟩) (.string ⟨#[]⟩) (.int .i64 0) (.int .i64 0) (.slice B (CM.zs xs).length d) (.int .i64 0) (.int .i64 0) (.int .i64 0)⟩⟩
theorem parse_4_0 (v : Value) (l : List UInt8) (w : World) (h : BsIs w w.heap.size v l) (r0 : List UInt8) (hk : nums 1 l = some ([4], r0)) (hq0 : nums 4 r0 = none) (ho : CM.parse l = none) :
  Calls Tryz.prog 113 #[v] w (ParseIs (CM.parse l) w) := by
 have HX := h! (Box.new w 91 #[.int .u8 0, .int .i64 0, .slice none 0 0, .int .i64 0, .string ⟨#[]⟩, .string ⟨#[]⟩, .int .i64 0, .int .i64 0, .slice none 0 0, .int .i64 0, .int .i64 0, .int .i64 0])
 have hb0 : Below w.heap.size w (w.alloc (.cells #[.int .u8 0, .int .i64 0, .slice none 0 0, .int .i64 0, .string ⟨#[]⟩, .string ⟨#[]⟩, .int .i64 0, .int .i64 0, .slice none 0 0, .int .i64 0, .int .i64 0, .int .i64 0] 91)) := b!
 have HV := h! (h.below hb0)
 have HB := h! hb0
 clear h hb0
 have HO := h! ho
 have HK := h! hk
 have HQ0 := h! hq0
 clear ho hk hq0
 generalize CM.parse l = oo at HO ⊢
 go_enter Tryz.func113, Tryz.ntmps113
 go_upto_region 1 with (fail)
 generalize w.alloc (.cells #[.int .u8 0, .int .i64 0, .slice none 0 0, .int .i64 0, .string ⟨#[]⟩, .string ⟨#[]⟩, .int .i64 0, .int .i64 0, .slice none 0 0, .int .i64 0, .int .i64 0, .int .i64 0] 91) = w1 at HX HV HB ⊢
 have HW := h! (Nat.le_of_lt HX.out.lt)
 go_wp2_with fail
 refine (nums_yes HK.out HW.out HV.out (by omega) (by omega)).mono ?_
 rintro e w2 ⟨bl, dd, v0, rfl, hrow, hv, hb⟩
 have y0 := hrow.2.2 0 _ rfl
 simp at y0
 have HX2 := h! (HX.out.below hb HX.out.lt)
 have HB2 := h! (bmore HB.out hb n!)
 clear HX HB HW HV HK
 have HV2 := h! hv
 clear hb hrow hv
 go_upto_region 5 with (fail)
 clear y0
 have S := h! (pa_new HX2.out HB2.out #[.int .u8 4, .int .i64 0, .slice none 0 0, .int .i64 0, .string ⟨#[]⟩, .string ⟨#[]⟩, .int .i64 0, .int .i64 0, .slice none 0 0, .int .i64 0, .int .i64 0, .int .i64 0])
 have HV := h! (HV2.out.below (show Below w2.heap.size w2 (w2.alloc (.cells #[.int .u8 4, .int .i64 0, .slice none 0 0, .int .i64 0, .string ⟨#[]⟩, .string ⟨#[]⟩, .int .i64 0, .int .i64 0, .slice none 0 0, .int .i64 0, .int .i64 0, .int .i64 0] 91)) from (Below.refl _ _).alloc n! _))
 generalize w2.alloc (.cells #[.int .u8 4, .int .i64 0, .slice none 0 0, .int .i64 0, .string ⟨#[]⟩, .string ⟨#[]⟩, .int .i64 0, .int .i64 0, .slice none 0 0, .int .i64 0, .int .i64 0, .int .i64 0] 91) = w4 at S HV ⊢
 generalize w2.heap.size = g at S ⊢
 have HW := h! (show w.heap.size ≤ w4.heap.size from Nat.le_of_lt S.out.1.lt)
 clear HX2 HB2 HV2
 have c0 := S.out.2.1.cell 0
 simp at c0
 go_upto_region 28 with (fail)
 clear c0
 go_wp2_with fail
 refine (nums_no HQ0.out HW.out HV.out (by omega) (by omega)).mono ?_
 rintro e w5 ⟨rfl, hb⟩
 replace S := h! (S.out.below hb)
 clear hb HV HW
 obtain ⟨c0, c1, c2, c3, c4, c5, c6, c7, c8, c9, c10, c11⟩ := box_cm S.out.2.1
 obtain ⟨d0, d1, d2, d3, d4, d5, d6, d7, d8, d9, d10, d11⟩ := box_cm S.out.1
 have g0 := S.out.1.frozen 0
 have g1 := S.out.1.frozen 1
 have g2 := S.out.1.frozen 2
 have g3 := S.out.1.frozen 3
 have g4 := S.out.1.frozen 4
 have g5 := S.out.1.frozen 5
 have g6 := S.out.1.frozen 6
 have g7 := S.out.1.frozen 7
 have g8 := S.out.1.frozen 8
 have g9 := S.out.1.frozen 9
 have g10 := S.out.1.frozen 10
 have g11 := S.out.1.frozen 11
 have HBF := h! S.out.2.2.2
 clear S
 go_wp2_with fail
 refine bodyPost_ret (v := .tuple #[.agg #[.int .u8 4, .int .i64 0, .slice none 0 0, .int .i64 0, .string ⟨#[]⟩, .string ⟨#[]⟩, .int .i64 0, .int .i64 0, .slice none 0 0, .int .i64 0, .int .i64 0, .int .i64 0], .slice none 0 0, .bool false]) (by simp [results, Tryz.results113, go_sem, d0, d1, d2, d3, d4, d5, d6, d7, d8, d9, d10, d11]; try rfl) rfl ?_
 exact ⟨put12_below HBF.out n! (.int .u8 4) (.int .i64 0) (.slice none 0 0) (.int .i64 0) (.string ⟨#[]⟩) (.string ⟨#[]⟩) (.int .i64 0) (.int .i64 0) (.slice none 0 0) (.int .i64 0) (.int .i64 0) (.int .i64 0), .inl ⟨HO.out, none, 0, none, 0, (⟨4, ⟨0, [], 0, .empty, .empty⟩, 0, 0, [], 0, 0, 0⟩ : Cm), _, rfl⟩⟩
theorem parse_4_ok (v : Value) (l : List UInt8) (w : World) (h : BsIs w w.heap.size v l) (r0 : List UInt8) (hk : nums 1 l = some ([4], r0)) {n0 n1 n2 n3 : Nat} {r1 : List UInt8} (hq0 : nums 4 r0 = some ([n0, n1, n2, n3], r1)) (ho : CM.parse l = some ((⟨4, CM.mz, (n0 : Nat), 0, [], (n1 : Nat), (n2 : Nat), (n3 : Nat)⟩ : Cm), r1)) (hfit : CmFit (⟨4, CM.mz, (n0 : Nat), 0, [], (n1 : Nat), (n2 : Nat), (n3 : Nat)⟩ : Cm)) :
  Calls Tryz.prog 113 #[v] w (ParseIs (CM.parse l) w) := by
 have HX := h! (Box.new w 91 #[.int .u8 0, .int .i64 0, .slice none 0 0, .int .i64 0, .string ⟨#[]⟩, .string ⟨#[]⟩, .int .i64 0, .int .i64 0, .slice none 0 0, .int .i64 0, .int .i64 0, .int .i64 0])
 have hb0 : Below w.heap.size w (w.alloc (.cells #[.int .u8 0, .int .i64 0, .slice none 0 0, .int .i64 0, .string ⟨#[]⟩, .string ⟨#[]⟩, .int .i64 0, .int .i64 0, .slice none 0 0, .int .i64 0, .int .i64 0, .int .i64 0] 91)) := b!
 have HV := h! (h.below hb0)
 have HB := h! hb0
 clear h hb0
 have HO := h! ho
 have HFIT := h! hfit
 have HK := h! hk
 have HQ0 := h! hq0
 clear ho hk hfit hq0
 generalize CM.parse l = oo at HO ⊢
 go_enter Tryz.func113, Tryz.ntmps113
 go_upto_region 1 with (fail)
 generalize w.alloc (.cells #[.int .u8 0, .int .i64 0, .slice none 0 0, .int .i64 0, .string ⟨#[]⟩, .string ⟨#[]⟩, .int .i64 0, .int .i64 0, .slice none 0 0, .int .i64 0, .int .i64 0, .int .i64 0] 91) = w1 at HX HV HB ⊢
 have HW := h! (Nat.le_of_lt HX.out.lt)
 go_wp2_with fail
 refine (nums_yes HK.out HW.out HV.out (by omega) (by omega)).mono ?_
 rintro e w2 ⟨bl, dd, v0, rfl, hrow, hv, hb⟩
 have y0 := hrow.2.2 0 _ rfl
 simp at y0
 have HX2 := h! (HX.out.below hb HX.out.lt)
 have HB2 := h! (bmore HB.out hb n!)
 clear HX HB HW HV HK
 have HV2 := h! hv
 clear hb hrow hv
 go_upto_region 5 with (fail)
 clear y0
 have S := h! (pa_new HX2.out HB2.out #[.int .u8 4, .int .i64 0, .slice none 0 0, .int .i64 0, .string ⟨#[]⟩, .string ⟨#[]⟩, .int .i64 0, .int .i64 0, .slice none 0 0, .int .i64 0, .int .i64 0, .int .i64 0])
 have HV := h! (HV2.out.below (show Below w2.heap.size w2 (w2.alloc (.cells #[.int .u8 4, .int .i64 0, .slice none 0 0, .int .i64 0, .string ⟨#[]⟩, .string ⟨#[]⟩, .int .i64 0, .int .i64 0, .slice none 0 0, .int .i64 0, .int .i64 0, .int .i64 0] 91)) from (Below.refl _ _).alloc n! _))
 generalize w2.alloc (.cells #[.int .u8 4, .int .i64 0, .slice none 0 0, .int .i64 0, .string ⟨#[]⟩, .string ⟨#[]⟩, .int .i64 0, .int .i64 0, .slice none 0 0, .int .i64 0, .int .i64 0, .int .i64 0] 91) = w4 at S HV ⊢
 generalize w2.heap.size = g at S ⊢
 have HW := h! (show w.heap.size ≤ w4.heap.size from Nat.le_of_lt S.out.1.lt)
 clear HX2 HB2 HV2
 have c0 := S.out.2.1.cell 0
 simp at c0
 go_upto_region 28 with (fail)
 clear c0
 go_wp2_with fail
 refine (nums_yes HQ0.out HW.out HV.out (by omega) (by omega)).mono ?_
 rintro e w5 ⟨bl, d0, v1, rfl, hrow, hv, hb⟩
 have HG := h! S.out.2.1.lt
 replace S := h! (S.out.below hb)
 have RN := h! hrow
 replace HV := h! hv
 replace HW := h! (Nat.le_trans HW.out hb.size)
 skip
 clear hb hrow hv
 go_upto_region 30 with (fail)
 have y0 := RN.out.2.2 0 _ rfl
 have c6 := S.out.2.1.cell 6
 have f6 := S.out.2.1.frozen 6
 simp at c6
 go_upto_region 31 with (fail)
 clear y0 c6 f6
 replace S := h! (show Pa w _ g #[.int .u8 4, .int .i64 0, .slice none 0 0, .int .i64 0, .string ⟨#[]⟩, .string ⟨#[]⟩, .int .i64 (n0 : Nat), .int .i64 0, .slice none 0 0, .int .i64 0, .int .i64 0, .int .i64 0] from S.out.put 6 (.int .i64 (n0 : Nat)))
 replace RN := h! (RN.out.set HG.out (i := 6) (.int .i64 (n0 : Nat)))
 replace HV := h! (HV.out.set (show w.heap.size ≤ g from Nat.le_of_lt S.out.2.2.1) (i := 6) (.int .i64 (n0 : Nat)))
 replace HW := h! (Nat.le_of_lt S.out.1.lt)
 skip
 generalize World.setCell _ ⟨g, 6, none⟩ _ = wz at S RN HV HW ⊢
 go_upto_region 31 with (fail)
 have y1 := RN.out.2.2 1 _ rfl
 have c9 := S.out.2.1.cell 9
 have f9 := S.out.2.1.frozen 9
 simp at c9
 go_upto_region 32 with (fail)
 clear y1 c9 f9
 replace S := h! (show Pa w _ g #[.int .u8 4, .int .i64 0, .slice none 0 0, .int .i64 0, .string ⟨#[]⟩, .string ⟨#[]⟩, .int .i64 (n0 : Nat), .int .i64 0, .slice none 0 0, .int .i64 (n1 : Nat), .int .i64 0, .int .i64 0] from S.out.put 9 (.int .i64 (n1 : Nat)))
 replace RN := h! (RN.out.set HG.out (i := 9) (.int .i64 (n1 : Nat)))
 replace HV := h! (HV.out.set (show w.heap.size ≤ g from Nat.le_of_lt S.out.2.2.1) (i := 9) (.int .i64 (n1 : Nat)))
 replace HW := h! (Nat.le_of_lt S.out.1.lt)
 skip
 generalize World.setCell _ ⟨g, 9, none⟩ _ = wz at S RN HV HW ⊢
 go_upto_region 32 with (fail)
 have y2 := RN.out.2.2 2 _ rfl
 have c10 := S.out.2.1.cell 10
 have f10 := S.out.2.1.frozen 10
 simp at c10
 go_upto_region 33 with (fail)
 clear y2 c10 f10
 replace S := h! (show Pa w _ g #[.int .u8 4, .int .i64 0, .slice none 0 0, .int .i64 0, .string ⟨#[]⟩, .string ⟨#[]⟩, .int .i64 (n0 : Nat), .int .i64 0, .slice none 0 0, .int .i64 (n1 : Nat), .int .i64 (n2 : Nat), .int .i64 0] from S.out.put 10 (.int .i64 (n2 : Nat)))
 replace RN := h! (RN.out.set HG.out (i := 10) (.int .i64 (n2 : Nat)))
 replace HV := h! (HV.out.set (show w.heap.size ≤ g from Nat.le_of_lt S.out.2.2.1) (i := 10) (.int .i64 (n2 : Nat)))
 replace HW := h! (Nat.le_of_lt S.out.1.lt)
 skip
 generalize World.setCell _ ⟨g, 10, none⟩ _ = wz at S RN HV HW ⊢
 go_upto_region 33 with (fail)
 have y3 := RN.out.2.2 3 _ rfl
 have c11 := S.out.2.1.cell 11
 have f11 := S.out.2.1.frozen 11
 simp at c11
 go_upto_region 41 with (fail)
 clear y3 c11 f11
 replace S := h! (show Pa w _ g #[.int .u8 4, .int .i64 0, .slice none 0 0, .int .i64 0, .string ⟨#[]⟩, .string ⟨#[]⟩, .int .i64 (n0 : Nat), .int .i64 0, .slice none 0 0, .int .i64 (n1 : Nat), .int .i64 (n2 : Nat), .int .i64 (n3 : Nat)] from S.out.put 11 (.int .i64 (n3 : Nat)))
 replace RN := h! (RN.out.set HG.out (i := 11) (.int .i64 (n3 : Nat)))
 replace HV := h! (HV.out.set (show w.heap.size ≤ g from Nat.le_of_lt S.out.2.2.1) (i := 11) (.int .i64 (n3 : Nat)))
 replace HW := h! (Nat.le_of_lt S.out.1.lt)
 skip
 generalize World.setCell _ ⟨g, 11, none⟩ _ = wz at S RN HV HW ⊢
 clear RN HG
 obtain ⟨c0, c1, c2, c3, c4, c5, c6, c7, c8, c9, c10, c11⟩ := box_cm S.out.2.1
 obtain ⟨d0, d1, d2, d3, d4, d5, d6, d7, d8, d9, d10, d11⟩ := box_cm S.out.1
 have g0 := S.out.1.frozen 0
 have g1 := S.out.1.frozen 1
 have g2 := S.out.1.frozen 2
 have g3 := S.out.1.frozen 3
 have g4 := S.out.1.frozen 4
 have g5 := S.out.1.frozen 5
 have g6 := S.out.1.frozen 6
 have g7 := S.out.1.frozen 7
 have g8 := S.out.1.frozen 8
 have g9 := S.out.1.frozen 9
 have g10 := S.out.1.frozen 10
 have g11 := S.out.1.frozen 11
 have HBF := h! S.out.2.2.2
 have HP := h! S.out.2.2.1
 clear S
 go_wp2_with fail
 refine bodyPost_ret (v := .tuple #[.agg #[.int .u8 4, .int .i64 0, .slice none 0 0, .int .i64 0, .string ⟨#[]⟩, .string ⟨#[]⟩, .int .i64 (n0 : Nat), .int .i64 0, .slice none 0 0, .int .i64 (n1 : Nat), .int .i64 (n2 : Nat), .int .i64 (n3 : Nat)], v1, .bool true]) (by simp [results, Tryz.results113, go_sem, d0, d1, d2, d3, d4, d5, d6, d7, d8, d9, d10, d11]; try rfl) rfl ?_
 exact ⟨put12_below HBF.out n! (.int .u8 4) (.int .i64 0) (.slice none 0 0) (.int .i64 0) (.string ⟨#[]⟩) (.string ⟨#[]⟩) (.int .i64 (n0 : Nat)) (.int .i64 0) (.slice none 0 0) (.int .i64 (n1 : Nat)) (.int .i64 (n2 : Nat)) (.int .i64 (n3 : Nat)), .inr ⟨(⟨4, CM.mz, (n0 : Nat), 0, [], (n1 : Nat), (n2 : Nat), (n3 : Nat)⟩ : Cm), r1, _, _, HO.out, rfl, ⟨none, 0, none, 0, rfl, RowGe.none _ _, RowGe.none _ _⟩, HFIT.out, HV.out.put12 n! (.int .u8 4) (.int .i64 0) (.slice none 0 0) (.int .i64 0) (.string ⟨#[]⟩) (.string ⟨#[]⟩) (.int .i64 (n0 : Nat)) (.int .i64 0) (.slice none 0 0) (.int .i64 (n1 : Nat)) (.int .i64 (n2 : Nat)) (.int .i64 (n3 : Nat))⟩⟩
end CP
end Go.Proofs.YteebeiaokfenmaaGreat
