/- Contracts of functions, L27: each as its theorem says. -/
import Derived.Test.YteebeiaokfenmaaGreatL26
set_option linter.unusedVariables false
set_option linter.unusedSimpArgs false
set_option maxRecDepth 100000
set_option maxHeartbeats 16000000
namespace Go.Proofs.YteebeiaokfenmaaGreat
namespace CP
open Go.RowKit
open CM (Mg Cm)
theorem parse_1_0 (v : Value) (l : List UInt8) (w : World) (h : BsIs w w.heap.size v l) (r0 : List UInt8) (hk : nums 1 l = some ([1], r0)) (hq0 : nums 1 r0 = none) (ho : CM.parse l = none) :
  Calls Tryz.prog 113 #[v] w (ParseIs (CM.parse l) w) := by
 have HX := h! (Box.new w 91 #[.int .u8 0, .int .i64 0, .slice none 0 0, .int .i64 0, .string ⟨#[]⟩, .string ⟨#[]⟩, .int .i64 0, .int .i64 0, .slice none 0 0, .int .i64 0, .int .i64 0, .int .i64 0])
 have hb0 : Below w.heap.size w (w.alloc (.cells #[.int .u8 0, .int .i64 0, .slice none 0 0, .int .i64 0, .string ⟨#[]⟩, .string ⟨#[]⟩, .int .i64 0, .int .i64 0, .slice none 0 0, .int .i64 0, .int .i64 0, .int .i64 0] 91)) := b!
 have HV := h! (h.below hb0)
 have HB := h! hb0
 clear h hb0
 have HO := h! ho
 have HK := h! hk
 have HQ0 := h! hq0
 clear ho hk hq0
 generalize CM.parse l = oo at HO ⊢
 go_enter Tryz.func113, Tryz.ntmps113
 go_upto_region 1 with (fail)
 generalize w.alloc (.cells #[.int .u8 0, .int .i64 0, .slice none 0 0, .int .i64 0, .string ⟨#[]⟩, .string ⟨#[]⟩, .int .i64 0, .int .i64 0, .slice none 0 0, .int .i64 0, .int .i64 0, .int .i64 0] 91) = w1 at HX HV HB ⊢
 have HW := h! (Nat.le_of_lt HX.out.lt)
 go_wp2_with fail
 refine (nums_yes HK.out HW.out HV.out (by omega) (by omega)).mono ?_
 rintro e w2 ⟨bl, dd, v0, rfl, hrow, hv, hb⟩
 have y0 := hrow.2.2 0 _ rfl
 simp at y0
 have HX2 := h! (HX.out.below hb HX.out.lt)
 have HB2 := h! (bmore HB.out hb n!)
 clear HX HB HW HV HK
 have HV2 := h! hv
 clear hb hrow hv
 go_upto_region 5 with (fail)
 clear y0
 have S := h! (pa_new HX2.out HB2.out #[.int .u8 1, .int .i64 0, .slice none 0 0, .int .i64 0, .string ⟨#[]⟩, .string ⟨#[]⟩, .int .i64 0, .int .i64 0, .slice none 0 0, .int .i64 0, .int .i64 0, .int .i64 0])
 have HV := h! (HV2.out.below (show Below w2.heap.size w2 (w2.alloc (.cells #[.int .u8 1, .int .i64 0, .slice none 0 0, .int .i64 0, .string ⟨#[]⟩, .string ⟨#[]⟩, .int .i64 0, .int .i64 0, .slice none 0 0, .int .i64 0, .int .i64 0, .int .i64 0] 91)) from (Below.refl _ _).alloc n! _))
 generalize w2.alloc (.cells #[.int .u8 1, .int .i64 0, .slice none 0 0, .int .i64 0, .string ⟨#[]⟩, .string ⟨#[]⟩, .int .i64 0, .int .i64 0, .slice none 0 0, .int .i64 0, .int .i64 0, .int .i64 0] 91) = w4 at S HV ⊢
 generalize w2.heap.size = g at S ⊢
 have HW := h! (show w.heap.size ≤ w4.heap.size from Nat.le_of_lt S.out.1.lt)
 clear HX2 HB2 HV2
 have c0 := S.out.2.1.cell 0
 simp at c0
 go_upto_region 8 with (fail)
 clear c0
 go_wp2_with fail
 refine (nums_no HQ0.out HW.out HV.out (by omega) (by omega)).mono ?_
 rintro e w5 ⟨rfl, hb⟩
 replace S := h! (S.out.below hb)
 clear hb HV HW
 obtain ⟨c0, c1, c2, c3, c4, c5, c6, c7, c8, c9, c10, c11⟩ := box_cm S.out.2.1
 obtain ⟨d0, d1, d2, d3, d4, d5, d6, d7, d8, d9, d10, d11⟩ := box_cm S.out.1
 have g0 := S.out.1.frozen 0
 have g1 := S.out.1.frozen 1
 have g2 := S.out.1.frozen 2
 have g3 := S.out.1.frozen 3
 have g4 := S.out.1.frozen 4
 have g5 := S.out.1.frozen 5
 have g6 := S.out.1.frozen 6
 have g7 := S.out.1.frozen 7
 have g8 := S.out.1.frozen 8
 have g9 := S.out.1.frozen 9
 have g10 := S.out.1.frozen 10
 have g11 := S.out.1.frozen 11
 have HBF := h! S.out.2.2.2
 clear S
 go_wp2_with fail
 refine bodyPost_ret (v := .tuple #[.agg #[.int .u8 1, .int .i64 0, .slice none 0 0, .int .i64 0, .string ⟨#[]⟩, .string ⟨#[]⟩, .int .i64 0, .int .i64 0, .slice none 0 0, .int .i64 0, .int .i64 0, .int .i64 0], .slice none 0 0, .bool false]) (by simp [results, Tryz.results113, go_sem, d0, d1, d2, d3, d4, d5, d6, d7, d8, d9, d10, d11]; try rfl) rfl ?_
 exact ⟨put12_below HBF.out n! (.int .u8 1) (.int .i64 0) (.slice none 0 0) (.int .i64 0) (.string ⟨#[]⟩) (.string ⟨#[]⟩) (.int .i64 0) (.int .i64 0) (.slice none 0 0) (.int .i64 0) (.int .i64 0) (.int .i64 0), .inl ⟨HO.out, none, 0, none, 0, (⟨1, ⟨0, [], 0, .empty, .empty⟩, 0, 0, [], 0, 0, 0⟩ : Cm), _, rfl⟩⟩
theorem parse_1_1 (v : Value) (l : List UInt8) (w : World) (h : BsIs w w.heap.size v l) (r0 : List UInt8) (hk : nums 1 l = some ([1], r0)) {n0 : Nat} {r1 : List UInt8} (hq0 : nums 1 r0 = some ([n0], r1)) (hq1 : CM.lst 4 r1 = none) (ho : CM.parse l = none) :
  Calls Tryz.prog 113 #[v] w (ParseIs (CM.parse l) w) := by
 have HX := h! (Box.new w 91 #[.int .u8 0, .int .i64 0, .slice none 0 0, .int .i64 0, .string ⟨#[]⟩, .string ⟨#[]⟩, .int .i64 0, .int .i64 0, .slice none 0 0, .int .i64 0, .int .i64 0, .int .i64 0])
 have hb0 : Below w.heap.size w (w.alloc (.cells #[.int .u8 0, .int .i64 0, .slice none 0 0, .int .i64 0, .string ⟨#[]⟩, .string ⟨#[]⟩, .int .i64 0, .int .i64 0, .slice none 0 0, .int .i64 0, .int .i64 0, .int .i64 0] 91)) := b!
 have HV := h! (h.below hb0)
 have HB := h! hb0
 clear h hb0
 have HO := h! ho
 have HK := h! hk
 have HQ0 := h! hq0
 have HQ1 := h! hq1
 clear ho hk hq0 hq1
 generalize CM.parse l = oo at HO ⊢
 go_enter Tryz.func113, Tryz.ntmps113
 go_upto_region 1 with (fail)
 generalize w.alloc (.cells #[.int .u8 0, .int .i64 0, .slice none 0 0, .int .i64 0, .string ⟨#[]⟩, .string ⟨#[]⟩, .int .i64 0, .int .i64 0, .slice none 0 0, .int .i64 0, .int .i64 0, .int .i64 0] 91) = w1 at HX HV HB ⊢
 have HW := h! (Nat.le_of_lt HX.out.lt)
 go_wp2_with fail
 refine (nums_yes HK.out HW.out HV.out (by omega) (by omega)).mono ?_
 rintro e w2 ⟨bl, dd, v0, rfl, hrow, hv, hb⟩
 have y0 := hrow.2.2 0 _ rfl
 simp at y0
 have HX2 := h! (HX.out.below hb HX.out.lt)
 have HB2 := h! (bmore HB.out hb n!)
 clear HX HB HW HV HK
 have HV2 := h! hv
 clear hb hrow hv
 go_upto_region 5 with (fail)
 clear y0
 have S := h! (pa_new HX2.out HB2.out #[.int .u8 1, .int .i64 0, .slice none 0 0, .int .i64 0, .string ⟨#[]⟩, .string ⟨#[]⟩, .int .i64 0, .int .i64 0, .slice none 0 0, .int .i64 0, .int .i64 0, .int .i64 0])
 have HV := h! (HV2.out.below (show Below w2.heap.size w2 (w2.alloc (.cells #[.int .u8 1, .int .i64 0, .slice none 0 0, .int .i64 0, .string ⟨#[]⟩, .string ⟨#[]⟩, .int .i64 0, .int .i64 0, .slice none 0 0, .int .i64 0, .int .i64 0, .int .i64 0] 91)) from (Below.refl _ _).alloc n! _))
 generalize w2.alloc (.cells #[.int .u8 1, .int .i64 0, .slice none 0 0, .int .i64 0, .string ⟨#[]⟩, .string ⟨#[]⟩, .int .i64 0, .int .i64 0, .slice none 0 0, .int .i64 0, .int .i64 0, .int .i64 0] 91) = w4 at S HV ⊢
 generalize w2.heap.size = g at S ⊢
 have HW := h! (show w.heap.size ≤ w4.heap.size from Nat.le_of_lt S.out.1.lt)
 clear HX2 HB2 HV2
 have c0 := S.out.2.1.cell 0
 simp at c0
 go_upto_region 8 with (fail)
 clear c0
 go_wp2_with fail
 refine (nums_yes HQ0.out HW.out HV.out (by omega) (by omega)).mono ?_
 rintro e w5 ⟨bl, d0, v1, rfl, hrow, hv, hb⟩
 have HG := h! S.out.2.1.lt
 replace S := h! (S.out.below hb)
 have RN := h! hrow
 replace HV := h! hv
 replace HW := h! (Nat.le_trans HW.out hb.size)
 skip
 clear hb hrow hv
 go_upto_region 11 with (fail)
 have y0 := RN.out.2.2 0 _ rfl
 have c1 := S.out.2.1.cell 1
 have f1 := S.out.2.1.frozen 1
 simp at c1
 go_upto_region 12 with (fail)
 clear y0 c1 f1
 replace S := h! (show Pa w _ g #[.int .u8 1, .int .i64 (n0 : Nat), .slice none 0 0, .int .i64 0, .string ⟨#[]⟩, .string ⟨#[]⟩, .int .i64 0, .int .i64 0, .slice none 0 0, .int .i64 0, .int .i64 0, .int .i64 0] from S.out.put 1 (.int .i64 (n0 : Nat)))
 replace RN := h! (RN.out.set HG.out (i := 1) (.int .i64 (n0 : Nat)))
 replace HV := h! (HV.out.set (show w.heap.size ≤ g from Nat.le_of_lt S.out.2.2.1) (i := 1) (.int .i64 (n0 : Nat)))
 replace HW := h! (Nat.le_of_lt S.out.1.lt)
 skip
 generalize World.setCell _ ⟨g, 1, none⟩ _ = wz at S RN HV HW ⊢
 clear RN HG
 go_wp2_with fail
 refine (list_no HQ1.out HV.out (by omega)).mono ?_
 rintro e w5 ⟨rfl, hb⟩
 replace S := h! (S.out.below hb)
 clear hb HV HW
 have c2 := S.out.2.1.cell 2
 have f2 := S.out.2.1.frozen 2
 simp at c2
 go_upto_region 13 with (fail)
 clear c2 f2
 replace S := h! (show Pa w _ g #[.int .u8 1, .int .i64 (n0 : Nat), .slice none 0 0, .int .i64 0, .string ⟨#[]⟩, .string ⟨#[]⟩, .int .i64 0, .int .i64 0, .slice none 0 0, .int .i64 0, .int .i64 0, .int .i64 0] from S.out.put 2 (.slice none 0 0))
 generalize World.setCell _ ⟨g, 2, none⟩ _ = wz at S ⊢
 obtain ⟨c0, c1, c2, c3, c4, c5, c6, c7, c8, c9, c10, c11⟩ := box_cm S.out.2.1
 obtain ⟨d0, d1, d2, d3, d4, d5, d6, d7, d8, d9, d10, d11⟩ := box_cm S.out.1
 have g0 := S.out.1.frozen 0
 have g1 := S.out.1.frozen 1
 have g2 := S.out.1.frozen 2
 have g3 := S.out.1.frozen 3
 have g4 := S.out.1.frozen 4
 have g5 := S.out.1.frozen 5
 have g6 := S.out.1.frozen 6
 have g7 := S.out.1.frozen 7
 have g8 := S.out.1.frozen 8
 have g9 := S.out.1.frozen 9
 have g10 := S.out.1.frozen 10
 have g11 := S.out.1.frozen 11
 have HBF := h! S.out.2.2.2
 clear S
 go_wp2_with fail
 refine bodyPost_ret (v := .tuple #[.agg #[.int .u8 1, .int .i64 (n0 : Nat), .slice none 0 0, .int .i64 0, .string ⟨#[]⟩, .string ⟨#[]⟩, .int .i64 0, .int .i64 0, .slice none 0 0, .int .i64 0, .int .i64 0, .int .i64 0], .slice none 0 0, .bool false]) (by simp [results, Tryz.results113, go_sem, d0, d1, d2, d3, d4, d5, d6, d7, d8, d9, d10, d11]; try rfl) rfl ?_
 exact ⟨put12_below HBF.out n! (.int .u8 1) (.int .i64 (n0 : Nat)) (.slice none 0 0) (.int .i64 0) (.string ⟨#[]⟩) (.string ⟨#[]⟩) (.int .i64 0) (.int .i64 0) (.slice none 0 0) (.int .i64 0) (.int .i64 0) (.int .i64 0), .inl ⟨HO.out, none, 0, none, 0, (⟨1, ⟨(n0 : Nat), [], 0, .empty, .empty⟩, 0, 0, [], 0, 0, 0⟩ : Cm), _, rfl⟩⟩
theorem parse_1_2 (v : Value) (l : List UInt8) (w : World) (h : BsIs w w.heap.size v l) (r0 : List UInt8) (hk : nums 1 l = some ([1], r0)) {n0 : Nat} {r1 : List UInt8} (hq0 : nums 1 r0 = some ([n0], r1)) {xs : List Nat} {r2 : List UInt8} (hq1 : CM.lst 4 r1 = some (xs, r2)) (hq2 : nums 1 r2 = none) (ho : CM.parse l = none) :
  Calls Tryz.prog 113 #[v] w (ParseIs (CM.parse l) w) := by
 have HX := h! (Box.new w 91 #[.int .u8 0, .int .i64 0, .slice none 0 0, .int .i64 0, .string ⟨#[]⟩, .string ⟨#[]⟩, .int .i64 0, .int .i64 0, .slice none 0 0, .int .i64 0, .int .i64 0, .int .i64 0])
 have hb0 : Below w.heap.size w (w.alloc (.cells #[.int .u8 0, .int .i64 0, .slice none 0 0, .int .i64 0, .string ⟨#[]⟩, .string ⟨#[]⟩, .int .i64 0, .int .i64 0, .slice none 0 0, .int .i64 0, .int .i64 0, .int .i64 0] 91)) := b!
 have HV := h! (h.below hb0)
 have HB := h! hb0
 clear h hb0
 have HO := h! ho
 have HK := h! hk
 have HQ0 := h! hq0
 have HQ1 := h! hq1
 have HQ2 := h! hq2
 clear ho hk hq0 hq1 hq2
 generalize CM.parse l = oo at HO ⊢
 go_enter Tryz.func113, Tryz.ntmps113
 go_upto_region 1 with (fail)
 generalize w.alloc (.cells #[.int .u8 0, .int .i64 0, .slice none 0 0, .int .i64 0, .string ⟨#[]⟩, .string ⟨#[]⟩, .int .i64 0, .int .i64 0, .slice none 0 0, .int .i64 0, .int .i64 0, .int .i64 0] 91) = w1 at HX HV HB ⊢
 have HW := h! (Nat.le_of_lt HX.out.lt)
 go_wp2_with fail
 refine (nums_yes HK.out HW.out HV.out (by omega) (by omega)).mono ?_
 rintro e w2 ⟨bl, dd, v0, rfl, hrow, hv, hb⟩
 have y0 := hrow.2.2 0 _ rfl
 simp at y0
 have HX2 := h! (HX.out.below hb HX.out.lt)
 have HB2 := h! (bmore HB.out hb n!)
 clear HX HB HW HV HK
 have HV2 := h! hv
 clear hb hrow hv
 go_upto_region 5 with (fail)
 clear y0
 have S := h! (pa_new HX2.out HB2.out #[.int .u8 1, .int .i64 0, .slice none 0 0, .int .i64 0, .string ⟨#[]⟩, .string ⟨#[]⟩, .int .i64 0, .int .i64 0, .slice none 0 0, .int .i64 0, .int .i64 0, .int .i64 0])
 have HV := h! (HV2.out.below (show Below w2.heap.size w2 (w2.alloc (.cells #[.int .u8 1, .int .i64 0, .slice none 0 0, .int .i64 0, .string ⟨#[]⟩, .string ⟨#[]⟩, .int .i64 0, .int .i64 0, .slice none 0 0, .int .i64 0, .int .i64 0, .int .i64 0] 91)) from (Below.refl _ _).alloc n! _))
 generalize w2.alloc (.cells #[.int .u8 1, .int .i64 0, .slice none 0 0, .int .i64 0, .string ⟨#[]⟩, .string ⟨#[]⟩, .int .i64 0, .int .i64 0, .slice none 0 0, .int .i64 0, .int .i64 0, .int .i64 0] 91) = w4 at S HV ⊢
 generalize w2.heap.size = g at S ⊢
 have HW := h! (show w.heap.size ≤ w4.heap.size from Nat.le_of_lt S.out.1.lt)
 clear HX2 HB2 HV2
 have c0 := S.out.2.1.cell 0
 simp at c0
 go_upto_region 8 with (fail)
 clear c0
 go_wp2_with fail
 refine (nums_yes HQ0.out HW.out HV.out (by omega) (by omega)).mono ?_
 rintro e w5 ⟨bl, d0, v1, rfl, hrow, hv, hb⟩
 have HG := h! S.out.2.1.lt
 replace S := h! (S.out.below hb)
 have RN := h! hrow
 replace HV := h! hv
 replace HW := h! (Nat.le_trans HW.out hb.size)
 skip
 clear hb hrow hv
 go_upto_region 11 with (fail)
 have y0 := RN.out.2.2 0 _ rfl
 have c1 := S.out.2.1.cell 1
 have f1 := S.out.2.1.frozen 1
 simp at c1
 go_upto_region 12 with (fail)
 clear y0 c1 f1
 replace S := h! (show Pa w _ g #[.int .u8 1, .int .i64 (n0 : Nat), .slice none 0 0, .int .i64 0, .string ⟨#[]⟩, .string ⟨#[]⟩, .int .i64 0, .int .i64 0, .slice none 0 0, .int .i64 0, .int .i64 0, .int .i64 0] from S.out.put 1 (.int .i64 (n0 : Nat)))
 replace RN := h! (RN.out.set HG.out (i := 1) (.int .i64 (n0 : Nat)))
 replace HV := h! (HV.out.set (show w.heap.size ≤ g from Nat.le_of_lt S.out.2.2.1) (i := 1) (.int .i64 (n0 : Nat)))
 replace HW := h! (Nat.le_of_lt S.out.1.lt)
 skip
 generalize World.setCell _ ⟨g, 1, none⟩ _ = wz at S RN HV HW ⊢
 clear RN HG
 go_wp2_with fail
 refine (list_yes HQ1.out HV.out (by omega)).mono ?_
 rintro e w5 ⟨B, d, v2, rfl, hrow, hv, hb⟩
 have RG := h! S.out.2.1.lt
 replace S := h! (S.out.below hb)
 have RW := h! hrow
 replace HV := h! hv
 clear hb hrow hv
 have c2 := S.out.2.1.cell 2
 have f2 := S.out.2.1.frozen 2
 simp at c2
 go_upto_region 13 with (fail)
 clear c2 f2
 replace S := h! (show Pa w _ g #[.int .u8 1, .int .i64 (n0 : Nat), .slice B (CM.zs xs).length d, .int .i64 0, .string ⟨#[]⟩, .string ⟨#[]⟩, .int .i64 0, .int .i64 0, .slice none 0 0, .int .i64 0, .int .i64 0, .int .i64 0] from S.out.put 2 (.slice B (CM.zs xs).length d))
 replace HV := h! (HV.out.set (show w.heap.size ≤ g from Nat.le_of_lt S.out.2.2.1) (i := 2) (.slice B (CM.zs xs).length d))
 replace RW := h! (RW.out.set RG.out (i := 2) (.slice B (CM.zs xs).length d))
 replace HW := h! (Nat.le_of_lt S.out.1.lt)
 generalize World.setCell _ ⟨g, 2, none⟩ _ = wz at S RW HV HW ⊢
 go_wp2_with fail
 refine (nums_no HQ2.out HW.out HV.out (by omega) (by omega)).mono ?_
 rintro e w5 ⟨rfl, hb⟩
 replace S := h! (S.out.below hb)
 clear hb HV HW
 obtain ⟨c0, c1, c2, c3, c4, c5, c6, c7, c8, c9, c10, c11⟩ := box_cm S.out.2.1
 obtain ⟨d0, d1, d2, d3, d4, d5, d6, d7, d8, d9, d10, d11⟩ := box_cm S.out.1
 have g0 := S.out.1.frozen 0
 have g1 := S.out.1.frozen 1
 have g2 := S.out.1.frozen 2
 have g3 := S.out.1.frozen 3
 have g4 := S.out.1.frozen 4
 have g5 := S.out.1.frozen 5
 have g6 := S.out.1.frozen 6
 have g7 := S.out.1.frozen 7
 have g8 := S.out.1.frozen 8
 have g9 := S.out.1.frozen 9
 have g10 := S.out.1.frozen 10
 have g11 := S.out.1.frozen 11
 have HBF := h! S.out.2.2.2
 clear S
 go_wp2_with fail
 refine bodyPost_ret (v := .tuple #[.agg #[.int .u8 1, .int .i64 (n0 : Nat), .slice B (CM.zs xs).length d, .int .i64 0, .string ⟨#[]⟩, .string ⟨#[]⟩, .int .i64 0, .int .i64 0, .slice none 0 0, .int .i64 0, .int .i64 0, .int .i64 0], .slice none 0 0, .bool false]) (by simp [results, Tryz.results113, go_sem, d0, d1, d2, d3, d4, d5, d6, d7, d8, d9, d10, d11]; try rfl) rfl ?_
 exact ⟨put12_below HBF.out n! (.int .u8 1) (.int .i64 (n0 : Nat)) (.slice B (CM.zs xs).length d) (.int .i64 0) (.string ⟨#[]⟩) (.string ⟨#[]⟩) (.int .i64 0) (.int .i64 0) (.slice none 0 0) (.int .i64 0) (.int .i64 0) (.int .i64 0), .inl ⟨HO.out, B, d, none, 0, (⟨1, ⟨(n0 : Nat), CM.zs xs, 0, .empty, .empty⟩, 0, 0, [], 0, 0, 0⟩ : Cm), _, rfl⟩⟩
theorem parse_1_3 (v : Value) (l : List UInt8) (w : World) (h : BsIs w w.heap.size v l) (r0 : List UInt8) (hk : nums 1 l = some ([1], r0)) {n0 : Nat} {r1 : List UInt8} (hq0 : nums 1 r0 = some ([n0], r1)) {xs : List Nat} {r2 : List UInt8} (hq1 : CM.lst 4 r1 = some (xs, r2)) {n1 : Nat} {r3 : List UInt8} (hq2 : nums 1 r2 = some ([n1], r3)) (hq3 : tx2 r3 = none) (ho : CM.parse l = none) :
  Calls Tryz.prog 113 #[v] w (ParseIs (CM.parse l) w) := by
 have HX := h! (Box.new w 91 #[.int .u8 0, .int .i64 0, .slice none 0 0, .int .i64 0, .string ⟨#[]⟩, .string ⟨#[]⟩, .int .i64 0, .int .i64 0, .slice none 0 0, .int .i64 0, .int .i64 0, .int .i64 0])
 have hb0 : Below w.heap.size w (w.alloc (.cells #[.int .u8 0, .int .i64 0, .slice none 0 0, .int .i64 0, .string ⟨#[]⟩, .string ⟨#[]⟩, .int .i64 0, .int .i64 0, .slice none 0 0, .int .i64 0, .int .i64 0, .int .i64 0] 91)) := b!
 have HV := h! (h.below hb0)
 have HB := h! hb0
 clear h hb0
 have HO := h! ho
 have HK := h! hk
 have HQ0 := h! hq0
 have HQ1 := h! hq1
 have HQ2 := h! hq2
 have HQ3 := h! hq3
 clear ho hk hq0 hq1 hq2 hq3
 generalize CM.parse l = oo at HO ⊢
 go_enter Tryz.func113, Tryz.ntmps113
 go_upto_region 1 with (fail)
 generalize w.alloc (.cells #[.int .u8 0, .int .i64 0, .slice none 0 0, .int .i64 0, .string ⟨#[]⟩, .string ⟨#[]⟩, .int .i64 0, .int .i64 0, .slice none 0 0, .int .i64 0, .int .i64 0, .int .i64 0] 91) = w1 at HX HV HB ⊢
 have HW := h! (Nat.le_of_lt HX.out.lt)
 go_wp2_with fail
 refine (nums_yes HK.out HW.out HV.out (by omega) (by omega)).mono ?_
 rintro e w2 ⟨bl, dd, v0, rfl, hrow, hv, hb⟩
 have y0 := hrow.2.2 0 _ rfl
 simp at y0
 have HX2 := h! (HX.out.below hb HX.out.lt)
 have HB2 := h! (bmore HB.out hb n!)
 clear HX HB HW HV HK
 have HV2 := h! hv
 clear hb hrow hv
 go_upto_region 5 with (fail)
 clear y0
 have S := h! (pa_new HX2.out HB2.out #[.int .u8 1, .int .i64 0, .slice none 0 0, .int .i64 0, .string ⟨#[]⟩, .string ⟨#[]⟩, .int .i64 0, .int .i64 0, .slice none 0 0, .int .i64 0, .int .i64 0, .int .i64 0])
 have HV := h! (HV2.out.below (show Below w2.heap.size w2 (w2.alloc (.cells #[.int .u8 1, .int .i64 0, .slice none 0 0, .int .i64 0, .string ⟨#[]⟩, .string ⟨#[]⟩, .int .i64 0, .int .i64 0, .slice none 0 0, .int .i64 0, .int .i64 0, .int .i64 0] 91)) from (Below.refl _ _).alloc n! _))
 generalize w2.alloc (.cells #[.int .u8 1, .int .i64 0, .slice none 0 0, .int .i64 0, .string ⟨#[]⟩, .string ⟨#[]⟩, .int .i64 0, .int .i64 0, .slice none 0 0, .int .i64 0, .int .i64 0, .int .i64 0] 91) = w4 at S HV ⊢
 generalize w2.heap.size = g at S ⊢
 have HW := h! (show w.heap.size ≤ w4.heap.size from Nat.le_of_lt S.out.1.lt)
 clear HX2 HB2 HV2
 have c0 := S.out.2.1.cell 0
 simp at c0
 go_upto_region 8 with (fail)
 clear c0
 go_wp2_with fail
 refine (nums_yes HQ0.out HW.out HV.out (by omega) (by omega)).mono ?_
 rintro e w5 ⟨bl, d0, v1, rfl, hrow, hv, hb⟩
 have HG := h! S.out.2.1.lt
 replace S := h! (S.out.below hb)
 have RN := h! hrow
 replace HV := h! hv
 replace HW := h! (Nat.le_trans HW.out hb.size)
 skip
 clear hb hrow hv
 go_upto_region 11 with (fail)
 have y0 := RN.out.2.2 0 _ rfl
 have c1 := S.out.2.1.cell 1
 have f1 := S.out.2.1.frozen 1
 simp at c1
 go_upto_region 12 with (fail)
 clear y0 c1 f1
 replace S := h! (show Pa w _ g #[.int .u8 1, .int .i64 (n0 : Nat), .slice none 0 0, .int .i64 0, .string ⟨#[]⟩, .string ⟨#[]⟩, .int .i64 0, .int .i64 0, .slice none 0 0, .int .i64 0, .int .i64 0, .int .i64 0] from S.out.put 1 (.int .i64 (n0 : Nat)))
 replace RN := h! (RN.out.set HG.out (i := 1) (.int .i64 (n0 : Nat)))
 replace HV := h! (HV.out.set (show w.heap.size ≤ g from Nat.le_of_lt S.out.2.2.1) (i := 1) (.int .i64 (n0 : Nat)))
 replace HW := h! (Nat.le_of_lt S.out.1.lt)
 skip
 generalize World.setCell _ ⟨g, 1, none⟩ _ = wz at S RN HV HW ⊢
 clear RN HG
 go_wp2_with fail
 refine (list_yes HQ1.out HV.out (by omega)).mono ?_
 rintro e w5 ⟨B, d, v2, rfl, hrow, hv, hb⟩
 have RG := h! S.out.2.1.lt
 replace S := h! (S.out.below hb)
 have RW := h! hrow
 replace HV := h! hv
 clear hb hrow hv
 have c2 := S.out.2.1.cell 2
 have f2 := S.out.2.1.frozen 2
 simp at c2
 go_upto_region 13 with (fail)
 clear c2 f2
 replace S := h! (show Pa w _ g #[.int .u8 1, .int .i64 (n0 : Nat), .slice B (CM.zs xs).length d, .int .i64 0, .string ⟨#[]⟩, .string ⟨#[]⟩, .int .i64 0, .int .i64 0, .slice none 0 0, .int .i64 0, .int .i64 0, .int .i64 0] from S.out.put 2 (.slice B (CM.zs xs).length d))
 replace HV := h! (HV.out.set (show w.heap.size ≤ g from Nat.le_of_lt S.out.2.2.1) (i := 2) (.slice B (CM.zs xs).length d))
 replace RW := h! (RW.out.set RG.out (i := 2) (.slice B (CM.zs xs).length d))
 replace HW := h! (Nat.le_of_lt S.out.1.lt)
 generalize World.setCell _ ⟨g, 2, none⟩ _ = wz at S RW HV HW ⊢
 go_wp2_with fail
 refine (nums_yes HQ2.out HW.out HV.out (by omega) (by omega)).mono ?_
 rintro e w5 ⟨bl, d2, v3, rfl, hrow, hv, hb⟩
 have HG := h! S.out.2.1.lt
 replace S := h! (S.out.below hb)
 have RN := h! hrow
 replace HV := h! hv
 replace HW := h! (Nat.le_trans HW.out hb.size)
 replace RW := h! (RW.out.below hb)
 clear hb hrow hv
 go_upto_region 18 with (fail)
 have y0 := RN.out.2.2 0 _ rfl
 have c3 := S.out.2.1.cell 3
 have f3 := S.out.2.1.frozen 3
 simp at c3
 go_upto_region 19 with (fail)
 clear y0 c3 f3
 replace S := h! (show Pa w _ g #[.int .u8 1, .int .i64 (n0 : Nat), .slice B (CM.zs xs).length d, .int .i64 (n1 : Nat), .string ⟨#[]⟩, .string ⟨#[]⟩, .int .i64 0, .int .i64 0, .slice none 0 0, .int .i64 0, .int .i64 0, .int .i64 0] from S.out.put 3 (.int .i64 (n1 : Nat)))
 replace RN := h! (RN.out.set HG.out (i := 3) (.int .i64 (n1 : Nat)))
 replace HV := h! (HV.out.set (show w.heap.size ≤ g from Nat.le_of_lt S.out.2.2.1) (i := 3) (.int .i64 (n1 : Nat)))
 replace HW := h! (Nat.le_of_lt S.out.1.lt)
 replace RW := h! (RW.out.set RG.out (i := 3) (.int .i64 (n1 : Nat)))
 generalize World.setCell _ ⟨g, 3, none⟩ _ = wz at S RN HV HW RW ⊢
 clear RN HG
 go_wp2_with fail
 refine (texts_no HQ3.out HV.out).mono ?_
 rintro e w5 ⟨rfl, hb⟩
 replace S := h! (S.out.below hb)
 clear hb HV HW
 have c4 := S.out.2.1.cell 4
 have f4 := S.out.2.1.frozen 4
 have c5 := S.out.2.1.cell 5
 have f5 := S.out.2.1.frozen 5
 simp at c4 c5
 go_upto_region 41 with (fail)
 clear c4 f4 c5 f5
 replace S := h! (show Pa w _ g #[.int .u8 1, .int .i64 (n0 : Nat), .slice B (CM.zs xs).length d, .int .i64 (n1 : Nat), .string .empty, .string .empty, .int .i64 0, .int .i64 0, .slice none 0 0, .int .i64 0, .int .i64 0, .int .i64 0] from (S.out.put 4 (.string .empty)).put 5 (.string .empty))
 generalize World.setCell _ ⟨g, 5, none⟩ _ = wz at S ⊢
 obtain ⟨c0, c1, c2, c3, c4, c5, c6, c7, c8, c9, c10, c11⟩ := box_cm S.out.2.1
 obtain ⟨d0, d1, d2, d3, d4, d5, d6, d7, d8, d9, d10, d11⟩ := box_cm S.out.1
 have g0 := S.out.1.frozen 0
 have g1 := S.out.1.frozen 1
 have g2 := S.out.1.frozen 2
 have g3 := S.out.1.frozen 3
 have g4 := S.out.1.frozen 4
 have g5 := S.out.1.frozen 5
 have g6 := S.out.1.frozen 6
 have g7 := S.out.1.frozen 7
 have g8 := S.out.1.frozen 8
 have g9 := S.out.1.frozen 9
 have g10 := S.out.1.frozen 10
 have g11 := S.out.1.frozen 11
 have HBF := h! S.out.2.2.2
 clear S
 go_wp2_with fail
 refine bodyPost_ret (v := .tuple #[.agg #[.int .u8 1, .int .i64 (n0 : Nat), .slice B (CM.zs xs).length d, .int .i64 (n1 : Nat), .string .empty, .string .empty, .int .i64 0, .int .i64 0, .slice none 0 0, .int .i64 0, .int .i64 0, .int .i64 0], .slice none 0 0, .bool false]) (by simp [results, Tryz.results113, go_sem, d0, d1, d2, d3, d4, d5, d6, d7, d8, d9, d10, d11]; try rfl) rfl ?_
 exact ⟨put12_below HBF.out n! (.int .u8 1) (.int .i64 (n0 : Nat)) (.slice B (CM.zs xs).length d) (.int .i64 (n1 : Nat)) (.string .empty) (.string .empty) (.int .i64 0) (.int .i64 0) (.slice none 0 0) (.int .i64 0) (.int .i64 0) (.int .i64 0), .inl ⟨HO.out, B, d, none, 0, (⟨1, ⟨(n0 : Nat), CM.zs xs, (n1 : Nat), .empty, .empty⟩, 0, 0, [], 0, 0, 0⟩ : Cm), _, rfl⟩⟩
theorem parse_1_ok (v : Value) (l : List UInt8) (w : World) (h : BsIs w w.heap.size v l) (r0 : List UInt8) (hk : nums 1 l = some ([1], r0)) {n0 : Nat} {r1 : List UInt8} (hq0 : nums 1 r0 = some ([n0], r1)) {xs : List Nat} {r2 : List UInt8} (hq1 : CM.lst 4 r1 = some (xs, r2)) {n1 : Nat} {r3 : List UInt8} (hq2 : nums 1 r2 = some ([n1], r3)) {s t r4 : List UInt8} (hq3 : tx2 r3 = some ((s, t), r4)) (ho : CM.parse l = some ((⟨1, ⟨(n0 : Nat), CM.zs xs, (n1 : Nat), ⟨s.toArray⟩, ⟨t.toArray⟩⟩, 0, 0, [], 0, 0, 0⟩ : Cm), r4)) (hfit : CmFit (⟨1, ⟨(n0 : Nat), CM.zs xs, (n1 : Nat), ⟨s.toArray⟩, ⟨t.toArray⟩⟩, 0, 0, [], 0, 0, 0⟩ : Cm)) :
  Calls Tryz.prog 113 #[v] w (ParseIs (CM.parse l) w) := by
 have HX := h! (Box.new w 91 #[.int .u8 0, .int .i64 0, .slice none 0 0, .int .i64 0, .string ⟨#[]⟩, .string ⟨#[]⟩, .int .i64 0, .int .i64 0, .slice none 0 0, .int .i64 0, .int .i64 0, .int .i64 0])
 have hb0 : Below w.heap.size w (w.alloc (.cells #[.int .u8 0, .int .i64 0, .slice none 0 0, .int .i64 0, .string ⟨#[]⟩, .string ⟨#[]⟩, .int .i64 0, .int .i64 0, .slice none 0 0, .int .i64 0, .int .i64 0, .int .i64 0] 91)) := b!
 have HV := h! (h.below hb0)
 have HB := h! hb0
 clear h hb0
 have HO := h! ho
 have HFIT := h! hfit
 have HK := h! hk
 have HQ0 := h! hq0
 have HQ1 := h! hq1
 have HQ2 := h! hq2
 have HQ3 := h! hq3
 clear ho hk hfit hq0 hq1 hq2 hq3
 generalize CM.parse l = oo at HO ⊢
 go_enter Tryz.func113, Tryz.ntmps113
 go_upto_region 1 with (fail)
 generalize w.alloc (.cells #[.int .u8 0, .int .i64 0, .slice none 0 0, .int .i64 0, .string ⟨#[]⟩, .string ⟨#[]⟩, .int .i64 0, .int .i64 0, .slice none 0 0, .int .i64 0, .int .i64 0, .int .i64 0] 91) = w1 at HX HV HB ⊢
 have HW := h! (Nat.le_of_lt HX.out.lt)
 go_wp2_with fail
 refine (nums_yes HK.out HW.out HV.out (by omega) (by omega)).mono ?_
 rintro e w2 ⟨bl, dd, v0, rfl, hrow, hv, hb⟩
 have y0 := hrow.2.2 0 _ rfl
 simp at y0
 have HX2 := h! (HX.out.below hb HX.out.lt)
 have HB2 := h! (bmore HB.out hb n!)
 clear HX HB HW HV HK
 have HV2 := h! hv
 clear hb hrow hv
 go_upto_region 5 with (fail)
 clear y0
 have S := h! (pa_new HX2.out HB2.out #[.int .u8 1, .int .i64 0, .slice none 0 0, .int .i64 0, .string ⟨#[]⟩, .string ⟨#[]⟩, .int .i64 0, .int .i64 0, .slice none 0 0, .int .i64 0, .int .i64 0, .int .i64 0])
 have HV := h! (HV2.out.below (show Below w2.heap.size w2 (w2.alloc (.cells #[.int .u8 1, .int .i64 0, .slice none 0 0, .int .i64 0, .string ⟨#[]⟩, .string ⟨#[]⟩, .int .i64 0, .int .i64 0, .slice none 0 0, .int .i64 0, .int .i64 0, .int .i64 0] 91)) from (Below.refl _ _).alloc n! _))
 generalize w2.alloc (.cells #[.int .u8 1, .int .i64 0, .slice none 0 0, .int .i64 0, .string ⟨#[]⟩, .string ⟨#[]⟩, .int .i64 0, .int .i64 0, .slice none 0 0, .int .i64 0, .int .i64 0, .int .i64 0] 91) = w4 at S HV ⊢
 generalize w2.heap.size = g at S ⊢
 have HW := h! (show w.heap.size ≤ w4.heap.size from Nat.le_of_lt S.out.1.lt)
 clear HX2 HB2 HV2
 have c0 := S.out.2.1.cell 0
 simp at c0
 go_upto_region 8 with (fail)
 clear c0
 go_wp2_with fail
 refine (nums_yes HQ0.out HW.out HV.out (by omega) (by omega)).mono ?_
 rintro e w5 ⟨bl, d0, v1, rfl, hrow, hv, hb⟩
 have HG := h! S.out.2.1.lt
 replace S := h! (S.out.below hb)
 have RN := h! hrow
 replace HV := h! hv
 replace HW := h! (Nat.le_trans HW.out hb.size)
 skip
 clear hb hrow hv
 go_upto_region 11 with (fail)
 have y0 := RN.out.2.2 0 _ rfl
 have c1 := S.out.2.1.cell 1
 have f1 := S.out.2.1.frozen 1
 simp at c1
 go_upto_region 12 with (fail)
 clear y0 c1 f1
 replace S := h! (show Pa w _ g #[.int .u8 1, .int .i64 (n0 : Nat), .slice none 0 0, .int .i64 0, .string ⟨#[]⟩, .string ⟨#[]⟩, .int .i64 0, .int .i64 0, .slice none 0 0, .int .i64 0, .int .i64 0, .int .i64 0] from S.out.put 1 (.int .i64 (n0 : Nat)))
 replace RN := h! (RN.out.set HG.out (i := 1) (.int .i64 (n0 : Nat)))
 replace HV := h! (HV.out.set (show w.heap.size ≤ g from Nat.le_of_lt S.out.2.2.1) (i := 1) (.int .i64 (n0 : Nat)))
 replace HW := h! (Nat.le_of_lt S.out.1.lt)
 skip
 generalize World.setCell _ ⟨g, 1, none⟩ _ = wz at S RN HV HW ⊢
 clear RN HG
 go_wp2_with fail
 refine (list_yes HQ1.out HV.out (by omega)).mono ?_
 rintro e w5 ⟨B, d, v2, rfl, hrow, hv, hb⟩
 have RG := h! S.out.2.1.lt
 replace S := h! (S.out.below hb)
 have RW := h! hrow
 replace HV := h! hv
 clear hb hrow hv
 have c2 := S.out.2.1.cell 2
 have f2 := S.out.2.1.frozen 2
 simp at c2
 go_upto_region 13 with (fail)
 clear c2 f2
 replace S := h! (show Pa w _ g #[.int .u8 1, .int .i64 (n0 : Nat), .slice B (CM.zs xs).length d, .int .i64 0, .string ⟨#[]⟩, .string ⟨#[]⟩, .int .i64 0, .int .i64 0, .slice none 0 0, .int .i64 0, .int .i64 0, .int .i64 0] from S.out.put 2 (.slice B (CM.zs xs).length d))
 replace HV := h! (HV.out.set (show w.heap.size ≤ g from Nat.le_of_lt S.out.2.2.1) (i := 2) (.slice B (CM.zs xs).length d))
 replace RW := h! (RW.out.set RG.out (i := 2) (.slice B (CM.zs xs).length d))
 replace HW := h! (Nat.le_of_lt S.out.1.lt)
 generalize World.setCell _ ⟨g, 2, none⟩ _ = wz at S RW HV HW ⊢
 go_wp2_with fail
 refine (nums_yes HQ2.out HW.out HV.out (by omega) (by omega)).mono ?_
 rintro e w5 ⟨bl, d2, v3, rfl, hrow, hv, hb⟩
 have HG := h! S.out.2.1.lt
 replace S := h! (S.out.below hb)
 have RN := h! hrow
 replace HV := h! hv
 replace HW := h! (Nat.le_trans HW.out hb.size)
 replace RW := h! (RW.out.below hb)
 clear hb hrow hv
 go_upto_region 18 with (fail)
 have y0 := RN.out.2.2 0 _ rfl
 have c3 := S.out.2.1.cell 3
 have f3 := S.out.2.1.frozen 3
 simp at c3
 go_upto_region 19 with (fail)
 clear y0 c3 f3
 replace S := h! (show Pa w _ g #[.int .u8 1, .int .i64 (n0 : Nat), .slice B (CM.zs xs).length d, .int .i64 (n1 : Nat), .string ⟨#[]⟩, .string ⟨#[]⟩, .int .i64 0, .int .i64 0, .slice none 0 0, .int .i64 0, .int .i64 0, .int .i64 0] from S.out.put 3 (.int .i64 (n1 : Nat)))
 replace RN := h! (RN.out.set HG.out (i := 3) (.int .i64 (n1 : Nat)))
 replace HV := h! (HV.out.set (show w.heap.size ≤ g from Nat.le_of_lt S.out.2.2.1) (i := 3) (.int .i64 (n1 : Nat)))
 replace HW := h! (Nat.le_of_lt S.out.1.lt)
 replace RW := h! (RW.out.set RG.out (i := 3) (.int .i64 (n1 : Nat)))
 generalize World.setCell _ ⟨g, 3, none⟩ _ = wz at S RN HV HW RW ⊢
 clear RN HG
 go_wp2_with fail
 refine (texts_yes HQ3.out HV.out).mono ?_
 rintro e w5 ⟨v4, rfl, hv, hb⟩
 replace S := h! (S.out.below hb)
 replace HV := h! hv
 replace RW := h! (RW.out.below hb)
 clear hb hv
 have c4 := S.out.2.1.cell 4
 have f4 := S.out.2.1.frozen 4
 have c5 := S.out.2.1.cell 5
 have f5 := S.out.2.1.frozen 5
 simp at c4 c5
 go_upto_region 41 with (fail)
 clear c4 f4 c5 f5
 replace S := h! (show Pa w _ g #[.int .u8 1, .int .i64 (n0 : Nat), .slice B (CM.zs xs).length d, .int .i64 (n1 : Nat), .string ⟨s.toArray⟩, .string ⟨t.toArray⟩, .int .i64 0, .int .i64 0, .slice none 0 0, .int .i64 0, .int .i64 0, .int .i64 0] from (S.out.put 4 (.string ⟨s.toArray⟩)).put 5 (.string ⟨t.toArray⟩))
 replace HV := h! ((HV.out.set (show w.heap.size ≤ g from Nat.le_of_lt S.out.2.2.1) (i := 4) (.string ⟨s.toArray⟩)).set (show w.heap.size ≤ g from Nat.le_of_lt S.out.2.2.1) (i := 5) (.string ⟨t.toArray⟩))
 replace RW := h! ((RW.out.set RG.out (i := 4) (.string ⟨s.toArray⟩)).set RG.out (i := 5) (.string ⟨t.toArray⟩))
 generalize World.setCell _ ⟨g, 5, none⟩ _ = wz at S RW HV ⊢
 obtain ⟨c0, c1, c2, c3, c4, c5, c6, c7, c8, c9, c10, c11⟩ := box_cm S.out.2.1
 obtain ⟨d0, d1, d2, d3, d4, d5, d6, d7, d8, d9, d10, d11⟩ := box_cm S.out.1
 have g0 := S.out.1.frozen 0
 have g1 := S.out.1.frozen 1
 have g2 := S.out.1.frozen 2
 have g3 := S.out.1.frozen 3
 have g4 := S.out.1.frozen 4
 have g5 := S.out.1.frozen 5
 have g6 := S.out.1.frozen 6
 have g7 := S.out.1.frozen 7
 have g8 := S.out.1.frozen 8
 have g9 := S.out.1.frozen 9
 have g10 := S.out.1.frozen 10
 have g11 := S.out.1.frozen 11
 have HBF := h! S.out.2.2.2
 have HP := h! S.out.2.2.1
 clear S
 go_wp2_with fail
 refine bodyPost_ret (v := .tuple #[.agg #[.int .u8 1, .int .i64 (n0 : Nat), .slice B (CM.zs xs).length d, .int .i64 (n1 : Nat), .string ⟨s.toArray⟩, .string ⟨t.toArray⟩, .int .i64 0, .int .i64 0, .slice none 0 0, .int .i64 0, .int .i64 0, .int .i64 0], v4, .bool true]) (by simp [results, Tryz.results113, go_sem, d0, d1, d2, d3, d4, d5, d6, d7, d8, d9, d10, d11]; try rfl) rfl ?_
 exact ⟨put12_below HBF.out n! (.int .u8 1) (.int .i64 (n0 : Nat)) (.slice B (CM.zs xs).length d) (.int .i64 (n1 : Nat)) (.string ⟨s.toArray⟩) (.string ⟨t.toArray⟩) (.int .i64 0) (.int .i64 0) (.slice none 0 0) (.int .i64 0) (.int .i64 0) (.int .i64 0), .inr ⟨(⟨1, ⟨(n0 : Nat), CM.zs xs, (n1 : Nat), ⟨s.toArray⟩, ⟨t.toArray⟩⟩, 0, 0, [], 0, 0, 0⟩ : Cm), r4, _, _, HO.out, rfl, ⟨B, d, none, 0, rfl, (RW.out.put12p (Nat.lt_trans HP.out RG.out) (.int .u8 1) (.int .i64 (n0 : Nat)) (.slice B (CM.zs xs).length d) (.int .i64 (n1 : Nat)) (.string ⟨s.toArray⟩) (.string ⟨t.toArray⟩) (.int .i64 0) (.int .i64 0) (.slice none 0 0) (.int .i64 0) (.int .i64 0) (.int .i64 0)).mono (Nat.le_of_lt (Nat.lt_trans HP.out RG.out)), RowGe.none _ _⟩, HFIT.out, HV.out.put12 n! (.int .u8 1) (.int .i64 (n0 : Nat)) (.slice B (CM.zs xs).length d) (.int .i64 (n1 : Nat)) (.string ⟨s.toArray⟩) (.string ⟨t.toArray⟩) (.int .i64 0) (.int .i64 0) (.slice none 0 0) (.int .i64 0) (.int .i64 0) (.int .i64 0)⟩⟩
end CP
end Go.Proofs.YteebeiaokfenmaaGreat
