/-
  The walk of DiskNames: the limits and errors have their numbers, and the chapter's examples are so.
-/
import Derived.Test.YtnbnnnphepfkkaaDiskV
import Derived.Deep.DeepCutAuto
namespace Go.Proofs.Ytnbnnnphepfkkaa
open Go.RowKit
set_option linter.unusedVariables false

theorem names_2 : CrashIs [1, 2] someDisk 0 1 [1, 2, 3] 0 := .inr (.inr ⟨by decide, by omega, by decide, by omega, rfl, rfl⟩)
theorem names_3 : CrashIs [1, 2] someDisk 1 5 [1, 2, 3, 4] 0 := .inr (.inr ⟨by decide, by omega, by decide, by omega, rfl, rfl⟩)
theorem names_4 : CrashIs [1, 2] someDisk 2 0 [9] 0 := .inr (.inr ⟨by decide, by omega, by decide, by omega, rfl, rfl⟩)
theorem names_5 : CrashIs [1, 2] someDisk 3 0 [9, 8] 0 := .inr (.inr ⟨by decide, by omega, by decide, by omega, rfl, rfl⟩)
theorem names_7 : CrashIs [1, 2] someDisk 4 0 [] 2 := .inr (.inl ⟨by decide, .inr (.inl (by decide)), rfl, rfl⟩)
theorem names_8 : CrashIs [1, 2] someDisk 0 (-1) [] 2 := .inr (.inl ⟨by decide, .inr (.inr (by omega)), rfl, rfl⟩)
theorem names_full (s : List UInt8) (h : s.length = 1048576) : LenIs s [] (false, [1]) [] [] 9 := by
  refine .inr (.inl ⟨DM.may_nil.2 (by omega), fun hm => ?_, rfl, rfl, rfl⟩)
  have := (DM.may_snoc (ps := [])).1 hm
  have h2 := this.2.2
  rw [DM.behind_nil, h] at h2
  simp [DM.more] at h2
theorem bc_replicate (n : Nat) : List.replicate n (Value.int .u8 0) = bc (List.replicate n 0) := by simp [bc]

set_option maxRecDepth 100000 in
set_option maxHeartbeats 8000000 in
theorem diskNames_walk (w : World) : Calls Try.prog 3 #[] w fun e w' => e = .returned (.bool true) ∧ Below w.heap.size w w' := by
  obtain ⟨i0, hi, hz0, hz1, hz2⟩ := info_parts info_u8
  obtain ⟨j0, hj, hy0, hy1, hy2⟩ := info_parts info_put
  go_enter Try.func3, Try.ntmps3
  go_wp2_with fail
  refine (some_any w).mono ?_
  rintro e w1 ⟨A1, c1, B1, d1, rfl, hown, hb⟩
  obtain ⟨hst, v1⟩ := var_step hb hown
  have hW := hst
  have V1 := Lib.hid v1
  have HW := Lib.hid hW
  clear hown hb hst hW v1
  have k0 := V1.out.c0
  have k1 := V1.out.c1
  go_wp2_with fail
  generalize w1.alloc (.cells #[.slice A1 2 c1, .slice B1 3 d1] 25) = u1 at V1 HW k0 k1 ⊢
  generalize w1.heap.size = g1 at V1 k0 k1 ⊢
  clear k0 k1
  refine (crash_s _ [1, 2] [1, 2, 3] someDisk 0 1 0 3 _ (Lib.hid V1.out.2) (Lib.hid names_2) (by omega) (by omega) (by omega) (by omega) (Lib.hid rfl)).mono ?_
  rintro e w2 ⟨A2, c2, B2, d2, rfl, hown, hb⟩
  obtain ⟨hst, v2⟩ := var_step hb hown
  have v1 := V1.out.below hst
  have hW := bmore HW.out hst (Nat.le_refl _)
  clear V1 HW
  have V1 := Lib.hid v1
  have V2 := Lib.hid v2
  have HW := Lib.hid hW
  clear hown hb hst hW v1 v2
  have k0 := V1.out.c0
  have k1 := V1.out.c1
  go_wp2_with fail
  generalize w2.alloc (.cells #[.slice A2 3 c2, .slice B2 0 d2] 25) = u2 at V1 V2 HW k0 k1 ⊢
  generalize w2.heap.size = g2 at V2 ⊢
  clear k0 k1
  refine (crash_s _ [1, 2] [1, 2, 3, 4] someDisk 1 5 0 4 _ (Lib.hid V1.out.2) (Lib.hid names_3) (by omega) (by omega) (by omega) (by omega) (Lib.hid rfl)).mono ?_
  rintro e w3 ⟨A3, c3, B3, d3, rfl, hown, hb⟩
  obtain ⟨hst, v3⟩ := var_step hb hown
  have v1 := V1.out.below hst
  have v2 := V2.out.below hst
  have hW := bmore HW.out hst (Nat.le_refl _)
  clear V1 V2 HW
  have V1 := Lib.hid v1
  have V2 := Lib.hid v2
  have V3 := Lib.hid v3
  have HW := Lib.hid hW
  clear hown hb hst hW v1 v2 v3
  have k0 := V1.out.c0
  have k1 := V1.out.c1
  go_wp2_with fail
  generalize w3.alloc (.cells #[.slice A3 4 c3, .slice B3 0 d3] 25) = u3 at V1 V2 V3 HW k0 k1 ⊢
  generalize w3.heap.size = g3 at V3 ⊢
  clear k0 k1
  refine (crash_s _ [1, 2] [9] someDisk 2 0 0 1 _ (Lib.hid V1.out.2) (Lib.hid names_4) (by omega) (by omega) (by omega) (by omega) (Lib.hid rfl)).mono ?_
  rintro e w4 ⟨A4, c4, B4, d4, rfl, hown, hb⟩
  obtain ⟨hst, v4⟩ := var_step hb hown
  have v1 := V1.out.below hst
  have v2 := V2.out.below hst
  have v3 := V3.out.below hst
  have hW := bmore HW.out hst (Nat.le_refl _)
  clear V1 V2 V3 HW
  have V1 := Lib.hid v1
  have V2 := Lib.hid v2
  have V3 := Lib.hid v3
  have V4 := Lib.hid v4
  have HW := Lib.hid hW
  clear hown hb hst hW v1 v2 v3 v4
  have k0 := V1.out.c0
  have k1 := V1.out.c1
  go_wp2_with fail
  generalize w4.alloc (.cells #[.slice A4 1 c4, .slice B4 0 d4] 25) = u4 at V1 V2 V3 V4 HW k0 k1 ⊢
  generalize w4.heap.size = g4 at V4 ⊢
  clear k0 k1
  refine (crash_s _ [1, 2] [9, 8] someDisk 3 0 0 2 _ (Lib.hid V1.out.2) (Lib.hid names_5) (by omega) (by omega) (by omega) (by omega) (Lib.hid rfl)).mono ?_
  rintro e w5 ⟨A5, c5, B5, d5, rfl, hown, hb⟩
  obtain ⟨hst, v5⟩ := var_step hb hown
  have v1 := V1.out.below hst
  have v2 := V2.out.below hst
  have v3 := V3.out.below hst
  have v4 := V4.out.below hst
  have hW := bmore HW.out hst (Nat.le_refl _)
  clear V1 V2 V3 V4 HW
  have V1 := Lib.hid v1
  have V2 := Lib.hid v2
  have V3 := Lib.hid v3
  have V4 := Lib.hid v4
  have V5 := Lib.hid v5
  have HW := Lib.hid hW
  clear hown hb hst hW v1 v2 v3 v4 v5
  have k0 := V1.out.c0
  have k1 := V1.out.c1
  go_wp2_with fail
  generalize w5.alloc (.cells #[.slice A5 2 c5, .slice B5 0 d5] 25) = u5 at V1 V2 V3 V4 V5 HW k0 k1 ⊢
  generalize w5.heap.size = g5 at V5 ⊢
  clear k0 k1
  refine (sync_s _ [1, 2] [9, 8] someDisk 2 0 _ (Lib.hid V1.out.2) (Lib.hid alive_1) (Lib.hid rfl)).mono ?_
  rintro e w6 ⟨A6, c6, B6, d6, rfl, hown, hb⟩
  obtain ⟨hst, v6⟩ := var_step hb hown
  have v1 := V1.out.below hst
  have v2 := V2.out.below hst
  have v3 := V3.out.below hst
  have v4 := V4.out.below hst
  have v5 := V5.out.below hst
  have hW := bmore HW.out hst (Nat.le_refl _)
  clear V1 V2 V3 V4 V5 HW
  have V1 := Lib.hid v1
  have V2 := Lib.hid v2
  have V3 := Lib.hid v3
  have V4 := Lib.hid v4
  have V5 := Lib.hid v5
  have V6 := Lib.hid v6
  have HW := Lib.hid hW
  clear hown hb hst hW v1 v2 v3 v4 v5 v6
  have k0 := V1.out.c0
  have k1 := V1.out.c1
  go_wp2_with fail
  generalize w6.alloc (.cells #[.slice A6 2 c6, .slice B6 0 d6] 25) = u6 at V1 V2 V3 V4 V5 V6 HW k0 k1 ⊢
  generalize w6.heap.size = g6 at V6 ⊢
  clear k0 k1
  refine (crash_s _ [1, 2] [] someDisk 4 0 2 0 _ (Lib.hid V1.out.2) (Lib.hid names_7) (by omega) (by omega) (by omega) (by omega) (Lib.hid rfl)).mono ?_
  rintro e w7 ⟨A7, c7, B7, d7, rfl, hown, hb⟩
  obtain ⟨hst, v7⟩ := var_step hb hown
  have v1 := V1.out.below hst
  have v2 := V2.out.below hst
  have v3 := V3.out.below hst
  have v4 := V4.out.below hst
  have v5 := V5.out.below hst
  have v6 := V6.out.below hst
  have hW := bmore HW.out hst (Nat.le_refl _)
  clear V1 V2 V3 V4 V5 V6 HW
  have V1 := Lib.hid v1
  have V2 := Lib.hid v2
  have V3 := Lib.hid v3
  have V4 := Lib.hid v4
  have V5 := Lib.hid v5
  have V6 := Lib.hid v6
  have V7 := Lib.hid v7
  have HW := Lib.hid hW
  clear hown hb hst hW v1 v2 v3 v4 v5 v6 v7
  have k0 := V1.out.c0
  have k1 := V1.out.c1
  go_wp2_with fail
  generalize w7.alloc (.cells #[.slice A7 0 c7, .slice B7 0 d7] 25) = u7 at V1 V2 V3 V4 V5 V6 V7 HW k0 k1 ⊢
  generalize w7.heap.size = g7 at V7 ⊢
  clear k0 k1
  refine (crash_s _ [1, 2] [] someDisk 0 (-1) 2 0 _ (Lib.hid V1.out.2) (Lib.hid names_8) (by omega) (by omega) (by omega) (by omega) (Lib.hid rfl)).mono ?_
  rintro e w8 ⟨A8, c8, B8, d8, rfl, hown, hb⟩
  obtain ⟨hst, v8⟩ := var_step hb hown
  have v1 := V1.out.below hst
  have v2 := V2.out.below hst
  have v3 := V3.out.below hst
  have v4 := V4.out.below hst
  have v5 := V5.out.below hst
  have v6 := V6.out.below hst
  have v7 := V7.out.below hst
  have hW := bmore HW.out hst (Nat.le_refl _)
  clear V1 V2 V3 V4 V5 V6 V7 HW
  have V1 := Lib.hid v1
  have V2 := Lib.hid v2
  have V3 := Lib.hid v3
  have V4 := Lib.hid v4
  have V5 := Lib.hid v5
  have V6 := Lib.hid v6
  have V7 := Lib.hid v7
  have V8 := Lib.hid v8
  have HW := Lib.hid hW
  clear hown hb hst hW v1 v2 v3 v4 v5 v6 v7 v8
  have k0 := V1.out.c0
  have k1 := V1.out.c1
  go_upto_region 9 with (fail)
  generalize w8.alloc (.cells #[.slice A8 0 c8, .slice B8 0 d8] 25) = u8 at V1 V2 V3 V4 V5 V6 V7 V8 HW k0 k1 ⊢
  generalize w8.heap.size = g8 at V8 ⊢
  clear k0 k1
  obtain ⟨s, hs⟩ : ∃ s : List UInt8, s = List.replicate 1048576 0 := ⟨_, rfl⟩
  have hsl : s.length = 1048576 := by rw [hs, List.length_replicate]
  have HS := Lib.hid hs; clear hs
  have HSL := Lib.hid hsl; clear hsl
  go_wp2_with (at_make; refine wpList_make_rd _ rfl _ _ 22 rfl 5 i0 (.int .u8 0) Try.underlying22 hi hz0 hz1 rfl .i64 .i64 1048576 rfl rfl (by rw [hz2]; omega) (by unfold maxLen; omega) ?_; intro A9 w9 hown9 hb9; have hr9 := Rd.of_own hown9; rw [bc_replicate, ← HS.out] at hr9; have HR9 := Lib.hid hr9; have HB9 := Lib.hid hb9; clear hown9 hr9 hb9)
  have hb10 : Below w9.heap.size w9 (w9.alloc (.cells #[.int .u8 1] 5)) := (Below.refl _ _).alloc (Nat.le_refl _) _
  have hb9 := bmore HB9.out hb10 (Nat.le_refl _)
  have HV9 := Lib.hid (disk_lit (c := 1048576) (HR9.out.below hb10) (Nat.le_refl _) (by unfold maxLen; omega))
  have HQ9 := Lib.hid (rd_box (xs := bc [1]) (Box.new w9 5 #[.int .u8 1]) rfl rfl)
  have v1 := V1.out.below hb9
  have v2 := V2.out.below hb9
  have v3 := V3.out.below hb9
  have v4 := V4.out.below hb9
  have v5 := V5.out.below hb9
  have v6 := V6.out.below hb9
  have v7 := V7.out.below hb9
  have v8 := V8.out.below hb9
  have hW := bmore HW.out hb9 (Nat.le_refl _)
  clear HR9 HB9 hb10 hb9 HW V1 V2 V3 V4 V5 V6 V7 V8
  have V1 := Lib.hid v1
  have V2 := Lib.hid v2
  have V3 := Lib.hid v3
  have V4 := Lib.hid v4
  have V5 := Lib.hid v5
  have V6 := Lib.hid v6
  have V7 := Lib.hid v7
  have V8 := Lib.hid v8
  have HW := Lib.hid hW
  clear hW v1 v2 v3 v4 v5 v6 v7 v8
  generalize w9.alloc (.cells #[.int .u8 1] 5) = u9 at HV9 HQ9 HW V1 V2 V3 V4 V5 V6 V7 V8 ⊢
  generalize w9.heap.size = g9 at HQ9 ⊢
  refine (append_s _ _ 1 1 s [1] [] [] [] 9 0 0 _ HV9 HQ9 (Nat.le_refl _) (Lib.hid (by unfold maxLen; omega)) (Lib.hid (names_full s HSL.out)) (Lib.hid rfl) (Lib.hid rfl)).mono ?_
  rintro e w10 ⟨A10, c10, B10, d10, rfl, hown, hb⟩
  clear HV9 HQ9 HSL HS
  obtain ⟨hst, v10⟩ := var_step hb hown
  have v1 := V1.out.below hst
  have v2 := V2.out.below hst
  have v3 := V3.out.below hst
  have v4 := V4.out.below hst
  have v5 := V5.out.below hst
  have v6 := V6.out.below hst
  have v7 := V7.out.below hst
  have v8 := V8.out.below hst
  have hW := bmore HW.out hst (Nat.le_refl _)
  clear V1 V2 V3 V4 V5 V6 V7 V8 HW
  have V1 := Lib.hid v1
  have V2 := Lib.hid v2
  have V3 := Lib.hid v3
  have V4 := Lib.hid v4
  have V5 := Lib.hid v5
  have V6 := Lib.hid v6
  have V7 := Lib.hid v7
  have V8 := Lib.hid v8
  have V10 := Lib.hid v10
  have HW := Lib.hid hW
  clear hown hb hst hW v1 v2 v3 v4 v5 v6 v7 v8 v10
  have k0 := V1.out.c0
  have k1 := V1.out.c1
  clear k0 k1
  obtain ⟨mk, hmk⟩ : ∃ mk, ∀ W, (Instr.makeSlice 23 (.int .i64 1025) (.int .i64 1025)).run Try.prog W = .ok (.slice (some ⟨W.heap.size, 0, none⟩) 1025 1025) (W.alloc (.cells mk 40)) := ⟨_, fun W => run_make (P := Try.prog) W _ _ j0 _ Try.underlying23 hj hy0 .i64 .i64 1025 1025 (by omega) (by omega) (by rw [hy2]; omega) (by omega)⟩
  clear hi hz0 hz1 hz2 hj hy0 hy1 hy2
  have HMK := Lib.hid hmk; clear hmk
  go_upto_region 10 with (fail)
  generalize w10.alloc (.cells #[.slice A10 0 c10, .slice B10 0 d10] 25) = u10 at V1 V2 V3 V4 V5 V6 V7 V8 V10 HW ⊢
  generalize w10.heap.size = g10 at V10 ⊢
  have a2 := V2.out.c0
  have s2 := V2.out.str
  have a3 := V3.out.c0
  have s3 := V3.out.str
  have a4 := V4.out.c0
  have s4 := V4.out.str
  have a5 := V5.out.c0
  have s5 := V5.out.str
  have a6 := V6.out.c0
  have s6 := V6.out.str
  go_upto_region 11 with (fail)
  clear a2 s2 a3 s3 a4 s4 a5 s5 a6 s6
  go_wp2_with fail
  refine (alive_any _).mono ?_
  rintro e w11 ⟨rfl, hb⟩
  have hW := bmore HW.out hb (Nat.le_refl _)
  have hm : Below w11.heap.size w11 (w11.alloc (.cells mk 40)) := (Below.refl _ _).alloc (Nat.le_refl _) _
  have V1_ := Lib.hid ((V1.out.below hb).below hm)
  have HW_ := Lib.hid (bmore hW hm (Nat.le_refl _))
  clear hW hb hm HW V1 V2 V3 V4 V5 V6 V7 V8 V10
  have hmk := HMK.out w11
  go_wp2_with fail
  clear hmk HMK
  generalize w11.alloc (.cells mk 40) = u11 at V1_ HW_ ⊢
  generalize w11.heap.size = g11
  refine (check_big _ _ _ _ (by omega) (by omega)).mono ?_
  rintro e w12 ⟨rfl, hb⟩
  have V1 := Lib.hid (V1_.out.below hb)
  have HW := Lib.hid (bmore HW_.out hb (Nat.le_refl _))
  clear V1_ HW_ hb
  have k0 := V1.out.c0
  have k1 := V1.out.c1
  go_wp2_with fail
  refine (check_v _ _ _ _ _ _ [1, 2] someDisk 0 _ (Lib.hid V1.out.2) (Lib.hid (.inl ⟨by decide, rfl⟩))).mono ?_
  rintro e w13 ⟨rfl, hb⟩
  have hW := bmore HW.out hb (Nat.le_refl _)
  clear V1 HW hb k0 k1
  go_wp2
  go_ret
  exact ⟨rfl, hW⟩
end Go.Proofs.Ytnbnnnphepfkkaa
