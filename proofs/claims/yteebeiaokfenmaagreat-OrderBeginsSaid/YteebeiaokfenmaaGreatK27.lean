/-
  What package command's front answers, shape 1. Conditions: the slice reads as bytes.
-/
import Derived.Test.YteebeiaokfenmaaGreatK20
import Derived.Deep.DeepCutAuto
namespace Go.Proofs.YteebeiaokfenmaaGreat.CP
open Go.RowKit
open CM (Mg Cm)
set_option linter.unusedVariables false
set_option linter.unusedSimpArgs false
set_option maxRecDepth 100000

set_option maxHeartbeats 4000000 in
theorem front_1 (A : Option Addr) (n c : Nat) (l : List UInt8) (w : World) (hr : Rd w A n (bc l)) (h1 : n ≤ c) (h2 : c ≤ maxLen) (i : Bool) (hf : Fl (RM.fk l : Nat) true false false false false i) (hk : RM.fk l = 1) :
    Calls Tryz.prog 100 #[.slice A n c] w (FrontPost w l) := by
  have CF := Lib.hid (fun w => fields_any hf w)
  have S := Lib.hid (f0_new hr h1 h2)
  have hm := Lib.hid (show ((RM.gt l).1 : Int) % 256 = (RM.fk l : Int) by unfold RM.fk; omega)
  have HE := Lib.hid (show fr l = (⟨1, ⟨(RM.gt (RM.f1 l)).1, (CM.zs (gl 4 (RM.gt (RM.f1 l)).2).1), ((RM.gt (gl 4 (RM.gt (RM.f1 l)).2).2).1 : Nat), ⟨((gx (RM.gt (gl 4 (RM.gt (RM.f1 l)).2).2).2).1).toArray⟩, ⟨((gx (gx (RM.gt (gl 4 (RM.gt (RM.f1 l)).2).2).2).2).1).toArray⟩⟩, 0, 0, [], 0, 0, 0⟩ : Cm) by unfold fr frB; rw [if_pos hk]; try rfl)
  have HK := Lib.hid hk
  clear hf hr hk
  go_enter Tryz.func100, Tryz.ntmps100
  go_upto_region 5 with (fail)
  generalize ((w.alloc (.cells #[.slice A n c] 120)).alloc (.cells #[.int .u8 0, .int .i64 0, .slice none 0 0, .int .i64 0, .string ⟨#[]⟩, .string ⟨#[]⟩, .int .i64 0, .int .i64 0, .slice none 0 0, .int .i64 0, .int .i64 0, .int .i64 0] 91)).alloc (.cells #[.int .u8 0, .int .i64 0, .slice none 0 0, .int .i64 0, .string ⟨#[]⟩, .string ⟨#[]⟩, .int .i64 0, .int .i64 0, .slice none 0 0, .int .i64 0, .int .i64 0, .int .i64 0] 91) = w1 at S ⊢
  generalize w.heap.size = g at S ⊢
  go_wp2_with fail
  refine (number_any g l w1 S.out.1).mono ?_
  rintro e w2 ⟨rfl, hn, hk⟩
  replace S := Lib.hid (S.out.num hn hk)
  clear hn hk
  have c0 := S.out.2.1.cell 0
  have f0 := S.out.2.1.frozen 0
  simp at c0
  go_upto_region 6 with (fail)
  clear c0 f0
  simp only [hm.out]
  replace S := Lib.hid (show F0 w _ g (RM.f1 l) #[.int .u8 (RM.fk l), .int .i64 0, .slice none 0 0, .int .i64 0, .string ⟨#[]⟩, .string ⟨#[]⟩, .int .i64 0, .int .i64 0, .slice none 0 0, .int .i64 0, .int .i64 0, .int .i64 0] from S.out.put 0 (.int .u8 (RM.fk l)))
  generalize w2.setCell ⟨g + 1 + 1, 0, none⟩ (.int .u8 (RM.fk l)) = w1 at S ⊢
  have c0 := S.out.2.1.cell 0
  simp at c0
  go_wp2_with fail
  refine (CF.out _).mono ?_
  rintro e w3 ⟨rfl, hb3⟩
  have S := Lib.hid (fr_at S.out hb3 true false false false false)
  clear hb3 CF c0
  go_upto_region 7 with (fail)
  generalize w3.alloc (.cells #[.bool true, .bool false, .bool false, .bool false, .bool false] 126) = w1 at S ⊢
  generalize w3.heap.size = f at S ⊢
  obtain ⟨y0, y1, y2, y3, y4⟩ := box_mg S.out.2.1
  go_wp2_with fail
  clear y0 y1 y2 y3 y4
  refine (number_any g _ _ S.out.1.1).mono ?_
  rintro e w2 ⟨rfl, hn, hk⟩
  replace S := Lib.hid (S.out.num hn hk)
  clear hn hk
  have c1 := S.out.1.2.1.cell 1
  have f1 := S.out.1.2.1.frozen 1
  simp at c1
  go_upto_region 9 with (fail)
  clear c1 f1
  replace S := Lib.hid (show Fr w _ g f (RM.gt (RM.f1 l)).2 #[.int .u8 (RM.fk l), .int .i64 (RM.gt (RM.f1 l)).1, .slice none 0 0, .int .i64 0, .string ⟨#[]⟩, .string ⟨#[]⟩, .int .i64 0, .int .i64 0, .slice none 0 0, .int .i64 0, .int .i64 0, .int .i64 0] true false false false false none 0 [] from (S.out).put 1 (.int .i64 (RM.gt (RM.f1 l)).1))
  generalize World.setCell _ ⟨g + 1 + 1, 1, none⟩ _ = wz at S ⊢
  obtain ⟨y0, y1, y2, y3, y4⟩ := box_mg S.out.2.1
  go_wp2_with fail
  clear y0 y1 y2 y3 y4
  refine (list_any g 4 _ _ S.out.1.1 (by omega)).mono ?_
  rintro e w2 ⟨B, d, rfl, hrow, hn, hk⟩
  replace S := Lib.hid (S.out.lst hn hk hrow)
  clear hn hk hrow
  have c2 := S.out.1.2.1.cell 2
  have f2 := S.out.1.2.1.frozen 2
  simp at c2
  go_upto_region 10 with (fail)
  clear c2 f2
  replace S := Lib.hid (show Fr w _ g f (gl 4 (RM.gt (RM.f1 l)).2).2 #[.int .u8 (RM.fk l), .int .i64 (RM.gt (RM.f1 l)).1, .slice B (gl 4 (RM.gt (RM.f1 l)).2).1.length d, .int .i64 0, .string ⟨#[]⟩, .string ⟨#[]⟩, .int .i64 0, .int .i64 0, .slice none 0 0, .int .i64 0, .int .i64 0, .int .i64 0] true false false false false B d (CM.zs (gl 4 (RM.gt (RM.f1 l)).2).1) from (S.out).put 2 (.slice B (gl 4 (RM.gt (RM.f1 l)).2).1.length d))
  generalize World.setCell _ ⟨g + 1 + 1, 2, none⟩ _ = wz at S ⊢
  obtain ⟨y0, y1, y2, y3, y4⟩ := box_mg S.out.2.1
  go_wp2_with fail
  clear y0 y1 y2 y3 y4
  refine (number_any g _ _ S.out.1.1).mono ?_
  rintro e w2 ⟨rfl, hn, hk⟩
  replace S := Lib.hid (S.out.num hn hk)
  clear hn hk
  have c3 := S.out.1.2.1.cell 3
  have f3 := S.out.1.2.1.frozen 3
  simp at c3
  go_upto_region 11 with (fail)
  clear c3 f3
  replace S := Lib.hid (show Fr w _ g f (RM.gt (gl 4 (RM.gt (RM.f1 l)).2).2).2 #[.int .u8 (RM.fk l), .int .i64 (RM.gt (RM.f1 l)).1, .slice B (gl 4 (RM.gt (RM.f1 l)).2).1.length d, .int .i64 (RM.gt (gl 4 (RM.gt (RM.f1 l)).2).2).1, .string ⟨#[]⟩, .string ⟨#[]⟩, .int .i64 0, .int .i64 0, .slice none 0 0, .int .i64 0, .int .i64 0, .int .i64 0] true false false false false B d (CM.zs (gl 4 (RM.gt (RM.f1 l)).2).1) from (S.out).put 3 (.int .i64 (RM.gt (gl 4 (RM.gt (RM.f1 l)).2).2).1))
  generalize World.setCell _ ⟨g + 1 + 1, 3, none⟩ _ = wz at S ⊢
  obtain ⟨y0, y1, y2, y3, y4⟩ := box_mg S.out.2.1
  go_wp2_with fail
  clear y0 y1 y2 y3 y4
  refine (text_any g _ _ S.out.1.1).mono ?_
  rintro e w2 ⟨rfl, hn, hk⟩
  replace S := Lib.hid (S.out.num hn hk)
  clear hn hk
  have c4 := S.out.1.2.1.cell 4
  have f4 := S.out.1.2.1.frozen 4
  simp at c4
  go_upto_region 12 with (fail)
  clear c4 f4
  replace S := Lib.hid (show Fr w _ g f (gx (RM.gt (gl 4 (RM.gt (RM.f1 l)).2).2).2).2 #[.int .u8 (RM.fk l), .int .i64 (RM.gt (RM.f1 l)).1, .slice B (gl 4 (RM.gt (RM.f1 l)).2).1.length d, .int .i64 (RM.gt (gl 4 (RM.gt (RM.f1 l)).2).2).1, .string ⟨(gx (RM.gt (gl 4 (RM.gt (RM.f1 l)).2).2).2).1.toArray⟩, .string ⟨#[]⟩, .int .i64 0, .int .i64 0, .slice none 0 0, .int .i64 0, .int .i64 0, .int .i64 0] true false false false false B d (CM.zs (gl 4 (RM.gt (RM.f1 l)).2).1) from (S.out).put 4 (.string ⟨(gx (RM.gt (gl 4 (RM.gt (RM.f1 l)).2).2).2).1.toArray⟩))
  generalize World.setCell _ ⟨g + 1 + 1, 4, none⟩ _ = wz at S ⊢
  obtain ⟨y0, y1, y2, y3, y4⟩ := box_mg S.out.2.1
  go_wp2_with fail
  clear y0 y1 y2 y3 y4
  refine (text_any g _ _ S.out.1.1).mono ?_
  rintro e w2 ⟨rfl, hn, hk⟩
  replace S := Lib.hid (S.out.num hn hk)
  clear hn hk
  have c5 := S.out.1.2.1.cell 5
  have f5 := S.out.1.2.1.frozen 5
  simp at c5
  go_upto_region 13 with (fail)
  clear c5 f5
  replace S := Lib.hid (show Fr w _ g f (gx (gx (RM.gt (gl 4 (RM.gt (RM.f1 l)).2).2).2).2).2 #[.int .u8 (RM.fk l), .int .i64 (RM.gt (RM.f1 l)).1, .slice B (gl 4 (RM.gt (RM.f1 l)).2).1.length d, .int .i64 (RM.gt (gl 4 (RM.gt (RM.f1 l)).2).2).1, .string ⟨(gx (RM.gt (gl 4 (RM.gt (RM.f1 l)).2).2).2).1.toArray⟩, .string ⟨(gx (gx (RM.gt (gl 4 (RM.gt (RM.f1 l)).2).2).2).2).1.toArray⟩, .int .i64 0, .int .i64 0, .slice none 0 0, .int .i64 0, .int .i64 0, .int .i64 0] true false false false false B d (CM.zs (gl 4 (RM.gt (RM.f1 l)).2).1) from (S.out).put 5 (.string ⟨(gx (gx (RM.gt (gl 4 (RM.gt (RM.f1 l)).2).2).2).2).1.toArray⟩))
  generalize World.setCell _ ⟨g + 1 + 1, 5, none⟩ _ = wz at S ⊢
  obtain ⟨y0, y1, y2, y3, y4⟩ := box_mg S.out.2.1
  obtain ⟨c0, c1, c2, c3, c4, c5, c6, c7, c8, c9, c10, c11⟩ := box_cm S.out.1.2.1
  obtain ⟨d0, d1, d2, d3, d4, d5, d6, d7, d8, d9, d10, d11⟩ := box_cm S.out.1.2.2.1
  have g0 := S.out.1.2.2.1.frozen 0
  have g1 := S.out.1.2.2.1.frozen 1
  have g2 := S.out.1.2.2.1.frozen 2
  have g3 := S.out.1.2.2.1.frozen 3
  have g4 := S.out.1.2.2.1.frozen 4
  have g5 := S.out.1.2.2.1.frozen 5
  have g6 := S.out.1.2.2.1.frozen 6
  have g7 := S.out.1.2.2.1.frozen 7
  have g8 := S.out.1.2.2.1.frozen 8
  have g9 := S.out.1.2.2.1.frozen 9
  have g10 := S.out.1.2.2.1.frozen 10
  have g11 := S.out.1.2.2.1.frozen 11
  have HG := Lib.hid S.out.1.2.2.2.1
  have HB := Lib.hid S.out.1.2.2.2.2
  have HRow := Lib.hid S.out.2.2.2
  clear S
  go_wp2_with fail
  refine bodyPost_ret (v := .agg #[.int .u8 (RM.fk l), .int .i64 (RM.gt (RM.f1 l)).1, .slice B (gl 4 (RM.gt (RM.f1 l)).2).1.length d, .int .i64 (RM.gt (gl 4 (RM.gt (RM.f1 l)).2).2).1, .string ⟨(gx (RM.gt (gl 4 (RM.gt (RM.f1 l)).2).2).2).1.toArray⟩, .string ⟨(gx (gx (RM.gt (gl 4 (RM.gt (RM.f1 l)).2).2).2).2).1.toArray⟩, .int .i64 0, .int .i64 0, .slice none 0 0, .int .i64 0, .int .i64 0, .int .i64 0]) (by simp [results, Tryz.results100, go_sem, d0, d1, d2, d3, d4, d5, d6, d7, d8, d9, d10, d11]; try rfl) rfl ?_
  unfold FrontPost
  rw [HE.out]
  have hrow := HRow.out.put12 (show g + 1 < g + 1 + 1 + 1 by omega) (.int .u8 (RM.fk l)) (.int .i64 (RM.gt (RM.f1 l)).1) (.slice B (gl 4 (RM.gt (RM.f1 l)).2).1.length d) (.int .i64 (RM.gt (gl 4 (RM.gt (RM.f1 l)).2).2).1) (.string ⟨(gx (RM.gt (gl 4 (RM.gt (RM.f1 l)).2).2).2).1.toArray⟩) (.string ⟨(gx (gx (RM.gt (gl 4 (RM.gt (RM.f1 l)).2).2).2).2).1.toArray⟩) (.int .i64 0) (.int .i64 0) (.slice none 0 0) (.int .i64 0) (.int .i64 0) (.int .i64 0)
  refine ⟨_, rfl, ⟨B, d, none, 0, ?_, hrow.mono (by rw [← HG.out]; omega), RowGe.none _ _⟩, put12_below HB.out (by rw [← HG.out]; omega) (.int .u8 (RM.fk l)) (.int .i64 (RM.gt (RM.f1 l)).1) (.slice B (gl 4 (RM.gt (RM.f1 l)).2).1.length d) (.int .i64 (RM.gt (gl 4 (RM.gt (RM.f1 l)).2).2).1) (.string ⟨(gx (RM.gt (gl 4 (RM.gt (RM.f1 l)).2).2).2).1.toArray⟩) (.string ⟨(gx (gx (RM.gt (gl 4 (RM.gt (RM.f1 l)).2).2).2).2).1.toArray⟩) (.int .i64 0) (.int .i64 0) (.slice none 0 0) (.int .i64 0) (.int .i64 0) (.int .i64 0)⟩
  rw [HK.out]; try simp only [ccells, CM.mz, zsl, List.length_nil]
  try rfl
end Go.Proofs.YteebeiaokfenmaaGreat.CP
