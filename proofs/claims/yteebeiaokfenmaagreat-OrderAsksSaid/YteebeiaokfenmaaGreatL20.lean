/- Contracts of functions, L20: each as its theorem says. -/
import Derived.Test.YteebeiaokfenmaaGreatL19
set_option linter.unusedVariables false
set_option linter.unusedSimpArgs false
set_option maxRecDepth 100000
set_option maxHeartbeats 16000000
namespace Go.Proofs.YteebeiaokfenmaaGreat
namespace CP
open Go.RowKit
open CM (Mg Cm)
theorem front_2 (A : Option Addr) (n c : Nat) (l : List UInt8) (w : World) (hr : Rd w A n (bc l)) (h1 : n ≤ c) (h2 : c ≤ maxLen) (i : Bool) (hf : Fl (RM.fk l : Nat) false true false false false i) (hk : RM.fk l = 2) :
  Calls Tryz.prog 100 #[.slice A n c] w (FrontPost w l) := by
 have CF := h! (fun w => fields_any hf w)
 have S := h! (f0_new hr h1 h2)
 have hm := h! (show ((RM.gt l).1 : Int) % 256 = (RM.fk l : Int) by unfold RM.fk; omega)
 have HE := h! (show fr l = (⟨2, CM.mz, ((RM.gt (RM.f1 l)).1 : Nat), ((RM.gt (RM.gt (RM.f1 l)).2).1 : Nat), [], 0, 0, 0⟩ : Cm) by unfold fr frB; rw [if_neg (by omega), if_pos hk]; try rfl)
 have HK := h! hk
 clear hf hr hk
 go_enter Tryz.func100, Tryz.ntmps100
 go_upto_region 5 with (fail)
 generalize ((w.alloc (.cells #[.slice A n c] 120)).alloc (.cells #[.int .u8 0, .int .i64 0, .slice none 0 0, .int .i64 0, .string ⟨#[]⟩, .string ⟨#[]⟩, .int .i64 0, .int .i64 0, .slice none 0 0, .int .i64 0, .int .i64 0, .int .i64 0] 91)).alloc (.cells #[.int .u8 0, .int .i64 0, .slice none 0 0, .int .i64 0, .string ⟨#[]⟩, .string ⟨#[]⟩, .int .i64 0, .int .i64 0, .slice none 0 0, .int .i64 0, .int .i64 0, .int .i64 0] 91) = w1 at S ⊢
 generalize w.heap.size = g at S ⊢
 go_wp2_with fail
 refine (number_any g l w1 S.out.1).mono ?_
 rintro e w2 ⟨rfl, hn, hk⟩
 replace S := h! (S.out.num hn hk)
 clear hn hk
 have c0 := S.out.2.1.cell 0
 have f0 := S.out.2.1.frozen 0
 simp at c0
 go_upto_region 6 with (fail)
 clear c0 f0
 simp only [hm.out]
 replace S := h! (show F0 w _ g (RM.f1 l) #[.int .u8 (RM.fk l), .int .i64 0, .slice none 0 0, .int .i64 0, .string ⟨#[]⟩, .string ⟨#[]⟩, .int .i64 0, .int .i64 0, .slice none 0 0, .int .i64 0, .int .i64 0, .int .i64 0] from S.out.put 0 (.int .u8 (RM.fk l)))
 generalize w2.setCell ⟨g + 1 + 1, 0, none⟩ (.int .u8 (RM.fk l)) = w1 at S ⊢
 have c0 := S.out.2.1.cell 0
 simp at c0
 go_wp2_with fail
 refine (CF.out _).mono ?_
 rintro e w3 ⟨rfl, hb3⟩
 have S := h! (fr_at S.out hb3 false true false false false)
 clear hb3 CF c0
 go_upto_region 7 with (fail)
 generalize w3.alloc (.cells #[.bool false, .bool true, .bool false, .bool false, .bool false] 126) = w1 at S ⊢
 generalize w3.heap.size = f at S ⊢
 obtain ⟨y0, y1, y2, y3, y4⟩ := box_mg S.out.2.1
 go_wp2_with fail
 clear y0 y1 y2 y3 y4
 refine (number_any g _ _ S.out.1.1).mono ?_
 rintro e w2 ⟨rfl, hn, hk⟩
 replace S := h! (S.out.num hn hk)
 clear hn hk
 go_wp2_with fail
 refine (number_any g _ _ S.out.1.1).mono ?_
 rintro e w2 ⟨rfl, hn, hk⟩
 replace S := h! (S.out.num hn hk)
 clear hn hk
 have c6 := S.out.1.2.1.cell 6
 have f6 := S.out.1.2.1.frozen 6
 simp at c6
 have c7 := S.out.1.2.1.cell 7
 have f7 := S.out.1.2.1.frozen 7
 simp at c7
 go_upto_region 15 with (fail)
 clear c6 f6 c7 f7
 replace S := h! (show Fr w _ g f (RM.gt (RM.gt (RM.f1 l)).2).2 #[.int .u8 (RM.fk l), .int .i64 0, .slice none 0 0, .int .i64 0, .string ⟨#[]⟩, .string ⟨#[]⟩, .int .i64 (RM.gt (RM.f1 l)).1, .int .i64 (RM.gt (RM.gt (RM.f1 l)).2).1, .slice none 0 0, .int .i64 0, .int .i64 0, .int .i64 0] false true false false false none 0 [] from ((S.out).put 6 (.int .i64 (RM.gt (RM.f1 l)).1)).put 7 (.int .i64 (RM.gt (RM.gt (RM.f1 l)).2).1))
 generalize World.setCell _ ⟨g + 1 + 1, 7, none⟩ _ = wz at S ⊢
 obtain ⟨y0, y1, y2, y3, y4⟩ := box_mg S.out.2.1
 obtain ⟨c0, c1, c2, c3, c4, c5, c6, c7, c8, c9, c10, c11⟩ := box_cm S.out.1.2.1
 obtain ⟨d0, d1, d2, d3, d4, d5, d6, d7, d8, d9, d10, d11⟩ := box_cm S.out.1.2.2.1
 have g0 := S.out.1.2.2.1.frozen 0
 have g1 := S.out.1.2.2.1.frozen 1
 have g2 := S.out.1.2.2.1.frozen 2
 have g3 := S.out.1.2.2.1.frozen 3
 have g4 := S.out.1.2.2.1.frozen 4
 have g5 := S.out.1.2.2.1.frozen 5
 have g6 := S.out.1.2.2.1.frozen 6
 have g7 := S.out.1.2.2.1.frozen 7
 have g8 := S.out.1.2.2.1.frozen 8
 have g9 := S.out.1.2.2.1.frozen 9
 have g10 := S.out.1.2.2.1.frozen 10
 have g11 := S.out.1.2.2.1.frozen 11
 have HG := h! S.out.1.2.2.2.1
 have HB := h! S.out.1.2.2.2.2
 have HRow := h! S.out.2.2.2
 clear S
 go_wp2_with fail
 refine bodyPost_ret (v := .agg #[.int .u8 (RM.fk l), .int .i64 0, .slice none 0 0, .int .i64 0, .string ⟨#[]⟩, .string ⟨#[]⟩, .int .i64 (RM.gt (RM.f1 l)).1, .int .i64 (RM.gt (RM.gt (RM.f1 l)).2).1, .slice none 0 0, .int .i64 0, .int .i64 0, .int .i64 0]) (by simp [results, Tryz.results100, go_sem, d0, d1, d2, d3, d4, d5, d6, d7, d8, d9, d10, d11]; try rfl) rfl ?_
 unfold FrontPost
 rw [HE.out]
 have hrow := HRow.out.put12 (show g + 1 < g + 1 + 1 + 1 by omega) (.int .u8 (RM.fk l)) (.int .i64 0) (.slice none 0 0) (.int .i64 0) (.string ⟨#[]⟩) (.string ⟨#[]⟩) (.int .i64 (RM.gt (RM.f1 l)).1) (.int .i64 (RM.gt (RM.gt (RM.f1 l)).2).1) (.slice none 0 0) (.int .i64 0) (.int .i64 0) (.int .i64 0)
 refine ⟨_, rfl, ⟨none, 0, none, 0, ?_, RowGe.none _ _, RowGe.none _ _⟩, put12_below HB.out (by rw [← HG.out]; omega) (.int .u8 (RM.fk l)) (.int .i64 0) (.slice none 0 0) (.int .i64 0) (.string ⟨#[]⟩) (.string ⟨#[]⟩) (.int .i64 (RM.gt (RM.f1 l)).1) (.int .i64 (RM.gt (RM.gt (RM.f1 l)).2).1) (.slice none 0 0) (.int .i64 0) (.int .i64 0) (.int .i64 0)⟩
 rw [HK.out]; try simp only [ccells, CM.mz, zsl, List.length_nil]
 try rfl
theorem front_3 (A : Option Addr) (n c : Nat) (l : List UInt8) (w : World) (hr : Rd w A n (bc l)) (h1 : n ≤ c) (h2 : c ≤ maxLen) (i : Bool) (hf : Fl (RM.fk l : Nat) false false true false false i) (hk : RM.fk l = 3) :
  Calls Tryz.prog 100 #[.slice A n c] w (FrontPost w l) := by
 have CF := h! (fun w => fields_any hf w)
 have S := h! (f0_new hr h1 h2)
 have hm := h! (show ((RM.gt l).1 : Int) % 256 = (RM.fk l : Int) by unfold RM.fk; omega)
 have HE := h! (show fr l = (⟨3, CM.mz, 0, 0, (CM.zs (gl 6 (RM.f1 l)).1), 0, 0, 0⟩ : Cm) by unfold fr frB; rw [if_neg (by omega), if_neg (by omega), if_pos hk]; try rfl)
 have HK := h! hk
 clear hf hr hk
 go_enter Tryz.func100, Tryz.ntmps100
 go_upto_region 5 with (fail)
 generalize ((w.alloc (.cells #[.slice A n c] 120)).alloc (.cells #[.int .u8 0, .int .i64 0, .slice none 0 0, .int .i64 0, .string ⟨#[]⟩, .string ⟨#[]⟩, .int .i64 0, .int .i64 0, .slice none 0 0, .int .i64 0, .int .i64 0, .int .i64 0] 91)).alloc (.cells #[.int .u8 0, .int .i64 0, .slice none 0 0, .int .i64 0, .string ⟨#[]⟩, .string ⟨#[]⟩, .int .i64 0, .int .i64 0, .slice none 0 0, .int .i64 0, .int .i64 0, .int .i64 0] 91) = w1 at S ⊢
 generalize w.heap.size = g at S ⊢
 go_wp2_with fail
 refine (number_any g l w1 S.out.1).mono ?_
 rintro e w2 ⟨rfl, hn, hk⟩
 replace S := h! (S.out.num hn hk)
 clear hn hk
 have c0 := S.out.2.1.cell 0
 have f0 := S.out.2.1.frozen 0
 simp at c0
 go_upto_region 6 with (fail)
 clear c0 f0
 simp only [hm.out]
 replace S := h! (show F0 w _ g (RM.f1 l) #[.int .u8 (RM.fk l), .int .i64 0, .slice none 0 0, .int .i64 0, .string ⟨#[]⟩, .string ⟨#[]⟩, .int .i64 0, .int .i64 0, .slice none 0 0, .int .i64 0, .int .i64 0, .int .i64 0] from S.out.put 0 (.int .u8 (RM.fk l)))
 generalize w2.setCell ⟨g + 1 + 1, 0, none⟩ (.int .u8 (RM.fk l)) = w1 at S ⊢
 have c0 := S.out.2.1.cell 0
 simp at c0
 go_wp2_with fail
 refine (CF.out _).mono ?_
 rintro e w3 ⟨rfl, hb3⟩
 have S := h! (fr_at S.out hb3 false false true false false)
 clear hb3 CF c0
 go_upto_region 7 with (fail)
 generalize w3.alloc (.cells #[.bool false, .bool false, .bool true, .bool false, .bool false] 126) = w1 at S ⊢
 generalize w3.heap.size = f at S ⊢
 obtain ⟨y0, y1, y2, y3, y4⟩ := box_mg S.out.2.1
 go_wp2_with fail
 clear y0 y1 y2 y3 y4
 refine (list_any g 6 _ _ S.out.1.1 (by omega)).mono ?_
 rintro e w2 ⟨B, d, rfl, hrow, hn, hk⟩
 replace S := h! (S.out.lst hn hk hrow)
 clear hn hk hrow
 have c8 := S.out.1.2.1.cell 8
 have f8 := S.out.1.2.1.frozen 8
 simp at c8
 go_upto_region 17 with (fail)
 clear c8 f8
 replace S := h! (show Fr w _ g f (gl 6 (RM.f1 l)).2 #[.int .u8 (RM.fk l), .int .i64 0, .slice none 0 0, .int .i64 0, .string ⟨#[]⟩, .string ⟨#[]⟩, .int .i64 0, .int .i64 0, .slice B (gl 6 (RM.f1 l)).1.length d, .int .i64 0, .int .i64 0, .int .i64 0] false false true false false B d (CM.zs (gl 6 (RM.f1 l)).1) from (S.out).put 8 (.slice B (gl 6 (RM.f1 l)).1.length d))
 generalize World.setCell _ ⟨g + 1 + 1, 8, none⟩ _ = wz at S ⊢
 obtain ⟨y0, y1, y2, y3, y4⟩ := box_mg S.out.2.1
 obtain ⟨c0, c1, c2, c3, c4, c5, c6, c7, c8, c9, c10, c11⟩ := box_cm S.out.1.2.1
 obtain ⟨d0, d1, d2, d3, d4, d5, d6, d7, d8, d9, d10, d11⟩ := box_cm S.out.1.2.2.1
 have g0 := S.out.1.2.2.1.frozen 0
 have g1 := S.out.1.2.2.1.frozen 1
 have g2 := S.out.1.2.2.1.frozen 2
 have g3 := S.out.1.2.2.1.frozen 3
 have g4 := S.out.1.2.2.1.frozen 4
 have g5 := S.out.1.2.2.1.frozen 5
 have g6 := S.out.1.2.2.1.frozen 6
 have g7 := S.out.1.2.2.1.frozen 7
 have g8 := S.out.1.2.2.1.frozen 8
 have g9 := S.out.1.2.2.1.frozen 9
 have g10 := S.out.1.2.2.1.frozen 10
 have g11 := S.out.1.2.2.1.frozen 11
 have HG := h! S.out.1.2.2.2.1
 have HB := h! S.out.1.2.2.2.2
 have HRow := h! S.out.2.2.2
 clear S
 go_wp2_with fail
 refine bodyPost_ret (v := .agg #[.int .u8 (RM.fk l), .int .i64 0, .slice none 0 0, .int .i64 0, .string ⟨#[]⟩, .string ⟨#[]⟩, .int .i64 0, .int .i64 0, .slice B (gl 6 (RM.f1 l)).1.length d, .int .i64 0, .int .i64 0, .int .i64 0]) (by simp [results, Tryz.results100, go_sem, d0, d1, d2, d3, d4, d5, d6, d7, d8, d9, d10, d11]; try rfl) rfl ?_
 unfold FrontPost
 rw [HE.out]
 have hrow := HRow.out.put12 (show g + 1 < g + 1 + 1 + 1 by omega) (.int .u8 (RM.fk l)) (.int .i64 0) (.slice none 0 0) (.int .i64 0) (.string ⟨#[]⟩) (.string ⟨#[]⟩) (.int .i64 0) (.int .i64 0) (.slice B (gl 6 (RM.f1 l)).1.length d) (.int .i64 0) (.int .i64 0) (.int .i64 0)
 refine ⟨_, rfl, ⟨none, 0, B, d, ?_, RowGe.none _ _, hrow.mono (by rw [← HG.out]; omega)⟩, put12_below HB.out (by rw [← HG.out]; omega) (.int .u8 (RM.fk l)) (.int .i64 0) (.slice none 0 0) (.int .i64 0) (.string ⟨#[]⟩) (.string ⟨#[]⟩) (.int .i64 0) (.int .i64 0) (.slice B (gl 6 (RM.f1 l)).1.length d) (.int .i64 0) (.int .i64 0) (.int .i64 0)⟩
 rw [HK.out]; try simp only [ccells, CM.mz, zsl, List.length_nil]
 try rfl
theorem front_4 (A : Option Addr) (n c : Nat) (l : List UInt8) (w : World) (hr : Rd w A n (bc l)) (h1 : n ≤ c) (h2 : c ≤ maxLen) (i : Bool) (hf : Fl (RM.fk l : Nat) false false false true true i) (hk : RM.fk l = 4) :
  Calls Tryz.prog 100 #[.slice A n c] w (FrontPost w l) := by
 have CF := h! (fun w => fields_any hf w)
 have S := h! (f0_new hr h1 h2)
 have hm := h! (show ((RM.gt l).1 : Int) % 256 = (RM.fk l : Int) by unfold RM.fk; omega)
 have HE := h! (show fr l = (⟨4, CM.mz, ((RM.gt (RM.f1 l)).1 : Nat), 0, [], ((RM.gt (RM.gt (RM.f1 l)).2).1 : Nat), ((RM.gt (RM.gt (RM.gt (RM.f1 l)).2).2).1 : Nat), ((RM.gt (RM.gt (RM.gt (RM.gt (RM.f1 l)).2).2).2).1 : Nat)⟩ : Cm) by unfold fr frB; rw [if_neg (by omega), if_neg (by omega), if_neg (by omega), if_pos hk]; try rfl)
 have HK := h! hk
 clear hf hr hk
 go_enter Tryz.func100, Tryz.ntmps100
 go_upto_region 5 with (fail)
 generalize ((w.alloc (.cells #[.slice A n c] 120)).alloc (.cells #[.int .u8 0, .int .i64 0, .slice none 0 0, .int .i64 0, .string ⟨#[]⟩, .string ⟨#[]⟩, .int .i64 0, .int .i64 0, .slice none 0 0, .int .i64 0, .int .i64 0, .int .i64 0] 91)).alloc (.cells #[.int .u8 0, .int .i64 0, .slice none 0 0, .int .i64 0, .string ⟨#[]⟩, .string ⟨#[]⟩, .int .i64 0, .int .i64 0, .slice none 0 0, .int .i64 0, .int .i64 0, .int .i64 0] 91) = w1 at S ⊢
 generalize w.heap.size = g at S ⊢
 go_wp2_with fail
 refine (number_any g l w1 S.out.1).mono ?_
 rintro e w2 ⟨rfl, hn, hk⟩
 replace S := h! (S.out.num hn hk)
 clear hn hk
 have c0 := S.out.2.1.cell 0
 have f0 := S.out.2.1.frozen 0
 simp at c0
 go_upto_region 6 with (fail)
 clear c0 f0
 simp only [hm.out]
 replace S := h! (show F0 w _ g (RM.f1 l) #[.int .u8 (RM.fk l), .int .i64 0, .slice none 0 0, .int .i64 0, .string ⟨#[]⟩, .string ⟨#[]⟩, .int .i64 0, .int .i64 0, .slice none 0 0, .int .i64 0, .int .i64 0, .int .i64 0] from S.out.put 0 (.int .u8 (RM.fk l)))
 generalize w2.setCell ⟨g + 1 + 1, 0, none⟩ (.int .u8 (RM.fk l)) = w1 at S ⊢
 have c0 := S.out.2.1.cell 0
 simp at c0
 go_wp2_with fail
 refine (CF.out _).mono ?_
 rintro e w3 ⟨rfl, hb3⟩
 have S := h! (fr_at S.out hb3 false false false true true)
 clear hb3 CF c0
 go_upto_region 7 with (fail)
 generalize w3.alloc (.cells #[.bool false, .bool false, .bool false, .bool true, .bool true] 126) = w1 at S ⊢
 generalize w3.heap.size = f at S ⊢
 obtain ⟨y0, y1, y2, y3, y4⟩ := box_mg S.out.2.1
 go_wp2_with fail
 clear y0 y1 y2 y3 y4
 refine (number_any g _ _ S.out.1.1).mono ?_
 rintro e w2 ⟨rfl, hn, hk⟩
 replace S := h! (S.out.num hn hk)
 clear hn hk
 go_wp2_with fail
 refine (number_any g _ _ S.out.1.1).mono ?_
 rintro e w2 ⟨rfl, hn, hk⟩
 replace S := h! (S.out.num hn hk)
 clear hn hk
 have c6 := S.out.1.2.1.cell 6
 have f6 := S.out.1.2.1.frozen 6
 simp at c6
 have c9 := S.out.1.2.1.cell 9
 have f9 := S.out.1.2.1.frozen 9
 simp at c9
 go_upto_region 19 with (fail)
 clear c6 f6 c9 f9
 replace S := h! (show Fr w _ g f (RM.gt (RM.gt (RM.f1 l)).2).2 #[.int .u8 (RM.fk l), .int .i64 0, .slice none 0 0, .int .i64 0, .string ⟨#[]⟩, .string ⟨#[]⟩, .int .i64 (RM.gt (RM.f1 l)).1, .int .i64 0, .slice none 0 0, .int .i64 (RM.gt (RM.gt (RM.f1 l)).2).1, .int .i64 0, .int .i64 0] false false false true true none 0 [] from ((S.out).put 6 (.int .i64 (RM.gt (RM.f1 l)).1)).put 9 (.int .i64 (RM.gt (RM.gt (RM.f1 l)).2).1))
 generalize World.setCell _ ⟨g + 1 + 1, 9, none⟩ _ = wz at S ⊢
 obtain ⟨y0, y1, y2, y3, y4⟩ := box_mg S.out.2.1
 go_wp2_with fail
 clear y0 y1 y2 y3 y4
 refine (number_any g _ _ S.out.1.1).mono ?_
 rintro e w2 ⟨rfl, hn, hk⟩
 replace S := h! (S.out.num hn hk)
 clear hn hk
 have c10 := S.out.1.2.1.cell 10
 have f10 := S.out.1.2.1.frozen 10
 simp at c10
 go_upto_region 21 with (fail)
 clear c10 f10
 replace S := h! (show Fr w _ g f (RM.gt (RM.gt (RM.gt (RM.f1 l)).2).2).2 #[.int .u8 (RM.fk l), .int .i64 0, .slice none 0 0, .int .i64 0, .string ⟨#[]⟩, .string ⟨#[]⟩, .int .i64 (RM.gt (RM.f1 l)).1, .int .i64 0, .slice none 0 0, .int .i64 (RM.gt (RM.gt (RM.f1 l)).2).1, .int .i64 (RM.gt (RM.gt (RM.gt (RM.f1 l)).2).2).1, .int .i64 0] false false false true true none 0 [] from (S.out).put 10 (.int .i64 (RM.gt (RM.gt (RM.gt (RM.f1 l)).2).2).1))
 generalize World.setCell _ ⟨g + 1 + 1, 10, none⟩ _ = wz at S ⊢
 obtain ⟨y0, y1, y2, y3, y4⟩ := box_mg S.out.2.1
 go_wp2_with fail
 clear y0 y1 y2 y3 y4
 refine (number_any g _ _ S.out.1.1).mono ?_
 rintro e w2 ⟨rfl, hn, hk⟩
 replace S := h! (S.out.num hn hk)
 clear hn hk
 have c11 := S.out.1.2.1.cell 11
 have f11 := S.out.1.2.1.frozen 11
 simp at c11
 go_upto_region 22 with (fail)
 clear c11 f11
 replace S := h! (show Fr w _ g f (RM.gt (RM.gt (RM.gt (RM.gt (RM.f1 l)).2).2).2).2 #[.int .u8 (RM.fk l), .int .i64 0, .slice none 0 0, .int .i64 0, .string ⟨#[]⟩, .string ⟨#[]⟩, .int .i64 (RM.gt (RM.f1 l)).1, .int .i64 0, .slice none 0 0, .int .i64 (RM.gt (RM.gt (RM.f1 l)).2).1, .int .i64 (RM.gt (RM.gt (RM.gt (RM.f1 l)).2).2).1, .int .i64 (RM.gt (RM.gt (RM.gt (RM.gt (RM.f1 l)).2).2).2).1] false false false true true none 0 [] from (S.out).put 11 (.int .i64 (RM.gt (RM.gt (RM.gt (RM.gt (RM.f1 l)).2).2).2).1))
 generalize World.setCell _ ⟨g + 1 + 1, 11, none⟩ _ = wz at S ⊢
 obtain ⟨y0, y1, y2, y3, y4⟩ := box_mg S.out.2.1
 obtain ⟨c0, c1, c2, c3, c4, c5, c6, c7, c8, c9, c10, c11⟩ := box_cm S.out.1.2.1
 obtain ⟨d0, d1, d2, d3, d4, d5, d6, d7, d8, d9, d10, d11⟩ := box_cm S.out.1.2.2.1
 have g0 := S.out.1.2.2.1.frozen 0
 have g1 := S.out.1.2.2.1.frozen 1
 have g2 := S.out.1.2.2.1.frozen 2
 have g3 := S.out.1.2.2.1.frozen 3
 have g4 := S.out.1.2.2.1.frozen 4
 have g5 := S.out.1.2.2.1.frozen 5
 have g6 := S.out.1.2.2.1.frozen 6
 have g7 := S.out.1.2.2.1.frozen 7
 have g8 := S.out.1.2.2.1.frozen 8
 have g9 := S.out.1.2.2.1.frozen 9
 have g10 := S.out.1.2.2.1.frozen 10
 have g11 := S.out.1.2.2.1.frozen 11
 have HG := h! S.out.1.2.2.2.1
 have HB := h! S.out.1.2.2.2.2
 have HRow := h! S.out.2.2.2
 clear S
 go_wp2_with fail
 refine bodyPost_ret (v := .agg #[.int .u8 (RM.fk l), .int .i64 0, .slice none 0 0, .int .i64 0, .string ⟨#[]⟩, .string ⟨#[]⟩, .int .i64 (RM.gt (RM.f1 l)).1, .int .i64 0, .slice none 0 0, .int .i64 (RM.gt (RM.gt (RM.f1 l)).2).1, .int .i64 (RM.gt (RM.gt (RM.gt (RM.f1 l)).2).2).1, .int .i64 (RM.gt (RM.gt (RM.gt (RM.gt (RM.f1 l)).2).2).2).1]) (by simp [results, Tryz.results100, go_sem, d0, d1, d2, d3, d4, d5, d6, d7, d8, d9, d10, d11]; try rfl) rfl ?_
 unfold FrontPost
 rw [HE.out]
 have hrow := HRow.out.put12 (show g + 1 < g + 1 + 1 + 1 by omega) (.int .u8 (RM.fk l)) (.int .i64 0) (.slice none 0 0) (.int .i64 0) (.string ⟨#[]⟩) (.string ⟨#[]⟩) (.int .i64 (RM.gt (RM.f1 l)).1) (.int .i64 0) (.slice none 0 0) (.int .i64 (RM.gt (RM.gt (RM.f1 l)).2).1) (.int .i64 (RM.gt (RM.gt (RM.gt (RM.f1 l)).2).2).1) (.int .i64 (RM.gt (RM.gt (RM.gt (RM.gt (RM.f1 l)).2).2).2).1)
 refine ⟨_, rfl, ⟨none, 0, none, 0, ?_, RowGe.none _ _, RowGe.none _ _⟩, put12_below HB.out (by rw [← HG.out]; omega) (.int .u8 (RM.fk l)) (.int .i64 0) (.slice none 0 0) (.int .i64 0) (.string ⟨#[]⟩) (.string ⟨#[]⟩) (.int .i64 (RM.gt (RM.f1 l)).1) (.int .i64 0) (.slice none 0 0) (.int .i64 (RM.gt (RM.gt (RM.f1 l)).2).1) (.int .i64 (RM.gt (RM.gt (RM.gt (RM.f1 l)).2).2).1) (.int .i64 (RM.gt (RM.gt (RM.gt (RM.gt (RM.f1 l)).2).2).2).1)⟩
 rw [HK.out]; try simp only [ccells, CM.mz, zsl, List.length_nil]
 try rfl
end CP
end Go.Proofs.YteebeiaokfenmaaGreat
