/- Contracts of functions, L23: each as its theorem says. -/
import Derived.Test.YteebeiaokfenmaaGreatL17
set_option linter.unusedVariables false
set_option linter.unusedSimpArgs false
set_option maxRecDepth 100000
set_option maxHeartbeats 16000000
namespace Go.Proofs.YteebeiaokfenmaaGreat
namespace CP
open Go.RowKit
open CM (Mg Cm)
section
variable {k aid atm atp awh an : Int} {am : Mg} {ams : List Int}
theorem may_fl {f1 f2 f3 f4 f5 f6 : Bool} (h : Fl k f1 f2 f3 f4 f5 f6) : CM.may ⟨k, am, aid, atm, ams, atp, awh, an⟩ ↔ (f6 = true ∧ (if f1 = true then CM.mgOk am else am = CM.mz) ∧ (if f3 = true then QM.may ams = true else ams = []) ∧ (if (f2 || f4) = true then 0 ≤ aid ∧ aid ≤ 6291455 else aid = 0) ∧ (if f2 = true then 1 ≤ atm ∧ atm ≤ 1073741824 else atm = 0) ∧ (if f4 = true then 0 ≤ atp ∧ atp ≤ 3 else atp = 0) ∧ (if f5 = true then 0 ≤ awh ∧ awh ≤ 7 else awh = 0) ∧ (if f4 = true then 0 ≤ an ∧ an ≤ 1073741824 else an = 0)) := by
 rcases h with ⟨rfl, rfl, rfl, rfl, rfl, rfl, rfl⟩ | ⟨rfl, rfl, rfl, rfl, rfl, rfl, rfl⟩ | ⟨rfl, rfl, rfl, rfl, rfl, rfl, rfl⟩ | ⟨rfl, rfl, rfl, rfl, rfl, rfl, rfl⟩ | ⟨rfl, rfl, rfl, rfl, rfl, rfl, rfl⟩ | ⟨rfl, rfl, rfl, rfl, rfl, rfl, rfl⟩ | ⟨rfl, rfl, rfl, rfl, rfl, rfl, rfl⟩ | ⟨hk, rfl, rfl, rfl, rfl, rfl, rfl⟩
 ·rw [may_iff0]; unfold CM.zero; simp; try grind
 ·rw [may_iff1]; simp; try grind
 ·rw [may_iff2]; unfold CM.idOk; simp; try grind
 ·rw [may_iff3]; simp; try grind
 ·rw [may_iff4]; unfold CM.idOk; simp; try grind
 ·rw [may_iff5]; unfold CM.idOk; simp; try grind
 ·rw [may_iff6]; unfold CM.idOk; simp; try grind
 ·simp [may_other hk]
end
def Ck (w0 w : World) (X : Array Value) (g : Nat) (a b c d e : Bool) : Prop := Box w w0.heap.size 91 X ∧ Box w g 126 #[.bool a, .bool b, .bool c, .bool d, .bool e] ∧ Below w0.heap.size w0 w
theorem Ck.below {w0 w w' : World} {X : Array Value} {g : Nat} {a b c d e : Bool} (h : Ck w0 w X g a b c d e) (hb : Below w.heap.size w w') : Ck w0 w' X g a b c d e :=
 ⟨h.1.below hb h.1.lt, h.2.1.below hb h.2.1.lt, bmore h.2.2 hb n!⟩
theorem ck_new {w0 w : World} {X : Array Value} (h : Box w w0.heap.size 91 X) (hb : Below w0.heap.size w0 w) (a b c d e : Bool) : Ck w0 (w.alloc (.cells #[.bool a, .bool b, .bool c, .bool d, .bool e] 126)) X w.heap.size a b c d e :=
 ⟨h.alloc _, Box.new w _ _, hb.alloc hb.size _⟩
theorem pcheck_any (x : Cm) (v : Value) (w : World) (h : CmIs w v x) (hf : CmFit x) :
  Calls Tryz.prog 65 #[v] w (NumIs (if CM.may x then 0 else 120) w) := by
 obtain ⟨A, c, P, q, rfl, r1, r3⟩ := h
 obtain ⟨k, am, aid, atm, ams, atp, awh, an⟩ := x
 obtain ⟨f1, f2, f3, f4, f5, f6, hfl⟩ := fl_ex k
 obtain ⟨_, fm, _⟩ := hf
 simp only at r1 r3 fm
 obtain ⟨y, hy⟩ : ∃ y : Int, y = if CM.may ⟨k, am, aid, atm, ams, atp, awh, an⟩ then 0 else 120 := ⟨_, rfl⟩
 rw [← hy]
 have HNO := h! (show ¬ (f6 = true ∧ (if f1 = true then CM.mgOk am else am = CM.mz) ∧ (if f3 = true then QM.may ams = true else ams = []) ∧ (if (f2 || f4) = true then 0 ≤ aid ∧ aid ≤ 6291455 else aid = 0) ∧ (if f2 = true then 1 ≤ atm ∧ atm ≤ 1073741824 else atm = 0) ∧ (if f4 = true then 0 ≤ atp ∧ atp ≤ 3 else atp = 0) ∧ (if f5 = true then 0 ≤ awh ∧ awh ≤ 7 else awh = 0) ∧ (if f4 = true then 0 ≤ an ∧ an ≤ 1073741824 else an = 0)) → 120 = y from fun h => by rw [hy, if_neg (fun e => h ((may_fl hfl).1 e))])
 have HYES := h! (show (f6 = true ∧ (if f1 = true then CM.mgOk am else am = CM.mz) ∧ (if f3 = true then QM.may ams = true else ams = []) ∧ (if (f2 || f4) = true then 0 ≤ aid ∧ aid ≤ 6291455 else aid = 0) ∧ (if f2 = true then 1 ≤ atm ∧ atm ≤ 1073741824 else atm = 0) ∧ (if f4 = true then 0 ≤ atp ∧ atp ≤ 3 else atp = 0) ∧ (if f5 = true then 0 ≤ awh ∧ awh ≤ 7 else awh = 0) ∧ (if f4 = true then 0 ≤ an ∧ an ≤ 1073741824 else an = 0)) → 0 = y from fun h => by rw [hy, if_pos ((may_fl hfl).2 h)])
 have CF := h! (fun w => fields_any hfl w)
 clear hy hfl
 show Calls _ _ #[.agg #[.int .u8 k, .int .i64 am.id, .slice A am.gs.length c, .int .i64 am.tp, .string am.key, .string am.body, .int .i64 aid, .int .i64 atm, .slice P ams.length q, .int .i64 atp, .int .i64 awh, .int .i64 an]] _ _
 have hb0 : Below w.heap.size w (w.alloc (.cells #[.int .u8 k, .int .i64 am.id, .slice A am.gs.length c, .int .i64 am.tp, .string am.key, .string am.body, .int .i64 aid, .int .i64 atm, .slice P ams.length q, .int .i64 atp, .int .i64 awh, .int .i64 an] 91)) := b!
 have HX := h! (Box.new w 91 #[.int .u8 k, .int .i64 am.id, .slice A am.gs.length c, .int .i64 am.tp, .string am.key, .string am.body, .int .i64 aid, .int .i64 atm, .slice P ams.length q, .int .i64 atp, .int .i64 awh, .int .i64 an])
 have HB := h! hb0
 have C1 := h! (fun W (hb : Below w.heap.size w W) => isMessage_any f1 am (.agg (mcells A c am)) W ⟨A, c, rfl, r1.below hb⟩ fm)
 unfold mcells at C1
 have C2 := h! (fun W (hb : Below w.heap.size w W) => areMembers_any f3 P ams.length q ams W (r3.below hb).1 (by have := r3.2.1; have := r3.2.2; unfold maxLen at this; omega))
 have C3 := h! (fun W => isNumber_any (f2 || f4) aid 0 6291455 W)
 have C4 := h! (fun W => isNumber_any f2 atm 1 1073741824 W)
 have C5 := h! (fun W => isNumber_any f4 atp 0 3 W)
 have C6 := h! (fun W => isNumber_any f5 awh 0 7 W)
 have C7 := h! (fun W => isNumber_any f4 an 0 1073741824 W)
 have HD1 := h! (show decide (if f1 = true then CM.mgOk am else am = CM.mz) = true ↔ (if f1 = true then CM.mgOk am else am = CM.mz) by rw [decide_eq_true_iff])
 generalize decide (if f1 = true then CM.mgOk am else am = CM.mz) = b1 at C1 HD1
 have HD2 := h! (show decide (if f3 = true then QM.may ams = true else ams = []) = true ↔ (if f3 = true then QM.may ams = true else ams = []) by rw [decide_eq_true_iff])
 generalize decide (if f3 = true then QM.may ams = true else ams = []) = b2 at C2 HD2
 have HD3 := h! (show decide (if (f2 || f4) = true then 0 ≤ aid ∧ aid ≤ 6291455 else aid = 0) = true ↔ (if (f2 || f4) = true then 0 ≤ aid ∧ aid ≤ 6291455 else aid = 0) by rw [decide_eq_true_iff])
 generalize decide (if (f2 || f4) = true then 0 ≤ aid ∧ aid ≤ 6291455 else aid = 0) = b3 at C3 HD3
 have HD4 := h! (show decide (if f2 = true then 1 ≤ atm ∧ atm ≤ 1073741824 else atm = 0) = true ↔ (if f2 = true then 1 ≤ atm ∧ atm ≤ 1073741824 else atm = 0) by rw [decide_eq_true_iff])
 generalize decide (if f2 = true then 1 ≤ atm ∧ atm ≤ 1073741824 else atm = 0) = b4 at C4 HD4
 have HD5 := h! (show decide (if f4 = true then 0 ≤ atp ∧ atp ≤ 3 else atp = 0) = true ↔ (if f4 = true then 0 ≤ atp ∧ atp ≤ 3 else atp = 0) by rw [decide_eq_true_iff])
 generalize decide (if f4 = true then 0 ≤ atp ∧ atp ≤ 3 else atp = 0) = b5 at C5 HD5
 have HD6 := h! (show decide (if f5 = true then 0 ≤ awh ∧ awh ≤ 7 else awh = 0) = true ↔ (if f5 = true then 0 ≤ awh ∧ awh ≤ 7 else awh = 0) by rw [decide_eq_true_iff])
 generalize decide (if f5 = true then 0 ≤ awh ∧ awh ≤ 7 else awh = 0) = b6 at C6 HD6
 have HD7 := h! (show decide (if f4 = true then 0 ≤ an ∧ an ≤ 1073741824 else an = 0) = true ↔ (if f4 = true then 0 ≤ an ∧ an ≤ 1073741824 else an = 0) by rw [decide_eq_true_iff])
 generalize decide (if f4 = true then 0 ≤ an ∧ an ≤ 1073741824 else an = 0) = b7 at C7 HD7
 clear hb0 r1 r3 fm
 cases f2
 ·skip
  simp only [Bool.false_or, Bool.true_or] at C3
  go_enter Tryz.func65, Tryz.ntmps65
  go_wp2_with fail
  refine (CF.out _).mono ?_
  rintro e w1 ⟨rfl, hb1⟩
  have S := h! (ck_new (HX.out.below hb1 HX.out.lt) (bmore HB.out hb1 (by simp)) f1 false f3 f4 f5)
  clear hb1 HX HB CF
  go_upto_region 2 with (fail)
  generalize w1.alloc (.cells #[.bool f1, .bool false, .bool f3, .bool f4, .bool f5] 126) = w2 at S ⊢
  generalize w1.heap.size = g1 at S ⊢
  obtain ⟨x0, x1, x2, x3, x4, x5, x6, x7, x8, x9, x10, x11⟩ := box_cm S.out.1
  obtain ⟨y0, y1, y2, y3, y4⟩ := box_mg S.out.2.1
  cases f6
  ·have HF := h! (HNO.out (fun h => by cases h.1))
   clear HNO HYES C1 C2 C3 C4 C5 C6 C7 HD1 HD2 HD3 HD4 HD5 HD6 HD7
   go_wp2_with fail
   go_ret
   exact ⟨ret_int HF.out, S.out.2.2⟩
  go_wp2_with fail
  refine (C1.out _ S.out.2.2).mono ?_
  rintro e w3 ⟨rfl, hb2⟩
  replace S := h! (S.out.below hb2)
  clear hb2 x0 x1 x2 x3 x4 x5 x6 x7 x8 x9 x10 x11 y0 y1 y2 y3 y4
  obtain ⟨x0, x1, x2, x3, x4, x5, x6, x7, x8, x9, x10, x11⟩ := box_cm S.out.1
  obtain ⟨y0, y1, y2, y3, y4⟩ := box_mg S.out.2.1
  cases b1
  ·have HF := h! (HNO.out (fun h => by have := HD1.out.2 h.2.1; cases this))
   clear HNO HYES C2 C3 C4 C5 C6 C7 HD1 HD2 HD3 HD4 HD5 HD6 HD7
   go_wp2_with fail
   go_ret
   exact ⟨ret_int HF.out, S.out.2.2⟩
  go_wp2_with fail
  refine (C2.out _ S.out.2.2).mono ?_
  rintro e w4 ⟨rfl, rfl⟩
  cases b2
  ·have HF := h! (HNO.out (fun h => by have := HD2.out.2 h.2.2.1; cases this))
   clear HNO HYES C3 C4 C5 C6 C7 HD1 HD2 HD3 HD4 HD5 HD6 HD7
   go_wp2_with fail
   go_ret
   exact ⟨ret_int HF.out, S.out.2.2⟩
  go_wp2_with fail
  refine (C3.out _).mono ?_
  rintro e w4 ⟨rfl, rfl⟩
  cases b3
  ·have HF := h! (HNO.out (fun h => by have := HD3.out.2 h.2.2.2.1; cases this))
   clear HNO HYES C4 C5 C6 C7 HD1 HD2 HD3 HD4 HD5 HD6 HD7
   go_wp2_with fail
   go_ret
   exact ⟨ret_int HF.out, S.out.2.2⟩
  go_wp2_with fail
  refine (C4.out _).mono ?_
  rintro e w4 ⟨rfl, rfl⟩
  cases b4
  ·have HF := h! (HNO.out (fun h => by have := HD4.out.2 h.2.2.2.2.1; cases this))
   clear HNO HYES C5 C6 C7 HD1 HD2 HD3 HD4 HD5 HD6 HD7
   go_wp2_with fail
   go_ret
   exact ⟨ret_int HF.out, S.out.2.2⟩
  go_wp2_with fail
  refine (C5.out _).mono ?_
  rintro e w4 ⟨rfl, rfl⟩
  cases b5
  ·have HF := h! (HNO.out (fun h => by have := HD5.out.2 h.2.2.2.2.2.1; cases this))
   clear HNO HYES C6 C7 HD1 HD2 HD3 HD4 HD5 HD6 HD7
   go_wp2_with fail
   go_ret
   exact ⟨ret_int HF.out, S.out.2.2⟩
  go_wp2_with fail
  refine (C6.out _).mono ?_
  rintro e w4 ⟨rfl, rfl⟩
  cases b6
  ·have HF := h! (HNO.out (fun h => by have := HD6.out.2 h.2.2.2.2.2.2.1; cases this))
   clear HNO HYES C7 HD1 HD2 HD3 HD4 HD5 HD6 HD7
   go_wp2_with fail
   go_ret
   exact ⟨ret_int HF.out, S.out.2.2⟩
  go_wp2_with fail
  refine (C7.out _).mono ?_
  rintro e w4 ⟨rfl, rfl⟩
  cases b7
  ·have HF := h! (HNO.out (fun h => by have := HD7.out.2 h.2.2.2.2.2.2.2; cases this))
   clear HNO HYES  HD1 HD2 HD3 HD4 HD5 HD6 HD7
   go_wp2_with fail
   go_ret
   exact ⟨ret_int HF.out, S.out.2.2⟩
  have HF := h! (HYES.out ⟨(by simp), HD1.out.1 (by simp), HD2.out.1 (by simp), HD3.out.1 (by simp), HD4.out.1 (by simp), HD5.out.1 (by simp), HD6.out.1 (by simp), HD7.out.1 (by simp)⟩)
  clear HNO HYES HD1 HD2 HD3 HD4 HD5 HD6 HD7
  go_wp2_with fail
  go_ret
  exact ⟨ret_int HF.out, S.out.2.2⟩
 ·skip
  simp only [Bool.false_or, Bool.true_or] at C3
  go_enter Tryz.func65, Tryz.ntmps65
  go_wp2_with fail
  refine (CF.out _).mono ?_
  rintro e w1 ⟨rfl, hb1⟩
  have S := h! (ck_new (HX.out.below hb1 HX.out.lt) (bmore HB.out hb1 (by simp)) f1 true f3 f4 f5)
  clear hb1 HX HB CF
  go_upto_region 2 with (fail)
  generalize w1.alloc (.cells #[.bool f1, .bool true, .bool f3, .bool f4, .bool f5] 126) = w2 at S ⊢
  generalize w1.heap.size = g1 at S ⊢
  obtain ⟨x0, x1, x2, x3, x4, x5, x6, x7, x8, x9, x10, x11⟩ := box_cm S.out.1
  obtain ⟨y0, y1, y2, y3, y4⟩ := box_mg S.out.2.1
  cases f6
  ·have HF := h! (HNO.out (fun h => by cases h.1))
   clear HNO HYES C1 C2 C3 C4 C5 C6 C7 HD1 HD2 HD3 HD4 HD5 HD6 HD7
   go_wp2_with fail
   go_ret
   exact ⟨ret_int HF.out, S.out.2.2⟩
  go_wp2_with fail
  refine (C1.out _ S.out.2.2).mono ?_
  rintro e w3 ⟨rfl, hb2⟩
  replace S := h! (S.out.below hb2)
  clear hb2 x0 x1 x2 x3 x4 x5 x6 x7 x8 x9 x10 x11 y0 y1 y2 y3 y4
  obtain ⟨x0, x1, x2, x3, x4, x5, x6, x7, x8, x9, x10, x11⟩ := box_cm S.out.1
  obtain ⟨y0, y1, y2, y3, y4⟩ := box_mg S.out.2.1
  cases b1
  ·have HF := h! (HNO.out (fun h => by have := HD1.out.2 h.2.1; cases this))
   clear HNO HYES C2 C3 C4 C5 C6 C7 HD1 HD2 HD3 HD4 HD5 HD6 HD7
   go_wp2_with fail
   go_ret
   exact ⟨ret_int HF.out, S.out.2.2⟩
  go_wp2_with fail
  refine (C2.out _ S.out.2.2).mono ?_
  rintro e w4 ⟨rfl, rfl⟩
  cases b2
  ·have HF := h! (HNO.out (fun h => by have := HD2.out.2 h.2.2.1; cases this))
   clear HNO HYES C3 C4 C5 C6 C7 HD1 HD2 HD3 HD4 HD5 HD6 HD7
   go_wp2_with fail
   go_ret
   exact ⟨ret_int HF.out, S.out.2.2⟩
  go_wp2_with fail
  refine (C3.out _).mono ?_
  rintro e w4 ⟨rfl, rfl⟩
  cases b3
  ·have HF := h! (HNO.out (fun h => by have := HD3.out.2 h.2.2.2.1; cases this))
   clear HNO HYES C4 C5 C6 C7 HD1 HD2 HD3 HD4 HD5 HD6 HD7
   go_wp2_with fail
   go_ret
   exact ⟨ret_int HF.out, S.out.2.2⟩
  go_wp2_with fail
  refine (C4.out _).mono ?_
  rintro e w4 ⟨rfl, rfl⟩
  cases b4
  ·have HF := h! (HNO.out (fun h => by have := HD4.out.2 h.2.2.2.2.1; cases this))
   clear HNO HYES C5 C6 C7 HD1 HD2 HD3 HD4 HD5 HD6 HD7
   go_wp2_with fail
   go_ret
   exact ⟨ret_int HF.out, S.out.2.2⟩
  go_wp2_with fail
  refine (C5.out _).mono ?_
  rintro e w4 ⟨rfl, rfl⟩
  cases b5
  ·have HF := h! (HNO.out (fun h => by have := HD5.out.2 h.2.2.2.2.2.1; cases this))
   clear HNO HYES C6 C7 HD1 HD2 HD3 HD4 HD5 HD6 HD7
   go_wp2_with fail
   go_ret
   exact ⟨ret_int HF.out, S.out.2.2⟩
  go_wp2_with fail
  refine (C6.out _).mono ?_
  rintro e w4 ⟨rfl, rfl⟩
  cases b6
  ·have HF := h! (HNO.out (fun h => by have := HD6.out.2 h.2.2.2.2.2.2.1; cases this))
   clear HNO HYES C7 HD1 HD2 HD3 HD4 HD5 HD6 HD7
   go_wp2_with fail
   go_ret
   exact ⟨ret_int HF.out, S.out.2.2⟩
  go_wp2_with fail
  refine (C7.out _).mono ?_
  rintro e w4 ⟨rfl, rfl⟩
  cases b7
  ·have HF := h! (HNO.out (fun h => by have := HD7.out.2 h.2.2.2.2.2.2.2; cases this))
   clear HNO HYES  HD1 HD2 HD3 HD4 HD5 HD6 HD7
   go_wp2_with fail
   go_ret
   exact ⟨ret_int HF.out, S.out.2.2⟩
  have HF := h! (HYES.out ⟨(by simp), HD1.out.1 (by simp), HD2.out.1 (by simp), HD3.out.1 (by simp), HD4.out.1 (by simp), HD5.out.1 (by simp), HD6.out.1 (by simp), HD7.out.1 (by simp)⟩)
  clear HNO HYES HD1 HD2 HD3 HD4 HD5 HD6 HD7
  go_wp2_with fail
  go_ret
  exact ⟨ret_int HF.out, S.out.2.2⟩
end CP
end Go.Proofs.YteebeiaokfenmaaGreat
