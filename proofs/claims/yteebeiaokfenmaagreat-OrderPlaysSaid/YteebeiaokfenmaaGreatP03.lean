/- Contracts of functions, P03: each as its theorem says. -/
import Derived.Test.YteebeiaokfenmaaGreatK18
set_option linter.unusedVariables false
set_option linter.unusedSimpArgs false
set_option maxRecDepth 100000
set_option maxHeartbeats 16000000
namespace Go.Proofs.YteebeiaokfenmaaGreat
namespace CP
open Go.RowKit
open CM (Mg Cm)
section
variable {k aid atm atp awh an : Int} {am : Mg} {ams : List Int}
theorem may_fl {f1 f2 f3 f4 f5 f6 : Bool} (h : Fl k f1 f2 f3 f4 f5 f6) : CM.may ⟨k, am, aid, atm, ams, atp, awh, an⟩ ↔ (f6 = true ∧ (if f1 = true then CM.mgOk am else am = CM.mz) ∧ (if f3 = true then QM.may ams = true else ams = []) ∧ (if (f2 || f4) = true then 0 ≤ aid ∧ aid ≤ 6291455 else aid = 0) ∧ (if f2 = true then 1 ≤ atm ∧ atm ≤ 1073741824 else atm = 0) ∧ (if f4 = true then 0 ≤ atp ∧ atp ≤ 3 else atp = 0) ∧ (if f5 = true then 0 ≤ awh ∧ awh ≤ 7 else awh = 0) ∧ (if f4 = true then 0 ≤ an ∧ an ≤ 1073741824 else an = 0)) := by
 rcases h with ⟨rfl, rfl, rfl, rfl, rfl, rfl, rfl⟩ | ⟨rfl, rfl, rfl, rfl, rfl, rfl, rfl⟩ | ⟨rfl, rfl, rfl, rfl, rfl, rfl, rfl⟩ | ⟨rfl, rfl, rfl, rfl, rfl, rfl, rfl⟩ | ⟨rfl, rfl, rfl, rfl, rfl, rfl, rfl⟩ | ⟨rfl, rfl, rfl, rfl, rfl, rfl, rfl⟩ | ⟨rfl, rfl, rfl, rfl, rfl, rfl, rfl⟩ | ⟨hk, rfl, rfl, rfl, rfl, rfl, rfl⟩
 ·rw [may_iff0]; unfold CM.zero; simp; try grind
 ·rw [may_iff1]; simp; try grind
 ·rw [may_iff2]; unfold CM.idOk; simp; try grind
 ·rw [may_iff3]; simp; try grind
 ·rw [may_iff4]; unfold CM.idOk; simp; try grind
 ·rw [may_iff5]; unfold CM.idOk; simp; try grind
 ·rw [may_iff6]; unfold CM.idOk; simp; try grind
 ·simp [may_other hk]
end
def Ck (w0 w : World) (X : Array Value) (g : Nat) (a b c d e : Bool) : Prop := Box w w0.heap.size 91 X ∧ Box w g 126 #[.bool a, .bool b, .bool c, .bool d, .bool e] ∧ Below w0.heap.size w0 w
theorem Ck.below {w0 w w' : World} {X : Array Value} {g : Nat} {a b c d e : Bool} (h : Ck w0 w X g a b c d e) (hb : Below w.heap.size w w') : Ck w0 w' X g a b c d e :=
 ⟨h.1.below hb h.1.lt, h.2.1.below hb h.2.1.lt, bmore h.2.2 hb n!⟩
theorem ck_new {w0 w : World} {X : Array Value} (h : Box w w0.heap.size 91 X) (hb : Below w0.heap.size w0 w) (a b c d e : Bool) : Ck w0 (w.alloc (.cells #[.bool a, .bool b, .bool c, .bool d, .bool e] 126)) X w.heap.size a b c d e :=
 ⟨h.alloc _, Box.new w _ _, hb.alloc hb.size _⟩
theorem pcheck_any (x : Cm) (v : Value) (w : World) (h : CmIs w v x) (hf : CmFit x) :
  Calls Tryz.prog 65 #[v] w (NumIs (if CM.may x then 0 else 120) w) := by
 obtain ⟨A, c, P, q, rfl, r1, r3⟩ := h
 obtain ⟨k, am, aid, atm, ams, atp, awh, an⟩ := x
 obtain ⟨f1, f2, f3, f4, f5, f6, hfl⟩ := fl_ex k
 obtain ⟨_, fm, _⟩ := hf
 simp only at r1 r3 fm
 obtain ⟨y, hy⟩ : ∃ y : Int, y = if CM.may ⟨k, am, aid, atm, ams, atp, awh, an⟩ then 0 else 120 := ⟨_, rfl⟩
 rw [← hy]
 have HNO := h! (show ¬ (f6 = true ∧ (if f1 = true then CM.mgOk am else am = CM.mz) ∧ (if f3 = true then QM.may ams = true else ams = []) ∧ (if (f2 || f4) = true then 0 ≤ aid ∧ aid ≤ 6291455 else aid = 0) ∧ (if f2 = true then 1 ≤ atm ∧ atm ≤ 1073741824 else atm = 0) ∧ (if f4 = true then 0 ≤ atp ∧ atp ≤ 3 else atp = 0) ∧ (if f5 = true then 0 ≤ awh ∧ awh ≤ 7 else awh = 0) ∧ (if f4 = true then 0 ≤ an ∧ an ≤ 1073741824 else an = 0)) → 120 = y from fun h => by rw [hy, if_neg (fun e => h ((may_fl hfl).1 e))])
 have HYES := h! (show (f6 = true ∧ (if f1 = true then CM.mgOk am else am = CM.mz) ∧ (if f3 = true then QM.may ams = true else ams = []) ∧ (if (f2 || f4) = true then 0 ≤ aid ∧ aid ≤ 6291455 else aid = 0) ∧ (if f2 = true then 1 ≤ atm ∧ atm ≤ 1073741824 else atm = 0) ∧ (if f4 = true then 0 ≤ atp ∧ atp ≤ 3 else atp = 0) ∧ (if f5 = true then 0 ≤ awh ∧ awh ≤ 7 else awh = 0) ∧ (if f4 = true then 0 ≤ an ∧ an ≤ 1073741824 else an = 0)) → 0 = y from fun h => by rw [hy, if_pos ((may_fl hfl).2 h)])
 have CF := h! (fun w => fields_any hfl w)
 clear hy hfl
 show Calls _ _ #[.agg #[.int .u8 k, .int .i64 am.id, .slice A am.gs.length c, .int .i64 am.tp, .string am.key, .string am.body, .int .i64 aid, .int .i64 atm, .slice P ams.length q, .int .i64 atp, .int .i64 awh, .int .i64 an]] _ _
 have hb0 : Below w.heap.size w (w.alloc (.cells #[.int .u8 k, .int .i64 am.id, .slice A am.gs.length c, .int .i64 am.tp, .string am.key, .string am.body, .int .i64 aid, .int .i64 atm, .slice P ams.length q, .int .i64 atp, .int .i64 awh, .int .i64 an] 91)) := b!
 have HX := h! (Box.new w 91 #[.int .u8 k, .int .i64 am.id, .slice A am.gs.length c, .int .i64 am.tp, .string am.key, .string am.body, .int .i64 aid, .int .i64 atm, .slice P ams.length q, .int .i64 atp, .int .i64 awh, .int .i64 an])
 have HB := h! hb0
 have C1 := h! (fun W (hb : Below w.heap.size w W) => isMessage_any f1 am (.agg (mcells A c am)) W ⟨A, c, rfl, r1.below hb⟩ fm)
 unfold mcells at C1
 have C2 := h! (fun W (hb : Below w.heap.size w W) => areMembers_any f3 P ams.length q ams W (r3.below hb).1 (by have := r3.2.1; have := r3.2.2; unfold maxLen at this; omega))
 have C3 := h! (fun W => isNumber_any (f2 || f4) aid 0 6291455 W)
 have C4 := h! (fun W => isNumber_any f2 atm 1 1073741824 W)
 have C5 := h! (fun W => isNumber_any f4 atp 0 3 W)
 have C6 := h! (fun W => isNumber_any f5 awh 0 7 W)
 have C7 := h! (fun W => isNumber_any f4 an 0 1073741824 W)
 have HD1 := h! (show decide (if f1 = true then CM.mgOk am else am = CM.mz) = true ↔ (if f1 = true then CM.mgOk am else am = CM.mz) by rw [decide_eq_true_iff])
 generalize decide (if f1 = true then CM.mgOk am else am = CM.mz) = b1 at C1 HD1
 have HD2 := h! (show decide (if f3 = true then QM.may ams = true else ams = []) = true ↔ (if f3 = true then QM.may ams = true else ams = []) by rw [decide_eq_true_iff])
 generalize decide (if f3 = true then QM.may ams = true else ams = []) = b2 at C2 HD2
 have HD3 := h! (show decide (if (f2 || f4) = true then 0 ≤ aid ∧ aid ≤ 6291455 else aid = 0) = true ↔ (if (f2 || f4) = true then 0 ≤ aid ∧ aid ≤ 6291455 else aid = 0) by rw [decide_eq_true_iff])
 generalize decide (if (f2 || f4) = true then 0 ≤ aid ∧ aid ≤ 6291455 else aid = 0) = b3 at C3 HD3
 have HD4 := h! (show decide (if f2 = true then 1 ≤ atm ∧ atm ≤ 1073741824 else atm = 0) = true ↔ (if f2 = true then 1 ≤ atm ∧ atm ≤ 1073741824 else atm = 0) by rw [decide_eq_true_iff])
 generalize decide (if f2 = true then 1 ≤ atm ∧ atm ≤ 1073741824 else atm = 0) = b4 at C4 HD4
 have HD5 := h! (show decide (if f4 = true then 0 ≤ atp ∧ atp ≤ 3 else atp = 0) = true ↔ (if f4 = true then 0 ≤ atp ∧ atp ≤ 3 else atp = 0) by rw [decide_eq_true_iff])
 generalize decide (if f4 = true then 0 ≤ atp ∧ atp ≤ 3 else atp = 0) = b5 at C5 HD5
 have HD6 := h! (show decide (if f5 = true then 0 ≤ awh ∧ awh ≤ 7 else awh = 0) = true ↔ (if f5 = true then 0 ≤ awh ∧ awh ≤ 7 else awh = 0) by rw [decide_eq_true_iff])
 generalize decide (if f5 = true then 0 ≤ awh ∧ awh ≤ 7 else awh = 0) = b6 at C6 HD6
 have HD7 := h! (show decide (if f4 = true then 0 ≤ an ∧ an ≤ 1073741824 else an = 0) = true ↔ (if f4 = true then 0 ≤ an ∧ an ≤ 1073741824 else an = 0) by rw [decide_eq_true_iff])
 generalize decide (if f4 = true then 0 ≤ an ∧ an ≤ 1073741824 else an = 0) = b7 at C7 HD7
 clear hb0 r1 r3 fm
 cases f2
 ·skip
  simp only [Bool.false_or, Bool.true_or] at C3
  go_enter Tryz.func65, Tryz.ntmps65
  go_wp2_with fail
  refine (CF.out _).mono ?_
  rintro e w1 ⟨rfl, hb1⟩
  have S := h! (ck_new (HX.out.below hb1 HX.out.lt) (bmore HB.out hb1 (by simp)) f1 false f3 f4 f5)
  clear hb1 HX HB CF
  go_upto_region 2 with (fail)
  generalize w1.alloc (.cells #[.bool f1, .bool false, .bool f3, .bool f4, .bool f5] 126) = w2 at S ⊢
  generalize w1.heap.size = g1 at S ⊢
  obtain ⟨x0, x1, x2, x3, x4, x5, x6, x7, x8, x9, x10, x11⟩ := box_cm S.out.1
  obtain ⟨y0, y1, y2, y3, y4⟩ := box_mg S.out.2.1
  cases f6
  ·have HF := h! (HNO.out (fun h => by cases h.1))
   clear HNO HYES C1 C2 C3 C4 C5 C6 C7 HD1 HD2 HD3 HD4 HD5 HD6 HD7
   go_wp2_with fail
   go_ret
   exact ⟨ret_int HF.out, S.out.2.2⟩
  go_wp2_with fail
  refine (C1.out _ S.out.2.2).mono ?_
  rintro e w3 ⟨rfl, hb2⟩
  replace S := h! (S.out.below hb2)
  clear hb2 x0 x1 x2 x3 x4 x5 x6 x7 x8 x9 x10 x11 y0 y1 y2 y3 y4
  obtain ⟨x0, x1, x2, x3, x4, x5, x6, x7, x8, x9, x10, x11⟩ := box_cm S.out.1
  obtain ⟨y0, y1, y2, y3, y4⟩ := box_mg S.out.2.1
  cases b1
  ·have HF := h! (HNO.out (fun h => by have := HD1.out.2 h.2.1; cases this))
   clear HNO HYES C2 C3 C4 C5 C6 C7 HD1 HD2 HD3 HD4 HD5 HD6 HD7
   go_wp2_with fail
   go_ret
   exact ⟨ret_int HF.out, S.out.2.2⟩
  go_wp2_with fail
  refine (C2.out _ S.out.2.2).mono ?_
  rintro e w4 ⟨rfl, rfl⟩
  cases b2
  ·have HF := h! (HNO.out (fun h => by have := HD2.out.2 h.2.2.1; cases this))
   clear HNO HYES C3 C4 C5 C6 C7 HD1 HD2 HD3 HD4 HD5 HD6 HD7
   go_wp2_with fail
   go_ret
   exact ⟨ret_int HF.out, S.out.2.2⟩
  go_wp2_with fail
  refine (C3.out _).mono ?_
  rintro e w4 ⟨rfl, rfl⟩
  cases b3
  ·have HF := h! (HNO.out (fun h => by have := HD3.out.2 h.2.2.2.1; cases this))
   clear HNO HYES C4 C5 C6 C7 HD1 HD2 HD3 HD4 HD5 HD6 HD7
   go_wp2_with fail
   go_ret
   exact ⟨ret_int HF.out, S.out.2.2⟩
  go_wp2_with fail
  refine (C4.out _).mono ?_
  rintro e w4 ⟨rfl, rfl⟩
  cases b4
  ·have HF := h! (HNO.out (fun h => by have := HD4.out.2 h.2.2.2.2.1; cases this))
   clear HNO HYES C5 C6 C7 HD1 HD2 HD3 HD4 HD5 HD6 HD7
   go_wp2_with fail
   go_ret
   exact ⟨ret_int HF.out, S.out.2.2⟩
  go_wp2_with fail
  refine (C5.out _).mono ?_
  rintro e w4 ⟨rfl, rfl⟩
  cases b5
  ·have HF := h! (HNO.out (fun h => by have := HD5.out.2 h.2.2.2.2.2.1; cases this))
   clear HNO HYES C6 C7 HD1 HD2 HD3 HD4 HD5 HD6 HD7
   go_wp2_with fail
   go_ret
   exact ⟨ret_int HF.out, S.out.2.2⟩
  go_wp2_with fail
  refine (C6.out _).mono ?_
  rintro e w4 ⟨rfl, rfl⟩
  cases b6
  ·have HF := h! (HNO.out (fun h => by have := HD6.out.2 h.2.2.2.2.2.2.1; cases this))
   clear HNO HYES C7 HD1 HD2 HD3 HD4 HD5 HD6 HD7
   go_wp2_with fail
   go_ret
   exact ⟨ret_int HF.out, S.out.2.2⟩
  go_wp2_with fail
  refine (C7.out _).mono ?_
  rintro e w4 ⟨rfl, rfl⟩
  cases b7
  ·have HF := h! (HNO.out (fun h => by have := HD7.out.2 h.2.2.2.2.2.2.2; cases this))
   clear HNO HYES  HD1 HD2 HD3 HD4 HD5 HD6 HD7
   go_wp2_with fail
   go_ret
   exact ⟨ret_int HF.out, S.out.2.2⟩
  have HF := h! (HYES.out ⟨(by simp), HD1.out.1 (by simp), HD2.out.1 (by simp), HD3.out.1 (by simp), HD4.out.1 (by simp), HD5.out.1 (by simp), HD6.out.1 (by simp), HD7.out.1 (by simp)⟩)
  clear HNO HYES HD1 HD2 HD3 HD4 HD5 HD6 HD7
  go_wp2_with fail
  go_ret
  exact ⟨ret_int HF.out, S.out.2.2⟩
 ·skip
  simp only [Bool.false_or, Bool.true_or] at C3
  go_enter Tryz.func65, Tryz.ntmps65
  go_wp2_with fail
  refine (CF.out _).mono ?_
  rintro e w1 ⟨rfl, hb1⟩
  have S := h! (ck_new (HX.out.below hb1 HX.out.lt) (bmore HB.out hb1 (by simp)) f1 true f3 f4 f5)
  clear hb1 HX HB CF
  go_upto_region 2 with (fail)
  generalize w1.alloc (.cells #[.bool f1, .bool true, .bool f3, .bool f4, .bool f5] 126) = w2 at S ⊢
  generalize w1.heap.size = g1 at S ⊢
  obtain ⟨x0, x1, x2, x3, x4, x5, x6, x7, x8, x9, x10, x11⟩ := box_cm S.out.1
  obtain ⟨y0, y1, y2, y3, y4⟩ := box_mg S.out.2.1
  cases f6
  ·have HF := h! (HNO.out (fun h => by cases h.1))
   clear HNO HYES C1 C2 C3 C4 C5 C6 C7 HD1 HD2 HD3 HD4 HD5 HD6 HD7
   go_wp2_with fail
   go_ret
   exact ⟨ret_int HF.out, S.out.2.2⟩
  go_wp2_with fail
  refine (C1.out _ S.out.2.2).mono ?_
  rintro e w3 ⟨rfl, hb2⟩
  replace S := h! (S.out.below hb2)
  clear hb2 x0 x1 x2 x3 x4 x5 x6 x7 x8 x9 x10 x11 y0 y1 y2 y3 y4
  obtain ⟨x0, x1, x2, x3, x4, x5, x6, x7, x8, x9, x10, x11⟩ := box_cm S.out.1
  obtain ⟨y0, y1, y2, y3, y4⟩ := box_mg S.out.2.1
  cases b1
  ·have HF := h! (HNO.out (fun h => by have := HD1.out.2 h.2.1; cases this))
   clear HNO HYES C2 C3 C4 C5 C6 C7 HD1 HD2 HD3 HD4 HD5 HD6 HD7
   go_wp2_with fail
   go_ret
   exact ⟨ret_int HF.out, S.out.2.2⟩
  go_wp2_with fail
  refine (C2.out _ S.out.2.2).mono ?_
  rintro e w4 ⟨rfl, rfl⟩
  cases b2
  ·have HF := h! (HNO.out (fun h => by have := HD2.out.2 h.2.2.1; cases this))
   clear HNO HYES C3 C4 C5 C6 C7 HD1 HD2 HD3 HD4 HD5 HD6 HD7
   go_wp2_with fail
   go_ret
   exact ⟨ret_int HF.out, S.out.2.2⟩
  go_wp2_with fail
  refine (C3.out _).mono ?_
  rintro e w4 ⟨rfl, rfl⟩
  cases b3
  ·have HF := h! (HNO.out (fun h => by have := HD3.out.2 h.2.2.2.1; cases this))
   clear HNO HYES C4 C5 C6 C7 HD1 HD2 HD3 HD4 HD5 HD6 HD7
   go_wp2_with fail
   go_ret
   exact ⟨ret_int HF.out, S.out.2.2⟩
  go_wp2_with fail
  refine (C4.out _).mono ?_
  rintro e w4 ⟨rfl, rfl⟩
  cases b4
  ·have HF := h! (HNO.out (fun h => by have := HD4.out.2 h.2.2.2.2.1; cases this))
   clear HNO HYES C5 C6 C7 HD1 HD2 HD3 HD4 HD5 HD6 HD7
   go_wp2_with fail
   go_ret
   exact ⟨ret_int HF.out, S.out.2.2⟩
  go_wp2_with fail
  refine (C5.out _).mono ?_
  rintro e w4 ⟨rfl, rfl⟩
  cases b5
  ·have HF := h! (HNO.out (fun h => by have := HD5.out.2 h.2.2.2.2.2.1; cases this))
   clear HNO HYES C6 C7 HD1 HD2 HD3 HD4 HD5 HD6 HD7
   go_wp2_with fail
   go_ret
   exact ⟨ret_int HF.out, S.out.2.2⟩
  go_wp2_with fail
  refine (C6.out _).mono ?_
  rintro e w4 ⟨rfl, rfl⟩
  cases b6
  ·have HF := h! (HNO.out (fun h => by have := HD6.out.2 h.2.2.2.2.2.2.1; cases this))
   clear HNO HYES C7 HD1 HD2 HD3 HD4 HD5 HD6 HD7
   go_wp2_with fail
   go_ret
   exact ⟨ret_int HF.out, S.out.2.2⟩
  go_wp2_with fail
  refine (C7.out _).mono ?_
  rintro e w4 ⟨rfl, rfl⟩
  cases b7
  ·have HF := h! (HNO.out (fun h => by have := HD7.out.2 h.2.2.2.2.2.2.2; cases this))
   clear HNO HYES  HD1 HD2 HD3 HD4 HD5 HD6 HD7
   go_wp2_with fail
   go_ret
   exact ⟨ret_int HF.out, S.out.2.2⟩
  have HF := h! (HYES.out ⟨(by simp), HD1.out.1 (by simp), HD2.out.1 (by simp), HD3.out.1 (by simp), HD4.out.1 (by simp), HD5.out.1 (by simp), HD6.out.1 (by simp), HD7.out.1 (by simp)⟩)
  clear HNO HYES HD1 HD2 HD3 HD4 HD5 HD6 HD7
  go_wp2_with fail
  go_ret
  exact ⟨ret_int HF.out, S.out.2.2⟩
end CP
namespace KP
open Go.RowKit CP TP
open CM (Mg Cm)
open TM (Sp)
open KM (Wt Sk)
def isC (e : TypeId) : Prop := e = 78 ∨ e = 46 ∨ e = 147
theorem isC_int : ¬ isC 3 := by unfold isC; decide
theorem isC_msg : ¬ isC 33 := by unfold isC; decide
structure PtC (w0 : World) (b p : Nat) (c : Int) (vW vD : Value) (ws : List Wt) (ds : List Sp) (W : World) : Prop where
 bl : Below b w0 W
 ord : b ≤ p ∧ b ≤ W.heap.size
 bx : Box W p 147 #[.int .i64 c, vW, vD]
 ow : KO KW W b 78 vW ws
 od : W.ownsRow b 46 2 vD ds.length (flat spc ds)
section
variable {w0 W W' : World} {b p : Nat} {c : Int} {vW vD : Value} {ws : List Wt} {ds : List Sp}
theorem PtC.below (h : PtC w0 b p c vW vD ws ds W) (hb : Below W.heap.size W W') : PtC w0 b p c vW vD ws ds W' :=
 ⟨h.bl.trans (hb.mono h.ord.2), ⟨h.ord.1, Nat.le_trans h.ord.2 hb.size⟩, h.bx.below hb h.bx.lt, h.ow.below hb, own_below3 h.od hb⟩
theorem PtC.forms (h : PtC w0 b p c vW vD ws ds W) : ∃ A n cw B cd, vW = .slice A ws.length cw ∧ vD = .slice B ds.length cd ∧ n = ws.length := by
 obtain ⟨A, cw, e1, _⟩ := h.ow.g
 obtain ⟨B, cd, e2, _⟩ := own_form h.od
 exact ⟨A, _, cw, B, cd, e1, e2, rfl⟩
theorem PtC.setC (h : PtC w0 b p c vW vD ws ds W) (x : Int) : PtC w0 b p x vW vD ws ds (W.setCell ⟨p, 0, none⟩ (.int .i64 x)) ∧ Kept isC W (W.setCell ⟨p, 0, none⟩ (.int .i64 x)) := by
 have hk : Kept (fun e => e = 147) W (W.setCell ⟨p, 0, none⟩ (.int .i64 x)) := Kept.set (S := fun e => e = 147) h.bx rfl _
 exact ⟨⟨h.bl.setCell (p := ⟨p, 0, none⟩) h.ord.1 _, ⟨h.ord.1, by have := h.ord.2; simpa using this⟩, by have := h.bx.stored 0 (.int .i64 x); simpa using this, KO.kept hk (by decide) (by decide) h.ow, hk.own h.od (by decide)⟩, hk.mono fun e he => .inr (.inr he)⟩
theorem PtC.newW (h : PtC w0 b p c vW vD ws ds W) {Wa : World} (hb : Below W.heap.size W Wa) {v2 : Value} {l : List Wt} (hg : Wa.grownBy W' vW.ownBlock) (h2 : KO KW W' b 78 v2 l) :
  PtC w0 b p c v2 vD l ds (W'.setCell ⟨p, 1, none⟩ v2) ∧ Kept isC W (W'.setCell ⟨p, 1, none⟩ v2) := by
 have ha := h.below hb
 obtain ⟨es, _, ho, _⟩ := ha.ow
 have hk1 : Kept (fun e => e = 78) Wa W' := Kept.grown (S := fun e => e = 78) ho rfl hg
 have hB : Below b Wa W' := Below.grown (Below.refl b Wa) hg ha.ord.2 fun g e => (own_block ho e).1
 have hx := hk1.box _ _ _ (by decide) ha.bx
 have hk2 : Kept (fun e => e = 147) W' (W'.setCell ⟨p, 1, none⟩ v2) := Kept.set (S := fun e => e = 147) hx rfl _
 refine ⟨⟨(ha.bl.trans hB).setCell (p := ⟨p, 1, none⟩) h.ord.1 _, ⟨h.ord.1, ?_⟩, by have := hx.stored 1 v2; simpa using this, KO.kept hk2 (by decide) (by decide) h2, hk2.own (hk1.own ha.od (by decide)) (by decide)⟩, ?_⟩
 ·have h1 := ha.ord.2
  have h2 := hB.size
  have : (W'.setCell ⟨p, 1, none⟩ v2).heap.size = W'.heap.size := by simp
  omega
 ·exact ((Kept.of_below hb).trans (hk1.mono fun e he => .inl he)).trans (hk2.mono fun e he => .inr (.inr he))
theorem PtC.addD (h : PtC w0 b p c vW vD ws ds W) {Wa : World} (hb : Below W.heap.size W Wa) {v2 : Value} {x : Sp} (hg : Wa.grownBy W' vD.ownBlock) (ho : W'.ownsRow b 46 2 v2 (ds.length + 1) (flat spc ds ++ spc x)) :
  PtC w0 b p c vW v2 ws (ds ++ [x]) (W'.setCell ⟨p, 2, none⟩ v2) ∧ Kept isC W (W'.setCell ⟨p, 2, none⟩ v2) := by
 have ha := h.below hb
 have hk1 : Kept (fun e => e = 46) Wa W' := Kept.grown (S := fun e => e = 46) ha.od rfl hg
 have hB : Below b Wa W' := Below.grown (Below.refl b Wa) hg ha.ord.2 fun g e => (own_block ha.od e).1
 have hx := hk1.box _ _ _ (by decide) ha.bx
 have hk2 : Kept (fun e => e = 147) W' (W'.setCell ⟨p, 2, none⟩ v2) := Kept.set (S := fun e => e = 147) hx rfl _
 refine ⟨⟨(ha.bl.trans hB).setCell (p := ⟨p, 2, none⟩) h.ord.1 _, ⟨h.ord.1, ?_⟩, by have := hx.stored 2 v2; simpa using this, KO.kept hk2 (by decide) (by decide) (KO.kept hk1 (by decide) (by decide) ha.ow), ?_⟩, ?_⟩
 ·have h1 := ha.ord.2
  have h2 := hB.size
  have : (W'.setCell ⟨p, 2, none⟩ v2).heap.size = W'.heap.size := by simp
  omega
 ·rw [flat_append, flat_one, List.length_append]
  exact hk2.own ho (by decide)
 ·exact ((Kept.of_below hb).trans (hk1.mono fun e he => .inr (.inl he))).trans (hk2.mono fun e he => .inr (.inr he))
theorem PtC.storeW {q n d k j : Nat} {x x' : Wt} {u : Value} (h : PtC w0 b p c (.slice (some ⟨q, 0, none⟩) n d) vD ws ds W) (hk : ws[k]? = some x) (hj : j < 7) (hx : ∀ A d, KW.cel A d x' = (KW.cel A d x).set j u) (hg : x'.m.gs = x.m.gs) :
  PtC w0 b p c (.slice (some ⟨q, 0, none⟩) n d) vD (ws.set k x') ds (W.setCell ⟨q, k * 7 + j, none⟩ u) ∧ Kept isC W (W.setCell ⟨q, k * 7 + j, none⟩ u) := by
 obtain ⟨h1, h2, h3, h4⟩ := h.ow.store hk hj hx hg (by decide)
 exact ⟨⟨h.bl.trans h3, ⟨h.ord.1, by have := h.ord.2; have e : (W.setCell ⟨q, k * 7 + j, none⟩ u).heap.size = W.heap.size := h4; omega⟩, h2.box _ _ _ (by decide) h.bx, h1, h2.own h.od (by decide)⟩, h2.mono fun e he => .inl he⟩
end
theorem wtc_store {w : World} {b : Nat} {T : TypeId} {l : List Wt} {q n c k : Nat} {x : Wt} (h : KO KW w b T (.slice (some ⟨q, 0, none⟩) n c) l) (hk : l[k]? = some x) :
  ∃ B d, At7 w q (k * 7) B d x ∧ (∀ i, w.frozen? ⟨q, i, none⟩ = false) ∧ RowGe w b B d x.m.gs := by
 obtain ⟨B, d, h1, h2, h3⟩ := h.cellAt hk
 exact ⟨B, d, ⟨h1 0 _ rfl, h1 1 _ rfl, h1 2 _ rfl, h1 3 _ rfl, h1 4 _ rfl, h1 5 _ rfl, h1 6 _ rfl⟩, h2, h3⟩
theorem flat_takeK {α : Type} {f : α → List Value} {s : Nat} : ∀ (l : List α) (k : Nat), (∀ a ∈ l, (f a).length = s) → (flat f l).take (k * s) = flat f (l.take k)
 | [], k, _ => by simp [flat]
 | a :: l, 0, _ => by simp [flat]
 | a :: l, k + 1, h => by
  have ha := h a (List.mem_cons_self ..)
  rw [flat_cons, List.take_succ_cons, flat_cons, Nat.add_mul, Nat.one_mul, List.take_append, ha, List.take_of_length_le (by omega), Nat.add_sub_cancel, flat_takeK l k (fun b hb => h b (List.mem_cons_of_mem _ hb))]
theorem flat_dropK {α : Type} {f : α → List Value} {s : Nat} : ∀ (l : List α) (k : Nat), (∀ a ∈ l, (f a).length = s) → (flat f l).drop (k * s) = flat f (l.drop k)
 | [], k, _ => by simp [flat]
 | a :: l, 0, _ => by simp [flat]
 | a :: l, k + 1, h => by
  have ha := h a (List.mem_cons_self ..)
  rw [flat_cons, List.drop_succ_cons, Nat.add_mul, Nat.one_mul, List.drop_append, ha, List.drop_eq_nil_of_le (by omega), List.nil_append, Nat.add_sub_cancel, flat_dropK l k (fun b hb => h b (List.mem_cons_of_mem _ hb))]
section
variable {α : Type} {K : Kd α} {w w' : World} {b : Nat} {T : TypeId} {v v2 : Value} {l : List α}
theorem kO_of (es : List (Ex α)) (ho : w.ownsRow b T K.s v es.length (flat (exc K) es)) (hr : ∀ e ∈ es, RowGe w b e.A e.c (K.gs e.x)) (hT : T ≠ 3) : KO K w b T v (es.map Ex.x) :=
 ⟨es, rfl, ho, fun e he => ⟨hr e he, fun ad ea hn k => by
  obtain ⟨g, cur, e1, _, e3, _⟩ := (hr e he).3 hn
  rw [ea] at e1
  injection e1 with e1
  rw [e1] at k
  exact own_ne ho e3 hT k.symm⟩⟩
theorem kO_ins {i n : Nat} {x : α} {A : Option Addr} {c : Nat} (es : List (Ex α)) (hn : es.length = n) (hi : i ≤ n) (hr : ∀ e ∈ es, RowGe w b e.A e.c (K.gs e.x) ∧ ∀ ad, e.A = some ad → 0 < (K.gs e.x).length → v.ownBlock ≠ some ad.block)
  (h1 : RowGe w b A c (K.gs x)) (n1 : ∀ ad, A = some ad → 0 < (K.gs x).length → v.ownBlock ≠ some ad.block) (hg : w.grownBy w' v.ownBlock)
  (ho : w'.ownsRow b T K.s v2 (n + 1) ((flat (exc K) es).take (i * K.s) ++ K.cel A c x ++ (flat (exc K) es).drop (i * K.s))) (hT : T ≠ 3) : KO K w' b T v2 ((es.map Ex.x).take i ++ [x] ++ (es.map Ex.x).drop i) := by
 have he : (es.map Ex.x).take i ++ [x] ++ (es.map Ex.x).drop i = (es.take i ++ [(⟨A, c, x⟩ : Ex α)] ++ es.drop i).map Ex.x := by simp
 have hl : (es.take i ++ [(⟨A, c, x⟩ : Ex α)] ++ es.drop i).length = n + 1 := by simp; omega
 rw [he]
 refine kO_of _ ?_ (fun e hm => ?_) hT
 ·rw [hl, flat_append, flat_append, flat_one, ← flat_takeK es i (exc_len K es), ← flat_dropK es i (exc_len K es)]
  exact ho
 ·rw [List.mem_append, List.mem_append, List.mem_singleton] at hm
  rcases hm with (hm | rfl) | hm
  ·obtain ⟨g1, g2⟩ := hr e (List.mem_of_mem_take hm)
   exact rowGe_grown g1 hg g2
  ·exact rowGe_grown h1 hg n1
  ·obtain ⟨g1, g2⟩ := hr e (List.mem_of_mem_drop hm)
   exact rowGe_grown g1 hg g2
theorem kO_del {i n : Nat} (es : List (Ex α)) (hn : es.length = n) (hi : i < n) (hr : ∀ e ∈ es, RowGe w b e.A e.c (K.gs e.x) ∧ ∀ ad, e.A = some ad → 0 < (K.gs e.x).length → v.ownBlock ≠ some ad.block)
  (hg : w.grownBy w' v.ownBlock) (ho : w'.ownsRow b T K.s v2 (n - 1) ((flat (exc K) es).take (i * K.s) ++ (flat (exc K) es).drop ((i + 1) * K.s))) (hT : T ≠ 3) : KO K w' b T v2 ((es.map Ex.x).eraseIdx i) := by
 have he : (es.map Ex.x).eraseIdx i = (es.take i ++ es.drop (i + 1)).map Ex.x := by rw [List.eraseIdx_eq_take_drop_succ]; simp
 have hl : (es.take i ++ es.drop (i + 1)).length = n - 1 := by simp; omega
 rw [he]
 refine kO_of _ ?_ (fun e hm => ?_) hT
 ·rw [hl, flat_append, ← flat_takeK es i (exc_len K es), ← flat_dropK es (i + 1) (exc_len K es)]
  exact ho
 ·rw [List.mem_append] at hm
  rcases hm with hm | hm
  ·obtain ⟨g1, g2⟩ := hr e (List.mem_of_mem_take hm)
   exact rowGe_grown g1 hg g2
  ·obtain ⟨g1, g2⟩ := hr e (List.mem_of_mem_drop hm)
   exact rowGe_grown g1 hg g2
end
end KP
end Go.Proofs.YteebeiaokfenmaaGreat
