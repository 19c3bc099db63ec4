/-
  The document's own May of a command of kind 2 (towncrierref12). Conditions: as RowIs and MgFit say.
  The document's own May of a command of kind 3 (towncrierref12). Conditions: as RowIs and MgFit say.
  The document's own May of a command of kind 4 (towncrierref12). Conditions: as RowIs and MgFit say.
  The document's own May of a command of kind 5 (towncrierref12). Conditions: as RowIs and MgFit say.
  The document's own May of a command of kind 6 (towncrierref12). Conditions: as RowIs and MgFit say.
  The document's own May of a command of kind k (towncrierref12). Conditions: as RowIs and MgFit say.
  What package command's front keeps: the bytes that are left, the command so far, the fields of its kind. No walk.
-/
import Derived.Test.YteebeiaokfenmaaGreatK01
import Derived.Test.YteebeiaokfenmaaGreatK05
import Derived.Test.YteebeiaokfenmaaGreatK14
import Derived.Test.YteebeiaokfenmaaGreatK13
import Derived.Deep.DeepCutAuto
import Derived.Test.YteebeiaokfenmaaGreatK17
import Derived.Test.YteebeiaokfenmaaGreatK07
namespace Go.Proofs.YteebeiaokfenmaaGreat.CP
open Go.RowKit
open CM (Mg Cm)
set_option linter.unusedVariables false
set_option linter.unusedSimpArgs false
set_option maxRecDepth 100000
set_option maxHeartbeats 8000000 in
theorem may12_2 (am : Mg) (aid atm : Int) (ams : List Int) (atp awh an : Int) (A : Option Addr) (c : Nat) (P : Option Addr) (q : Nat) (w : World) (r1 : RowIs w A c am.gs) (r3 : RowIs w P q ams) (hf : MgFit am) :
  Calls Tryz.prog 114 #[.agg #[.int .u8 2, .int .i64 am.id, .slice A am.gs.length c, .int .i64 am.tp, .string am.key, .string am.body, .int .i64 aid, .int .i64 atm, .slice P ams.length q, .int .i64 atp, .int .i64 awh, .int .i64 an]] w (BoolIs (decide (CM.may ⟨2, am, aid, atm, ams, atp, awh, an⟩)) w) := by
 have HNO : Hid (¬ ((am = CM.mz) ∧ (CM.idOk aid) ∧ (1 ≤ atm ∧ atm < 1073741825) ∧ (ams = []) ∧ (atp = 0) ∧ (awh = 0) ∧ (an = 0)) → false = decide (CM.may ⟨2, am, aid, atm, ams, atp, awh, an⟩)) := h! (fun h => by rw [decide_eq_false (fun e => h (may_iff2.1 e))])
 have HYES : Hid (((am = CM.mz) ∧ (CM.idOk aid) ∧ (1 ≤ atm ∧ atm < 1073741825) ∧ (ams = []) ∧ (atp = 0) ∧ (awh = 0) ∧ (an = 0)) → true = decide (CM.may ⟨2, am, aid, atm, ams, atp, awh, an⟩)) := h! (fun h => by rw [decide_eq_true (may_iff2.2 h)])
 generalize decide (CM.may ⟨2, am, aid, atm, ams, atp, awh, an⟩) = r at HNO HYES ⊢
 have hb0 : Below w.heap.size w (w.alloc (.cells #[.int .u8 2, .int .i64 am.id, .slice A am.gs.length c, .int .i64 am.tp, .string am.key, .string am.body, .int .i64 aid, .int .i64 atm, .slice P ams.length q, .int .i64 atp, .int .i64 awh, .int .i64 an] 91)) := b!
 have S := h! (sameMessage_any am CM.mz (.agg (mcells A c am)) _ _ ⟨A, c, rfl, r1.below hb0⟩ (mz_is _))
 unfold mcells at S
 have HX := h! (Box.new w 91 #[.int .u8 2, .int .i64 am.id, .slice A am.gs.length c, .int .i64 am.tp, .string am.key, .string am.body, .int .i64 aid, .int .i64 atm, .slice P ams.length q, .int .i64 atp, .int .i64 awh, .int .i64 an])
 have HB := h! hb0
 have HL : Hid (ams = [] ↔ ams.length = 0) := h! List.length_eq_zero_iff.symm
 have HM := h! (Nat.le_trans r3.2.1 r3.2.2)
 clear hb0 r1 r3 hf
 go_enter Tryz.func114, Tryz.ntmps114
 go_upto_region 1 with (fail)
 generalize w.alloc (.cells #[.int .u8 2, .int .i64 am.id, .slice A am.gs.length c, .int .i64 am.tp, .string am.key, .string am.body, .int .i64 aid, .int .i64 atm, .slice P ams.length q, .int .i64 atp, .int .i64 awh, .int .i64 an] 91) = w1 at HX HB S ⊢
 have G1 := h! HX.out.lt
 generalize hg0 : w.heap.size = g0 at HX G1 ⊢
 clear hg0
 obtain ⟨x0, x1, x2, x3, x4, x5, x6, x7, x8, x9, x10, x11⟩ := box_cm HX.out
 go_wp2_with fail
 refine (S.out).mono ?_
 rintro e w2 ⟨rfl, hb2⟩
 clear S
 replace HB := h! (HB.out.trans (hb2.mono HB.out.size))
 replace HX := h! (HX.out.below hb2 G1.out)
 replace G1 := h! (Nat.lt_of_lt_of_le G1.out hb2.size)
 clear hb2
 clear x0 x1 x2 x3 x4 x5 x6 x7 x8 x9 x10 x11
 obtain ⟨x0, x1, x2, x3, x4, x5, x6, x7, x8, x9, x10, x11⟩ := box_cm HX.out
 by_cases h0 : am = CM.mz
 rotate_left
 ·have HF := h! (HNO.out (fun h => h0 h.1))
  rw [decide_eq_false h0]
  clear HNO HYES
  go_wp2_with fail
  go_ret
  exact bool_ret HF.out HB.out
 rw [decide_eq_true h0]
 have CI := h! (Id_any aid)
 go_wp2_with fail
 refine (CI.out _).mono ?_
 rintro e wx ⟨rfl, rfl⟩
 clear CI
 by_cases h1 : CM.idOk aid
 rotate_left
 ·have HF := h! (HNO.out (fun h => h1 h.2.1))
  rw [decide_eq_false h1]
  clear HNO HYES
  go_wp2_with fail
  go_ret
  exact bool_ret HF.out HB.out
 rw [decide_eq_true h1]
 have CI := h! (In_any atm 1 1073741825)
 go_wp2_with fail
 refine (CI.out _).mono ?_
 rintro e wx ⟨rfl, rfl⟩
 clear CI
 by_cases h2 : 1 ≤ atm ∧ atm < 1073741825
 rotate_left
 ·have HF := h! (HNO.out (fun h => h2 h.2.2.1))
  rw [decide_eq_false h2]
  clear HNO HYES
  go_wp2_with fail
  go_ret
  exact bool_ret HF.out HB.out
 rw [decide_eq_true h2]
 by_cases h3 : ams = []
 rotate_left
 ·have HF := h! (HNO.out (fun h => h3 h.2.2.2.1))
  have e3 : ((ams.length : Int) == 0) = false := by have := fun e => h3 (HL.out.2 e); simpa using this
  clear HNO HYES
  go_wp2_with fail
  go_ret
  exact bool_ret HF.out HB.out
 have e3 : ((ams.length : Int) == 0) = true := by simpa using h3
 by_cases h4 : atp = 0
 rotate_left
 ·have HF := h! (HNO.out (fun h => h4 h.2.2.2.2.1))
  have e4 : (atp == 0) = false := by simpa using h4
  clear HNO HYES
  go_wp2_with fail
  go_ret
  exact bool_ret HF.out HB.out
 have e4 : (atp == 0) = true := by simpa using h4
 by_cases h5 : awh = 0
 rotate_left
 ·have HF := h! (HNO.out (fun h => h5 h.2.2.2.2.2.1))
  have e5 : (awh == 0) = false := by simpa using h5
  clear HNO HYES
  go_wp2_with fail
  go_ret
  exact bool_ret HF.out HB.out
 have e5 : (awh == 0) = true := by simpa using h5
 by_cases h6 : an = 0
 rotate_left
 ·have HF := h! (HNO.out (fun h => h6 h.2.2.2.2.2.2))
  have e6 : (an == 0) = false := by simpa using h6
  clear HNO HYES
  go_wp2_with fail
  go_ret
  exact bool_ret HF.out HB.out
 have e6 : (an == 0) = true := by simpa using h6
 have HF := h! (HYES.out ⟨h0, h1, h2, h3, h4, h5, h6⟩)
 clear HNO HYES
 go_wp2_with fail
 go_ret
 exact bool_ret HF.out HB.out
end Go.Proofs.YteebeiaokfenmaaGreat.CP

namespace Go.Proofs.YteebeiaokfenmaaGreat.CP
open Go.RowKit
open CM (Mg Cm)
set_option linter.unusedVariables false
set_option linter.unusedSimpArgs false
set_option maxRecDepth 100000
set_option maxHeartbeats 8000000 in
theorem may12_3 (am : Mg) (aid atm : Int) (ams : List Int) (atp awh an : Int) (A : Option Addr) (c : Nat) (P : Option Addr) (q : Nat) (w : World) (r1 : RowIs w A c am.gs) (r3 : RowIs w P q ams) (hf : MgFit am) :
  Calls Tryz.prog 114 #[.agg #[.int .u8 3, .int .i64 am.id, .slice A am.gs.length c, .int .i64 am.tp, .string am.key, .string am.body, .int .i64 aid, .int .i64 atm, .slice P ams.length q, .int .i64 atp, .int .i64 awh, .int .i64 an]] w (BoolIs (decide (CM.may ⟨3, am, aid, atm, ams, atp, awh, an⟩)) w) := by
 have HNO : Hid (¬ ((am = CM.mz) ∧ (aid = 0) ∧ (atm = 0) ∧ (QM.may ams = true) ∧ (atp = 0) ∧ (awh = 0) ∧ (an = 0)) → false = decide (CM.may ⟨3, am, aid, atm, ams, atp, awh, an⟩)) := h! (fun h => by rw [decide_eq_false (fun e => h (may_iff3.1 e))])
 have HYES : Hid (((am = CM.mz) ∧ (aid = 0) ∧ (atm = 0) ∧ (QM.may ams = true) ∧ (atp = 0) ∧ (awh = 0) ∧ (an = 0)) → true = decide (CM.may ⟨3, am, aid, atm, ams, atp, awh, an⟩)) := h! (fun h => by rw [decide_eq_true (may_iff3.2 h)])
 generalize decide (CM.may ⟨3, am, aid, atm, ams, atp, awh, an⟩) = r at HNO HYES ⊢
 obtain ⟨yc, hyc⟩ := QM.chkIs_ex ams
 have D := h! (fun W2 (h : Below w.heap.size w W2) => rqCheck_any P ams.length q ams yc W2 (r3.below h).1 (Nat.le_trans r3.2.1 (Nat.le_trans r3.2.2 (by decide))) hyc)
 have HC := h! hyc
 clear hyc
 have hb0 : Below w.heap.size w (w.alloc (.cells #[.int .u8 3, .int .i64 am.id, .slice A am.gs.length c, .int .i64 am.tp, .string am.key, .string am.body, .int .i64 aid, .int .i64 atm, .slice P ams.length q, .int .i64 atp, .int .i64 awh, .int .i64 an] 91)) := b!
 have S := h! (sameMessage_any am CM.mz (.agg (mcells A c am)) _ _ ⟨A, c, rfl, r1.below hb0⟩ (mz_is _))
 unfold mcells at S
 have HX := h! (Box.new w 91 #[.int .u8 3, .int .i64 am.id, .slice A am.gs.length c, .int .i64 am.tp, .string am.key, .string am.body, .int .i64 aid, .int .i64 atm, .slice P ams.length q, .int .i64 atp, .int .i64 awh, .int .i64 an])
 have HB := h! hb0
 have HL : Hid (ams = [] ↔ ams.length = 0) := h! List.length_eq_zero_iff.symm
 have HM := h! (Nat.le_trans r3.2.1 r3.2.2)
 clear hb0 r1 r3 hf
 go_enter Tryz.func114, Tryz.ntmps114
 go_upto_region 1 with (fail)
 generalize w.alloc (.cells #[.int .u8 3, .int .i64 am.id, .slice A am.gs.length c, .int .i64 am.tp, .string am.key, .string am.body, .int .i64 aid, .int .i64 atm, .slice P ams.length q, .int .i64 atp, .int .i64 awh, .int .i64 an] 91) = w1 at HX HB S ⊢
 have G1 := h! HX.out.lt
 generalize hg0 : w.heap.size = g0 at HX G1 ⊢
 clear hg0
 obtain ⟨x0, x1, x2, x3, x4, x5, x6, x7, x8, x9, x10, x11⟩ := box_cm HX.out
 go_wp2_with fail
 refine (S.out).mono ?_
 rintro e w2 ⟨rfl, hb2⟩
 clear S
 replace HB := h! (HB.out.trans (hb2.mono HB.out.size))
 replace HX := h! (HX.out.below hb2 G1.out)
 replace G1 := h! (Nat.lt_of_lt_of_le G1.out hb2.size)
 clear hb2
 clear x0 x1 x2 x3 x4 x5 x6 x7 x8 x9 x10 x11
 obtain ⟨x0, x1, x2, x3, x4, x5, x6, x7, x8, x9, x10, x11⟩ := box_cm HX.out
 by_cases h0 : am = CM.mz
 rotate_left
 ·have HF := h! (HNO.out (fun h => h0 h.1))
  rw [decide_eq_false h0]
  clear HNO HYES
  go_wp2_with fail
  go_ret
  exact bool_ret HF.out HB.out
 rw [decide_eq_true h0]
 by_cases h1 : aid = 0
 rotate_left
 ·have HF := h! (HNO.out (fun h => h1 h.2.1))
  have e1 : (aid == 0) = false := by simpa using h1
  clear HNO HYES
  go_wp2_with fail
  go_ret
  exact bool_ret HF.out HB.out
 have e1 : (aid == 0) = true := by simpa using h1
 by_cases h2 : atm = 0
 rotate_left
 ·have HF := h! (HNO.out (fun h => h2 h.2.2.1))
  have e2 : (atm == 0) = false := by simpa using h2
  clear HNO HYES
  go_wp2_with fail
  go_ret
  exact bool_ret HF.out HB.out
 have e2 : (atm == 0) = true := by simpa using h2
 have D2 := h! (D.out _ HB.out)
 clear D
 go_wp2_with fail
 refine (D2.out).mono ?_
 rintro e w3 ⟨rfl, qx, rfl⟩
 have hb2 := below_drewN (Below.refl w2.heap.size w2) qx
 replace HB := h! (HB.out.trans (hb2.mono HB.out.size))
 replace HX := h! (HX.out.below hb2 G1.out)
 replace G1 := h! (Nat.lt_of_lt_of_le G1.out hb2.size)
 clear hb2
 clear x0 x1 x2 x3 x4 x5 x6 x7 x8 x9 x10 x11
 obtain ⟨x0, x1, x2, x3, x4, x5, x6, x7, x8, x9, x10, x11⟩ := box_cm HX.out
 by_cases h3 : QM.may ams = true
 rotate_left
 ·have HF := h! (HNO.out (fun h => h3 h.2.2.2.1))
  have e3 : (yc == 0) = false := by
   rcases QM.chkIs_cases HC.out with ⟨_, hy⟩ | ⟨_, rfl | rfl⟩
   ·exact absurd hy h3
   ·rfl
   ·rfl
  clear HNO HYES
  go_wp2_with fail
  go_ret
  exact bool_ret HF.out HB.out
 have e3 : (yc == 0) = true := by
  rcases QM.chkIs_cases HC.out with ⟨rfl, _⟩ | ⟨hy, _⟩
  ·rfl
  ·rw [h3] at hy; cases hy
 by_cases h4 : atp = 0
 rotate_left
 ·have HF := h! (HNO.out (fun h => h4 h.2.2.2.2.1))
  have e4 : (atp == 0) = false := by simpa using h4
  clear HNO HYES
  go_wp2_with fail
  go_ret
  exact bool_ret HF.out HB.out
 have e4 : (atp == 0) = true := by simpa using h4
 by_cases h5 : awh = 0
 rotate_left
 ·have HF := h! (HNO.out (fun h => h5 h.2.2.2.2.2.1))
  have e5 : (awh == 0) = false := by simpa using h5
  clear HNO HYES
  go_wp2_with fail
  go_ret
  exact bool_ret HF.out HB.out
 have e5 : (awh == 0) = true := by simpa using h5
 by_cases h6 : an = 0
 rotate_left
 ·have HF := h! (HNO.out (fun h => h6 h.2.2.2.2.2.2))
  have e6 : (an == 0) = false := by simpa using h6
  clear HNO HYES
  go_wp2_with fail
  go_ret
  exact bool_ret HF.out HB.out
 have e6 : (an == 0) = true := by simpa using h6
 have HF := h! (HYES.out ⟨h0, h1, h2, h3, h4, h5, h6⟩)
 clear HNO HYES
 go_wp2_with fail
 go_ret
 exact bool_ret HF.out HB.out
end Go.Proofs.YteebeiaokfenmaaGreat.CP

namespace Go.Proofs.YteebeiaokfenmaaGreat.CP
open Go.RowKit
open CM (Mg Cm)
set_option linter.unusedVariables false
set_option linter.unusedSimpArgs false
set_option maxRecDepth 100000
set_option maxHeartbeats 8000000 in
theorem may12_4 (am : Mg) (aid atm : Int) (ams : List Int) (atp awh an : Int) (A : Option Addr) (c : Nat) (P : Option Addr) (q : Nat) (w : World) (r1 : RowIs w A c am.gs) (r3 : RowIs w P q ams) (hf : MgFit am) :
  Calls Tryz.prog 114 #[.agg #[.int .u8 4, .int .i64 am.id, .slice A am.gs.length c, .int .i64 am.tp, .string am.key, .string am.body, .int .i64 aid, .int .i64 atm, .slice P ams.length q, .int .i64 atp, .int .i64 awh, .int .i64 an]] w (BoolIs (decide (CM.may ⟨4, am, aid, atm, ams, atp, awh, an⟩)) w) := by
 have HNO : Hid (¬ ((am = CM.mz) ∧ (CM.idOk aid) ∧ (atm = 0) ∧ (ams = []) ∧ (0 ≤ atp ∧ atp < 4) ∧ (0 ≤ an ∧ an < 1073741825) ∧ (0 ≤ awh ∧ awh < 8)) → false = decide (CM.may ⟨4, am, aid, atm, ams, atp, awh, an⟩)) := h! (fun h => by rw [decide_eq_false (fun e => h (may_iff4.1 e))])
 have HYES : Hid (((am = CM.mz) ∧ (CM.idOk aid) ∧ (atm = 0) ∧ (ams = []) ∧ (0 ≤ atp ∧ atp < 4) ∧ (0 ≤ an ∧ an < 1073741825) ∧ (0 ≤ awh ∧ awh < 8)) → true = decide (CM.may ⟨4, am, aid, atm, ams, atp, awh, an⟩)) := h! (fun h => by rw [decide_eq_true (may_iff4.2 h)])
 generalize decide (CM.may ⟨4, am, aid, atm, ams, atp, awh, an⟩) = r at HNO HYES ⊢
 have hb0 : Below w.heap.size w (w.alloc (.cells #[.int .u8 4, .int .i64 am.id, .slice A am.gs.length c, .int .i64 am.tp, .string am.key, .string am.body, .int .i64 aid, .int .i64 atm, .slice P ams.length q, .int .i64 atp, .int .i64 awh, .int .i64 an] 91)) := b!
 have S := h! (sameMessage_any am CM.mz (.agg (mcells A c am)) _ _ ⟨A, c, rfl, r1.below hb0⟩ (mz_is _))
 unfold mcells at S
 have HX := h! (Box.new w 91 #[.int .u8 4, .int .i64 am.id, .slice A am.gs.length c, .int .i64 am.tp, .string am.key, .string am.body, .int .i64 aid, .int .i64 atm, .slice P ams.length q, .int .i64 atp, .int .i64 awh, .int .i64 an])
 have HB := h! hb0
 have HL : Hid (ams = [] ↔ ams.length = 0) := h! List.length_eq_zero_iff.symm
 have HM := h! (Nat.le_trans r3.2.1 r3.2.2)
 clear hb0 r1 r3 hf
 go_enter Tryz.func114, Tryz.ntmps114
 go_upto_region 1 with (fail)
 generalize w.alloc (.cells #[.int .u8 4, .int .i64 am.id, .slice A am.gs.length c, .int .i64 am.tp, .string am.key, .string am.body, .int .i64 aid, .int .i64 atm, .slice P ams.length q, .int .i64 atp, .int .i64 awh, .int .i64 an] 91) = w1 at HX HB S ⊢
 have G1 := h! HX.out.lt
 generalize hg0 : w.heap.size = g0 at HX G1 ⊢
 clear hg0
 obtain ⟨x0, x1, x2, x3, x4, x5, x6, x7, x8, x9, x10, x11⟩ := box_cm HX.out
 go_wp2_with fail
 refine (S.out).mono ?_
 rintro e w2 ⟨rfl, hb2⟩
 clear S
 replace HB := h! (HB.out.trans (hb2.mono HB.out.size))
 replace HX := h! (HX.out.below hb2 G1.out)
 replace G1 := h! (Nat.lt_of_lt_of_le G1.out hb2.size)
 clear hb2
 clear x0 x1 x2 x3 x4 x5 x6 x7 x8 x9 x10 x11
 obtain ⟨x0, x1, x2, x3, x4, x5, x6, x7, x8, x9, x10, x11⟩ := box_cm HX.out
 by_cases h0 : am = CM.mz
 rotate_left
 ·have HF := h! (HNO.out (fun h => h0 h.1))
  rw [decide_eq_false h0]
  clear HNO HYES
  go_wp2_with fail
  go_ret
  exact bool_ret HF.out HB.out
 rw [decide_eq_true h0]
 have CI := h! (Id_any aid)
 go_wp2_with fail
 refine (CI.out _).mono ?_
 rintro e wx ⟨rfl, rfl⟩
 clear CI
 by_cases h1 : CM.idOk aid
 rotate_left
 ·have HF := h! (HNO.out (fun h => h1 h.2.1))
  rw [decide_eq_false h1]
  clear HNO HYES
  go_wp2_with fail
  go_ret
  exact bool_ret HF.out HB.out
 rw [decide_eq_true h1]
 by_cases h2 : atm = 0
 rotate_left
 ·have HF := h! (HNO.out (fun h => h2 h.2.2.1))
  have e2 : (atm == 0) = false := by simpa using h2
  clear HNO HYES
  go_wp2_with fail
  go_ret
  exact bool_ret HF.out HB.out
 have e2 : (atm == 0) = true := by simpa using h2
 by_cases h3 : ams = []
 rotate_left
 ·have HF := h! (HNO.out (fun h => h3 h.2.2.2.1))
  have e3 : ((ams.length : Int) == 0) = false := by have := fun e => h3 (HL.out.2 e); simpa using this
  clear HNO HYES
  go_wp2_with fail
  go_ret
  exact bool_ret HF.out HB.out
 have e3 : ((ams.length : Int) == 0) = true := by simpa using h3
 have CI := h! (In_any atp 0 4)
 go_wp2_with fail
 refine (CI.out _).mono ?_
 rintro e wx ⟨rfl, rfl⟩
 clear CI
 by_cases h4 : 0 ≤ atp ∧ atp < 4
 rotate_left
 ·have HF := h! (HNO.out (fun h => h4 h.2.2.2.2.1))
  rw [decide_eq_false h4]
  clear HNO HYES
  go_wp2_with fail
  go_ret
  exact bool_ret HF.out HB.out
 rw [decide_eq_true h4]
 have CI := h! (In_any an 0 1073741825)
 go_wp2_with fail
 refine (CI.out _).mono ?_
 rintro e wx ⟨rfl, rfl⟩
 clear CI
 by_cases h5 : 0 ≤ an ∧ an < 1073741825
 rotate_left
 ·have HF := h! (HNO.out (fun h => h5 h.2.2.2.2.2.1))
  rw [decide_eq_false h5]
  clear HNO HYES
  go_wp2_with fail
  go_ret
  exact bool_ret HF.out HB.out
 rw [decide_eq_true h5]
 by_cases hw0 : awh = 0
 ·have HF := h! (HYES.out ⟨h0, h1, h2, h3, h4, h5, by omega⟩)
  have e6 : (awh == 0) = true := by simpa using hw0
  clear HNO HYES
  go_wp2_with fail
  go_ret
  exact bool_ret HF.out HB.out
 have e6 : (awh == 0) = false := by simpa using hw0
 have CI := h! (In_any awh 0 8)
 go_wp2_with fail
 refine (CI.out _).mono ?_
 rintro e wx ⟨rfl, rfl⟩
 clear CI
 by_cases h6 : 0 ≤ awh ∧ awh < 8
 rotate_left
 ·have HF := h! (HNO.out (fun h => h6 h.2.2.2.2.2.2))
  rw [decide_eq_false h6]
  clear HNO HYES
  go_wp2_with fail
  go_ret
  exact bool_ret HF.out HB.out
 rw [decide_eq_true h6]
 have HF := h! (HYES.out ⟨h0, h1, h2, h3, h4, h5, h6⟩)
 clear HNO HYES
 go_wp2_with fail
 go_ret
 exact bool_ret HF.out HB.out
end Go.Proofs.YteebeiaokfenmaaGreat.CP

namespace Go.Proofs.YteebeiaokfenmaaGreat.CP
open Go.RowKit
open CM (Mg Cm)
set_option linter.unusedVariables false
set_option linter.unusedSimpArgs false
set_option maxRecDepth 100000
set_option maxHeartbeats 8000000 in
theorem may12_5 (am : Mg) (aid atm : Int) (ams : List Int) (atp awh an : Int) (A : Option Addr) (c : Nat) (P : Option Addr) (q : Nat) (w : World) (r1 : RowIs w A c am.gs) (r3 : RowIs w P q ams) (hf : MgFit am) :
  Calls Tryz.prog 114 #[.agg #[.int .u8 5, .int .i64 am.id, .slice A am.gs.length c, .int .i64 am.tp, .string am.key, .string am.body, .int .i64 aid, .int .i64 atm, .slice P ams.length q, .int .i64 atp, .int .i64 awh, .int .i64 an]] w (BoolIs (decide (CM.may ⟨5, am, aid, atm, ams, atp, awh, an⟩)) w) := by
 have HNO : Hid (¬ ((am = CM.mz) ∧ (CM.idOk aid) ∧ (atm = 0) ∧ (ams = []) ∧ (0 ≤ atp ∧ atp < 4) ∧ (0 ≤ an ∧ an < 1073741825) ∧ (awh = 0)) → false = decide (CM.may ⟨5, am, aid, atm, ams, atp, awh, an⟩)) := h! (fun h => by rw [decide_eq_false (fun e => h (may_iff5.1 e))])
 have HYES : Hid (((am = CM.mz) ∧ (CM.idOk aid) ∧ (atm = 0) ∧ (ams = []) ∧ (0 ≤ atp ∧ atp < 4) ∧ (0 ≤ an ∧ an < 1073741825) ∧ (awh = 0)) → true = decide (CM.may ⟨5, am, aid, atm, ams, atp, awh, an⟩)) := h! (fun h => by rw [decide_eq_true (may_iff5.2 h)])
 generalize decide (CM.may ⟨5, am, aid, atm, ams, atp, awh, an⟩) = r at HNO HYES ⊢
 have hb0 : Below w.heap.size w (w.alloc (.cells #[.int .u8 5, .int .i64 am.id, .slice A am.gs.length c, .int .i64 am.tp, .string am.key, .string am.body, .int .i64 aid, .int .i64 atm, .slice P ams.length q, .int .i64 atp, .int .i64 awh, .int .i64 an] 91)) := b!
 have S := h! (sameMessage_any am CM.mz (.agg (mcells A c am)) _ _ ⟨A, c, rfl, r1.below hb0⟩ (mz_is _))
 unfold mcells at S
 have HX := h! (Box.new w 91 #[.int .u8 5, .int .i64 am.id, .slice A am.gs.length c, .int .i64 am.tp, .string am.key, .string am.body, .int .i64 aid, .int .i64 atm, .slice P ams.length q, .int .i64 atp, .int .i64 awh, .int .i64 an])
 have HB := h! hb0
 have HL : Hid (ams = [] ↔ ams.length = 0) := h! List.length_eq_zero_iff.symm
 have HM := h! (Nat.le_trans r3.2.1 r3.2.2)
 clear hb0 r1 r3 hf
 go_enter Tryz.func114, Tryz.ntmps114
 go_upto_region 1 with (fail)
 generalize w.alloc (.cells #[.int .u8 5, .int .i64 am.id, .slice A am.gs.length c, .int .i64 am.tp, .string am.key, .string am.body, .int .i64 aid, .int .i64 atm, .slice P ams.length q, .int .i64 atp, .int .i64 awh, .int .i64 an] 91) = w1 at HX HB S ⊢
 have G1 := h! HX.out.lt
 generalize hg0 : w.heap.size = g0 at HX G1 ⊢
 clear hg0
 obtain ⟨x0, x1, x2, x3, x4, x5, x6, x7, x8, x9, x10, x11⟩ := box_cm HX.out
 go_wp2_with fail
 refine (S.out).mono ?_
 rintro e w2 ⟨rfl, hb2⟩
 clear S
 replace HB := h! (HB.out.trans (hb2.mono HB.out.size))
 replace HX := h! (HX.out.below hb2 G1.out)
 replace G1 := h! (Nat.lt_of_lt_of_le G1.out hb2.size)
 clear hb2
 clear x0 x1 x2 x3 x4 x5 x6 x7 x8 x9 x10 x11
 obtain ⟨x0, x1, x2, x3, x4, x5, x6, x7, x8, x9, x10, x11⟩ := box_cm HX.out
 by_cases h0 : am = CM.mz
 rotate_left
 ·have HF := h! (HNO.out (fun h => h0 h.1))
  rw [decide_eq_false h0]
  clear HNO HYES
  go_wp2_with fail
  go_ret
  exact bool_ret HF.out HB.out
 rw [decide_eq_true h0]
 have CI := h! (Id_any aid)
 go_wp2_with fail
 refine (CI.out _).mono ?_
 rintro e wx ⟨rfl, rfl⟩
 clear CI
 by_cases h1 : CM.idOk aid
 rotate_left
 ·have HF := h! (HNO.out (fun h => h1 h.2.1))
  rw [decide_eq_false h1]
  clear HNO HYES
  go_wp2_with fail
  go_ret
  exact bool_ret HF.out HB.out
 rw [decide_eq_true h1]
 by_cases h2 : atm = 0
 rotate_left
 ·have HF := h! (HNO.out (fun h => h2 h.2.2.1))
  have e2 : (atm == 0) = false := by simpa using h2
  clear HNO HYES
  go_wp2_with fail
  go_ret
  exact bool_ret HF.out HB.out
 have e2 : (atm == 0) = true := by simpa using h2
 by_cases h3 : ams = []
 rotate_left
 ·have HF := h! (HNO.out (fun h => h3 h.2.2.2.1))
  have e3 : ((ams.length : Int) == 0) = false := by have := fun e => h3 (HL.out.2 e); simpa using this
  clear HNO HYES
  go_wp2_with fail
  go_ret
  exact bool_ret HF.out HB.out
 have e3 : ((ams.length : Int) == 0) = true := by simpa using h3
 have CI := h! (In_any atp 0 4)
 go_wp2_with fail
 refine (CI.out _).mono ?_
 rintro e wx ⟨rfl, rfl⟩
 clear CI
 by_cases h4 : 0 ≤ atp ∧ atp < 4
 rotate_left
 ·have HF := h! (HNO.out (fun h => h4 h.2.2.2.2.1))
  rw [decide_eq_false h4]
  clear HNO HYES
  go_wp2_with fail
  go_ret
  exact bool_ret HF.out HB.out
 rw [decide_eq_true h4]
 have CI := h! (In_any an 0 1073741825)
 go_wp2_with fail
 refine (CI.out _).mono ?_
 rintro e wx ⟨rfl, rfl⟩
 clear CI
 by_cases h5 : 0 ≤ an ∧ an < 1073741825
 rotate_left
 ·have HF := h! (HNO.out (fun h => h5 h.2.2.2.2.2.1))
  rw [decide_eq_false h5]
  clear HNO HYES
  go_wp2_with fail
  go_ret
  exact bool_ret HF.out HB.out
 rw [decide_eq_true h5]
 by_cases h6 : awh = 0
 rotate_left
 ·have HF := h! (HNO.out (fun h => h6 h.2.2.2.2.2.2))
  have e6 : (awh == 0) = false := by simpa using h6
  clear HNO HYES
  go_wp2_with fail
  go_ret
  exact bool_ret HF.out HB.out
 have e6 : (awh == 0) = true := by simpa using h6
 have HF := h! (HYES.out ⟨h0, h1, h2, h3, h4, h5, h6⟩)
 clear HNO HYES
 go_wp2_with fail
 go_ret
 exact bool_ret HF.out HB.out
end Go.Proofs.YteebeiaokfenmaaGreat.CP

namespace Go.Proofs.YteebeiaokfenmaaGreat.CP
open Go.RowKit
open CM (Mg Cm)
set_option linter.unusedVariables false
set_option linter.unusedSimpArgs false
set_option maxRecDepth 100000
set_option maxHeartbeats 8000000 in
theorem may12_6 (am : Mg) (aid atm : Int) (ams : List Int) (atp awh an : Int) (A : Option Addr) (c : Nat) (P : Option Addr) (q : Nat) (w : World) (r1 : RowIs w A c am.gs) (r3 : RowIs w P q ams) (hf : MgFit am) :
  Calls Tryz.prog 114 #[.agg #[.int .u8 6, .int .i64 am.id, .slice A am.gs.length c, .int .i64 am.tp, .string am.key, .string am.body, .int .i64 aid, .int .i64 atm, .slice P ams.length q, .int .i64 atp, .int .i64 awh, .int .i64 an]] w (BoolIs (decide (CM.may ⟨6, am, aid, atm, ams, atp, awh, an⟩)) w) := by
 have HNO : Hid (¬ ((am = CM.mz) ∧ (CM.idOk aid) ∧ (atm = 0) ∧ (ams = []) ∧ (0 ≤ atp ∧ atp < 4) ∧ (0 ≤ an ∧ an < 1073741825) ∧ (awh = 0)) → false = decide (CM.may ⟨6, am, aid, atm, ams, atp, awh, an⟩)) := h! (fun h => by rw [decide_eq_false (fun e => h (may_iff6.1 e))])
 have HYES : Hid (((am = CM.mz) ∧ (CM.idOk aid) ∧ (atm = 0) ∧ (ams = []) ∧ (0 ≤ atp ∧ atp < 4) ∧ (0 ≤ an ∧ an < 1073741825) ∧ (awh = 0)) → true = decide (CM.may ⟨6, am, aid, atm, ams, atp, awh, an⟩)) := h! (fun h => by rw [decide_eq_true (may_iff6.2 h)])
 generalize decide (CM.may ⟨6, am, aid, atm, ams, atp, awh, an⟩) = r at HNO HYES ⊢
 have hb0 : Below w.heap.size w (w.alloc (.cells #[.int .u8 6, .int .i64 am.id, .slice A am.gs.length c, .int .i64 am.tp, .string am.key, .string am.body, .int .i64 aid, .int .i64 atm, .slice P ams.length q, .int .i64 atp, .int .i64 awh, .int .i64 an] 91)) := b!
 have S := h! (sameMessage_any am CM.mz (.agg (mcells A c am)) _ _ ⟨A, c, rfl, r1.below hb0⟩ (mz_is _))
 unfold mcells at S
 have HX := h! (Box.new w 91 #[.int .u8 6, .int .i64 am.id, .slice A am.gs.length c, .int .i64 am.tp, .string am.key, .string am.body, .int .i64 aid, .int .i64 atm, .slice P ams.length q, .int .i64 atp, .int .i64 awh, .int .i64 an])
 have HB := h! hb0
 have HL : Hid (ams = [] ↔ ams.length = 0) := h! List.length_eq_zero_iff.symm
 have HM := h! (Nat.le_trans r3.2.1 r3.2.2)
 clear hb0 r1 r3 hf
 go_enter Tryz.func114, Tryz.ntmps114
 go_upto_region 1 with (fail)
 generalize w.alloc (.cells #[.int .u8 6, .int .i64 am.id, .slice A am.gs.length c, .int .i64 am.tp, .string am.key, .string am.body, .int .i64 aid, .int .i64 atm, .slice P ams.length q, .int .i64 atp, .int .i64 awh, .int .i64 an] 91) = w1 at HX HB S ⊢
 have G1 := h! HX.out.lt
 generalize hg0 : w.heap.size = g0 at HX G1 ⊢
 clear hg0
 obtain ⟨x0, x1, x2, x3, x4, x5, x6, x7, x8, x9, x10, x11⟩ := box_cm HX.out
 go_wp2_with fail
 refine (S.out).mono ?_
 rintro e w2 ⟨rfl, hb2⟩
 clear S
 replace HB := h! (HB.out.trans (hb2.mono HB.out.size))
 replace HX := h! (HX.out.below hb2 G1.out)
 replace G1 := h! (Nat.lt_of_lt_of_le G1.out hb2.size)
 clear hb2
 clear x0 x1 x2 x3 x4 x5 x6 x7 x8 x9 x10 x11
 obtain ⟨x0, x1, x2, x3, x4, x5, x6, x7, x8, x9, x10, x11⟩ := box_cm HX.out
 by_cases h0 : am = CM.mz
 rotate_left
 ·have HF := h! (HNO.out (fun h => h0 h.1))
  rw [decide_eq_false h0]
  clear HNO HYES
  go_wp2_with fail
  go_ret
  exact bool_ret HF.out HB.out
 rw [decide_eq_true h0]
 have CI := h! (Id_any aid)
 go_wp2_with fail
 refine (CI.out _).mono ?_
 rintro e wx ⟨rfl, rfl⟩
 clear CI
 by_cases h1 : CM.idOk aid
 rotate_left
 ·have HF := h! (HNO.out (fun h => h1 h.2.1))
  rw [decide_eq_false h1]
  clear HNO HYES
  go_wp2_with fail
  go_ret
  exact bool_ret HF.out HB.out
 rw [decide_eq_true h1]
 by_cases h2 : atm = 0
 rotate_left
 ·have HF := h! (HNO.out (fun h => h2 h.2.2.1))
  have e2 : (atm == 0) = false := by simpa using h2
  clear HNO HYES
  go_wp2_with fail
  go_ret
  exact bool_ret HF.out HB.out
 have e2 : (atm == 0) = true := by simpa using h2
 by_cases h3 : ams = []
 rotate_left
 ·have HF := h! (HNO.out (fun h => h3 h.2.2.2.1))
  have e3 : ((ams.length : Int) == 0) = false := by have := fun e => h3 (HL.out.2 e); simpa using this
  clear HNO HYES
  go_wp2_with fail
  go_ret
  exact bool_ret HF.out HB.out
 have e3 : ((ams.length : Int) == 0) = true := by simpa using h3
 have CI := h! (In_any atp 0 4)
 go_wp2_with fail
 refine (CI.out _).mono ?_
 rintro e wx ⟨rfl, rfl⟩
 clear CI
 by_cases h4 : 0 ≤ atp ∧ atp < 4
 rotate_left
 ·have HF := h! (HNO.out (fun h => h4 h.2.2.2.2.1))
  rw [decide_eq_false h4]
  clear HNO HYES
  go_wp2_with fail
  go_ret
  exact bool_ret HF.out HB.out
 rw [decide_eq_true h4]
 have CI := h! (In_any an 0 1073741825)
 go_wp2_with fail
 refine (CI.out _).mono ?_
 rintro e wx ⟨rfl, rfl⟩
 clear CI
 by_cases h5 : 0 ≤ an ∧ an < 1073741825
 rotate_left
 ·have HF := h! (HNO.out (fun h => h5 h.2.2.2.2.2.1))
  rw [decide_eq_false h5]
  clear HNO HYES
  go_wp2_with fail
  go_ret
  exact bool_ret HF.out HB.out
 rw [decide_eq_true h5]
 by_cases h6 : awh = 0
 rotate_left
 ·have HF := h! (HNO.out (fun h => h6 h.2.2.2.2.2.2))
  have e6 : (awh == 0) = false := by simpa using h6
  clear HNO HYES
  go_wp2_with fail
  go_ret
  exact bool_ret HF.out HB.out
 have e6 : (awh == 0) = true := by simpa using h6
 have HF := h! (HYES.out ⟨h0, h1, h2, h3, h4, h5, h6⟩)
 clear HNO HYES
 go_wp2_with fail
 go_ret
 exact bool_ret HF.out HB.out
end Go.Proofs.YteebeiaokfenmaaGreat.CP

namespace Go.Proofs.YteebeiaokfenmaaGreat.CP
open Go.RowKit
open CM (Mg Cm)
set_option linter.unusedVariables false
set_option linter.unusedSimpArgs false
set_option maxRecDepth 100000
set_option maxHeartbeats 8000000 in
theorem may12_k (k : Int) (am : Mg) (aid atm : Int) (ams : List Int) (atp awh an : Int) (A : Option Addr) (c : Nat) (P : Option Addr) (q : Nat) (w : World) (hk : k ≠ 0 ∧ k ≠ 1 ∧ k ≠ 2 ∧ k ≠ 3 ∧ k ≠ 4 ∧ k ≠ 5 ∧ k ≠ 6) (r1 : RowIs w A c am.gs) (r3 : RowIs w P q ams) (hf : MgFit am) :
  Calls Tryz.prog 114 #[.agg #[.int .u8 k, .int .i64 am.id, .slice A am.gs.length c, .int .i64 am.tp, .string am.key, .string am.body, .int .i64 aid, .int .i64 atm, .slice P ams.length q, .int .i64 atp, .int .i64 awh, .int .i64 an]] w (BoolIs (decide (CM.may ⟨k, am, aid, atm, ams, atp, awh, an⟩)) w) := by
 have HA : Hid (false = decide (CM.may ⟨k, am, aid, atm, ams, atp, awh, an⟩)) := h! (by rw [decide_eq_false (may_other hk)])
 generalize decide (CM.may ⟨k, am, aid, atm, ams, atp, awh, an⟩) = r at HA ⊢
 have k0 : (k == 0) = false := by simpa using hk.1
 have k1 : (k == 1) = false := by simpa using hk.2.1
 have k2 : (k == 2) = false := by simpa using hk.2.2.1
 have k3 : (k == 3) = false := by simpa using hk.2.2.2.1
 have k4 : (k == 4) = false := by simpa using hk.2.2.2.2.1
 have k5 : (k == 5) = false := by simpa using hk.2.2.2.2.2.1
 have k6 : (k == 6) = false := by simpa using hk.2.2.2.2.2.2
 clear hk
 have hb0 : Below w.heap.size w (w.alloc (.cells #[.int .u8 k, .int .i64 am.id, .slice A am.gs.length c, .int .i64 am.tp, .string am.key, .string am.body, .int .i64 aid, .int .i64 atm, .slice P ams.length q, .int .i64 atp, .int .i64 awh, .int .i64 an] 91)) := b!
 have S := h! (sameMessage_any am CM.mz (.agg (mcells A c am)) _ _ ⟨A, c, rfl, r1.below hb0⟩ (mz_is _))
 unfold mcells at S
 have HX := h! (Box.new w 91 #[.int .u8 k, .int .i64 am.id, .slice A am.gs.length c, .int .i64 am.tp, .string am.key, .string am.body, .int .i64 aid, .int .i64 atm, .slice P ams.length q, .int .i64 atp, .int .i64 awh, .int .i64 an])
 have HB := h! hb0
 have HL : Hid (ams = [] ↔ ams.length = 0) := h! List.length_eq_zero_iff.symm
 have HM := h! (Nat.le_trans r3.2.1 r3.2.2)
 clear hb0 r1 r3 hf
 go_enter Tryz.func114, Tryz.ntmps114
 go_upto_region 1 with (fail)
 generalize w.alloc (.cells #[.int .u8 k, .int .i64 am.id, .slice A am.gs.length c, .int .i64 am.tp, .string am.key, .string am.body, .int .i64 aid, .int .i64 atm, .slice P ams.length q, .int .i64 atp, .int .i64 awh, .int .i64 an] 91) = w1 at HX HB S ⊢
 have G1 := h! HX.out.lt
 generalize hg0 : w.heap.size = g0 at HX G1 ⊢
 clear hg0
 obtain ⟨x0, x1, x2, x3, x4, x5, x6, x7, x8, x9, x10, x11⟩ := box_cm HX.out
 go_wp2_with fail
 refine (S.out).mono ?_
 rintro e w2 ⟨rfl, hb2⟩
 clear S
 replace HB := h! (HB.out.trans (hb2.mono HB.out.size))
 replace HX := h! (HX.out.below hb2 G1.out)
 replace G1 := h! (Nat.lt_of_lt_of_le G1.out hb2.size)
 clear hb2
 clear x0 x1 x2 x3 x4 x5 x6 x7 x8 x9 x10 x11
 obtain ⟨x0, x1, x2, x3, x4, x5, x6, x7, x8, x9, x10, x11⟩ := box_cm HX.out
 generalize decide (am = CM.mz) = bz
 go_wp2_with fail
 go_ret
 exact bool_ret HA.out HB.out
end Go.Proofs.YteebeiaokfenmaaGreat.CP

namespace Go.Proofs.YteebeiaokfenmaaGreat.CP
open Go.RowKit
open CM (Mg Cm)
set_option linter.unusedVariables false
set_option linter.unusedSimpArgs false
set_option maxRecDepth 100000
section
variable {w0 w w' : World} {g f b B h : Nat} {l l' : List UInt8} {R : Array Value} {x1 x2 x3 x4 x5 : Bool} {A : Option Addr} {c : Nat} {L : List Int}
theorem box_keepN {t : TypeId} {cs : Array Value} (hb : Box w h t cs) (hg : h ≠ g) (hk : KeepN w w' g) : Box w' h t cs := by
 obtain ⟨w1, u, h1, rfl⟩ := hk
 exact (hb.below h1 hb.lt).far (p := ⟨g, 0, none⟩) hg u
theorem below_keepN (hb : Below w0.heap.size w0 w) (hg : w0.heap.size ≤ g) (hk : KeepN w w' g) : Below w0.heap.size w0 w' := by
 obtain ⟨w1, u, h1, rfl⟩ := hk
 exact (hb.trans (h1.mono hb.size)).setCell (p := ⟨g, 0, none⟩) hg u
theorem RowGe.keepN (hr : RowGe w b A c L) (hg : g < b) (hk : KeepN w w' g) : RowGe w' b A c L := by
 obtain ⟨w1, u, h1, rfl⟩ := hk
 exact (hr.below h1).set hg u
theorem RowGe.put12 (hr : RowGe w b A c L) (hg : g < b) (a0 a1 a2 a3 a4 a5 a6 a7 a8 a9 a10 a11 : Value) : RowGe (put12 w g a0 a1 a2 a3 a4 a5 a6 a7 a8 a9 a10 a11) b A c L := by
 unfold CP.put12
 exact ((((((((((((hr.set hg _).set hg _).set hg _).set hg _).set hg _).set hg _).set hg _).set hg _).set hg _).set hg _).set hg _).set hg _)
def F0 (w0 w : World) (g : Nat) (l : List UInt8) (R : Array Value) : Prop :=
 NumAt w g l ∧ Box w (g + 1 + 1) 91 R ∧ Box w (g + 1) 91 #[.int .u8 0, .int .i64 0, .slice none 0 0, .int .i64 0, .string ⟨#[]⟩, .string ⟨#[]⟩, .int .i64 0, .int .i64 0, .slice none 0 0, .int .i64 0, .int .i64 0, .int .i64 0] ∧ g = w0.heap.size ∧ Below w0.heap.size w0 w
theorem F0.num (hF : F0 w0 w g l R) (hn : NumAt w' g l') (hk : KeepN w w' g) : F0 w0 w' g l' R :=
 ⟨hn, box_keepN hF.2.1 (by omega) hk, box_keepN hF.2.2.1 (by omega) hk, hF.2.2.2.1, below_keepN hF.2.2.2.2 (by have := hF.2.2.2.1; omega) hk⟩
theorem numAt_far (hn : NumAt w g l) (i h : Nat) (v : Value) (hg : g < h) : NumAt (w.setCell ⟨h, i, none⟩ v) g l := by
 obtain ⟨A, n, c, b, hs⟩ := hn
 exact ⟨A, n, c, b.far (p := ⟨h, i, none⟩) (by simp; omega) v, hs.below ((Below.refl _ _).setCell (p := ⟨h, i, none⟩) (by simp; omega) _)⟩
theorem F0.put (hF : F0 w0 w g l R) (i : Nat) (v : Value) : F0 w0 (w.setCell ⟨g + 1 + 1, i, none⟩ v) g l (R.setIfInBounds i v) :=
 ⟨numAt_far hF.1 i _ v (by omega), hF.2.1.stored i v, hF.2.2.1.far (p := ⟨g + 1 + 1, i, none⟩) (by simp <;> omega) v, hF.2.2.2.1, hF.2.2.2.2.setCell (p := ⟨g + 1 + 1, i, none⟩) (by have := hF.2.2.2.1; simp; omega) _⟩
theorem f0_new {w : World} {A : Option Addr} {n c : Nat} {l : List UInt8} (h : Rd w A n (bc l)) (h1 : n ≤ c) (h2 : c ≤ maxLen) :
  F0 w (((w.alloc (.cells #[.slice A n c] 120)).alloc (.cells #[.int .u8 0, .int .i64 0, .slice none 0 0, .int .i64 0, .string ⟨#[]⟩, .string ⟨#[]⟩, .int .i64 0, .int .i64 0, .slice none 0 0, .int .i64 0, .int .i64 0, .int .i64 0] 91)).alloc (.cells #[.int .u8 0, .int .i64 0, .slice none 0 0, .int .i64 0, .string ⟨#[]⟩, .string ⟨#[]⟩, .int .i64 0, .int .i64 0, .slice none 0 0, .int .i64 0, .int .i64 0, .int .i64 0] 91)) w.heap.size l #[.int .u8 0, .int .i64 0, .slice none 0 0, .int .i64 0, .string ⟨#[]⟩, .string ⟨#[]⟩, .int .i64 0, .int .i64 0, .slice none 0 0, .int .i64 0, .int .i64 0, .int .i64 0] := by
 have b3 := (((Below.refl w.heap.size w).alloc n! (.cells #[.slice A n c] 120)).alloc (by simp) (.cells #[.int .u8 0, .int .i64 0, .slice none 0 0, .int .i64 0, .string ⟨#[]⟩, .string ⟨#[]⟩, .int .i64 0, .int .i64 0, .slice none 0 0, .int .i64 0, .int .i64 0, .int .i64 0] 91)).alloc (by simp; omega) (.cells #[.int .u8 0, .int .i64 0, .slice none 0 0, .int .i64 0, .string ⟨#[]⟩, .string ⟨#[]⟩, .int .i64 0, .int .i64 0, .slice none 0 0, .int .i64 0, .int .i64 0, .int .i64 0] 91)
 exact ⟨⟨A, n, c, ((Box.new w _ _).alloc _).alloc _, (src_new h h1 h2).below b3⟩, Box.new_at _ (by simp), (Box.new_at _ (by simp)).alloc _, rfl, b3⟩
def Fr (w0 w : World) (g f : Nat) (l : List UInt8) (R : Array Value) (x1 x2 x3 x4 x5 : Bool) (A : Option Addr) (c : Nat) (L : List Int) : Prop :=
 F0 w0 w g l R ∧ Box w f 126 #[.bool x1, .bool x2, .bool x3, .bool x4, .bool x5] ∧ g + 1 + 1 < f ∧ RowGe w (g + 1 + 1 + 1) A c L
theorem fr_at (hF : F0 w0 w g l R) (hb : Below w.heap.size w w') (x1 x2 x3 x4 x5 : Bool) : Fr w0 (w'.alloc (.cells #[.bool x1, .bool x2, .bool x3, .bool x4, .bool x5] 126)) g w'.heap.size l R x1 x2 x3 x4 x5 none 0 [] := by
 have hA : Below w.heap.size w (w'.alloc (.cells #[.bool x1, .bool x2, .bool x3, .bool x4, .bool x5] 126)) := hb.alloc hb.size _
 have l2 := hF.2.1.lt
 refine ⟨⟨?_, hF.2.1.below hA hF.2.1.lt, hF.2.2.1.below hA hF.2.2.1.lt, hF.2.2.2.1, bmore hF.2.2.2.2 hA n!⟩, Box.new _ _ _, Nat.lt_of_lt_of_le l2 hb.size, RowGe.none _ _⟩
 obtain ⟨A, n, c, b, hs⟩ := hF.1
 exact ⟨A, n, c, b.below hA b.lt, hs.below (hA.mono (Nat.le_of_lt b.lt))⟩
theorem Fr.num (hF : Fr w0 w g f l R x1 x2 x3 x4 x5 A c L) (hn : NumAt w' g l') (hk : KeepN w w' g) : Fr w0 w' g f l' R x1 x2 x3 x4 x5 A c L :=
 ⟨hF.1.num hn hk, box_keepN hF.2.1 (by have := hF.2.2.1; omega) hk, hF.2.2.1, hF.2.2.2.keepN (by omega) hk⟩
theorem Fr.lst {A' : Option Addr} {c' : Nat} {L' : List Int} (hF : Fr w0 w g f l R x1 x2 x3 x4 x5 A c L) (hn : NumAt w' g l') (hk : KeepN w w' g) (hr : RowGe w' w.heap.size A' c' L') : Fr w0 w' g f l' R x1 x2 x3 x4 x5 A' c' L' :=
 ⟨hF.1.num hn hk, box_keepN hF.2.1 (by have := hF.2.2.1; omega) hk, hF.2.2.1, hr.mono (by have := hF.2.1.lt; have := hF.2.2.1; omega)⟩
theorem Fr.put (hF : Fr w0 w g f l R x1 x2 x3 x4 x5 A c L) (i : Nat) (v : Value) : Fr w0 (w.setCell ⟨g + 1 + 1, i, none⟩ v) g f l (R.setIfInBounds i v) x1 x2 x3 x4 x5 A c L :=
 ⟨hF.1.put i v, hF.2.1.far (p := ⟨g + 1 + 1, i, none⟩) (by have := hF.2.2.1; simp; omega) v, hF.2.2.1, hF.2.2.2.set (by omega) v⟩
end
def FrontPost (w : World) (l : List UInt8) (e : Ending) (w' : World) : Prop := ∃ v, e = .returned v ∧ CmGe w' w.heap.size v (fr l) ∧ Below w.heap.size w w'
theorem zsl (xs : List Nat) : (CM.zs xs).length = xs.length := by simp [CM.zs]
end Go.Proofs.YteebeiaokfenmaaGreat.CP
