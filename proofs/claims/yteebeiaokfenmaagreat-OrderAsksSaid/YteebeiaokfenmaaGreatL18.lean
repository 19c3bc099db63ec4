/- Contracts of functions, L18: each as its theorem says. -/
import Derived.Test.YteebeiaokfenmaaGreatL13
import Derived.Test.YteebeiaokfenmaaGreatL14
set_option linter.unusedVariables false
set_option linter.unusedSimpArgs false
set_option maxRecDepth 100000
set_option maxHeartbeats 16000000
namespace Go.Proofs.YteebeiaokfenmaaGreat
namespace CP
open Go.RowKit
open CM (Mg Cm)
theorem may12_0 (am : Mg) (aid atm : Int) (ams : List Int) (atp awh an : Int) (A : Option Addr) (c : Nat) (P : Option Addr) (q : Nat) (w : World) (r1 : RowIs w A c am.gs) (r3 : RowIs w P q ams) (hf : MgFit am) :
  Calls Tryz.prog 114 #[.agg #[.int .u8 0, .int .i64 am.id, .slice A am.gs.length c, .int .i64 am.tp, .string am.key, .string am.body, .int .i64 aid, .int .i64 atm, .slice P ams.length q, .int .i64 atp, .int .i64 awh, .int .i64 an]] w (BoolIs (decide (CM.may ⟨0, am, aid, atm, ams, atp, awh, an⟩)) w) := by
 have HA : Hid (decide (⟨0, am, aid, atm, ams, atp, awh, an⟩ = CM.zero) = decide (CM.may ⟨0, am, aid, atm, ams, atp, awh, an⟩)) := h! (decide_eq_decide.2 may_iff0.symm)
 have hz : ∀ W, CmIs W (.agg #[.int .u8 0, .int .i64 0, .slice none 0 0, .int .i64 0, .string .empty, .string .empty, .int .i64 0, .int .i64 0, .slice none 0 0, .int .i64 0, .int .i64 0, .int .i64 0]) CM.zero := zero_is
 have D := h! (fun W2 (h : Below w.heap.size w W2) => same12_any ⟨0, am, aid, atm, ams, atp, awh, an⟩ CM.zero (.agg #[.int .u8 0, .int .i64 am.id, .slice A am.gs.length c, .int .i64 am.tp, .string am.key, .string am.body, .int .i64 aid, .int .i64 atm, .slice P ams.length q, .int .i64 atp, .int .i64 awh, .int .i64 an]) _ W2 ⟨A, c, P, q, rfl, r1.below h, r3.below h⟩ (hz W2))
 generalize decide (CM.may ⟨0, am, aid, atm, ams, atp, awh, an⟩) = r at HA ⊢
 have hb0 : Below w.heap.size w (w.alloc (.cells #[.int .u8 0, .int .i64 am.id, .slice A am.gs.length c, .int .i64 am.tp, .string am.key, .string am.body, .int .i64 aid, .int .i64 atm, .slice P ams.length q, .int .i64 atp, .int .i64 awh, .int .i64 an] 91)) := b!
 have S := h! (sameMessage_any am CM.mz (.agg (mcells A c am)) _ _ ⟨A, c, rfl, r1.below hb0⟩ (mz_is _))
 unfold mcells at S
 have HX := h! (Box.new w 91 #[.int .u8 0, .int .i64 am.id, .slice A am.gs.length c, .int .i64 am.tp, .string am.key, .string am.body, .int .i64 aid, .int .i64 atm, .slice P ams.length q, .int .i64 atp, .int .i64 awh, .int .i64 an])
 have HB := h! hb0
 have HL : Hid (ams = [] ↔ ams.length = 0) := h! List.length_eq_zero_iff.symm
 have HM := h! (Nat.le_trans r3.2.1 r3.2.2)
 clear hb0 r1 r3 hf
 go_enter Tryz.func114, Tryz.ntmps114
 go_upto_region 1 with (fail)
 generalize w.alloc (.cells #[.int .u8 0, .int .i64 am.id, .slice A am.gs.length c, .int .i64 am.tp, .string am.key, .string am.body, .int .i64 aid, .int .i64 atm, .slice P ams.length q, .int .i64 atp, .int .i64 awh, .int .i64 an] 91) = w1 at HX HB S ⊢
 have G1 := h! HX.out.lt
 generalize hg0 : w.heap.size = g0 at HX G1 ⊢
 clear hg0
 obtain ⟨x0, x1, x2, x3, x4, x5, x6, x7, x8, x9, x10, x11⟩ := box_cm HX.out
 go_wp2_with fail
 refine (S.out).mono ?_
 rintro e w2 ⟨rfl, hb2⟩
 clear S
 replace HB := h! (HB.out.trans (hb2.mono HB.out.size))
 replace HX := h! (HX.out.below hb2 G1.out)
 replace G1 := h! (Nat.lt_of_lt_of_le G1.out hb2.size)
 clear hb2
 clear x0 x1 x2 x3 x4 x5 x6 x7 x8 x9 x10 x11
 obtain ⟨x0, x1, x2, x3, x4, x5, x6, x7, x8, x9, x10, x11⟩ := box_cm HX.out
 have D2 := h! (D.out _ HB.out)
 clear D
 generalize decide (am = CM.mz) = bz
 go_wp2_with fail
 refine (D2.out).mono ?_
 rintro e w3 ⟨rfl, hb2⟩
 replace HB := h! (HB.out.trans (hb2.mono HB.out.size))
 replace HX := h! (HX.out.below hb2 G1.out)
 replace G1 := h! (Nat.lt_of_lt_of_le G1.out hb2.size)
 clear hb2
 clear x0 x1 x2 x3 x4 x5 x6 x7 x8 x9 x10 x11
 obtain ⟨x0, x1, x2, x3, x4, x5, x6, x7, x8, x9, x10, x11⟩ := box_cm HX.out
 go_wp2_with fail
 go_ret
 exact bool_ret HA.out HB.out
theorem may12_1 (am : Mg) (aid atm : Int) (ams : List Int) (atp awh an : Int) (A : Option Addr) (c : Nat) (P : Option Addr) (q : Nat) (w : World) (r1 : RowIs w A c am.gs) (r3 : RowIs w P q ams) (hf : MgFit am) :
  Calls Tryz.prog 114 #[.agg #[.int .u8 1, .int .i64 am.id, .slice A am.gs.length c, .int .i64 am.tp, .string am.key, .string am.body, .int .i64 aid, .int .i64 atm, .slice P ams.length q, .int .i64 atp, .int .i64 awh, .int .i64 an]] w (BoolIs (decide (CM.may ⟨1, am, aid, atm, ams, atp, awh, an⟩)) w) := by
 have HNO : Hid (¬ ((CM.mgOk am) ∧ (aid = 0) ∧ (atm = 0) ∧ (ams = []) ∧ (atp = 0) ∧ (awh = 0) ∧ (an = 0)) → false = decide (CM.may ⟨1, am, aid, atm, ams, atp, awh, an⟩)) := h! (fun h => by rw [decide_eq_false (fun e => h (may_iff1.1 e))])
 have HYES : Hid (((CM.mgOk am) ∧ (aid = 0) ∧ (atm = 0) ∧ (ams = []) ∧ (atp = 0) ∧ (awh = 0) ∧ (an = 0)) → true = decide (CM.may ⟨1, am, aid, atm, ams, atp, awh, an⟩)) := h! (fun h => by rw [decide_eq_true (may_iff1.2 h)])
 generalize decide (CM.may ⟨1, am, aid, atm, ams, atp, awh, an⟩) = r at HNO HYES ⊢
 have D := h! (fun W2 (h : Below w.heap.size w W2) => mayMessage_any am (.agg (mcells A c am)) W2 ⟨A, c, rfl, r1.below h⟩ hf)
 unfold mcells at D
 have hb0 : Below w.heap.size w (w.alloc (.cells #[.int .u8 1, .int .i64 am.id, .slice A am.gs.length c, .int .i64 am.tp, .string am.key, .string am.body, .int .i64 aid, .int .i64 atm, .slice P ams.length q, .int .i64 atp, .int .i64 awh, .int .i64 an] 91)) := b!
 have S := h! (sameMessage_any am CM.mz (.agg (mcells A c am)) _ _ ⟨A, c, rfl, r1.below hb0⟩ (mz_is _))
 unfold mcells at S
 have HX := h! (Box.new w 91 #[.int .u8 1, .int .i64 am.id, .slice A am.gs.length c, .int .i64 am.tp, .string am.key, .string am.body, .int .i64 aid, .int .i64 atm, .slice P ams.length q, .int .i64 atp, .int .i64 awh, .int .i64 an])
 have HB := h! hb0
 have HL : Hid (ams = [] ↔ ams.length = 0) := h! List.length_eq_zero_iff.symm
 have HM := h! (Nat.le_trans r3.2.1 r3.2.2)
 clear hb0 r1 r3 hf
 go_enter Tryz.func114, Tryz.ntmps114
 go_upto_region 1 with (fail)
 generalize w.alloc (.cells #[.int .u8 1, .int .i64 am.id, .slice A am.gs.length c, .int .i64 am.tp, .string am.key, .string am.body, .int .i64 aid, .int .i64 atm, .slice P ams.length q, .int .i64 atp, .int .i64 awh, .int .i64 an] 91) = w1 at HX HB S ⊢
 have G1 := h! HX.out.lt
 generalize hg0 : w.heap.size = g0 at HX G1 ⊢
 clear hg0
 obtain ⟨x0, x1, x2, x3, x4, x5, x6, x7, x8, x9, x10, x11⟩ := box_cm HX.out
 go_wp2_with fail
 refine (S.out).mono ?_
 rintro e w2 ⟨rfl, hb2⟩
 clear S
 replace HB := h! (HB.out.trans (hb2.mono HB.out.size))
 replace HX := h! (HX.out.below hb2 G1.out)
 replace G1 := h! (Nat.lt_of_lt_of_le G1.out hb2.size)
 clear hb2
 clear x0 x1 x2 x3 x4 x5 x6 x7 x8 x9 x10 x11
 obtain ⟨x0, x1, x2, x3, x4, x5, x6, x7, x8, x9, x10, x11⟩ := box_cm HX.out
 generalize decide (am = CM.mz) = bz
 have D2 := h! (D.out _ HB.out)
 clear D
 go_wp2_with fail
 refine (D2.out).mono ?_
 rintro e w3 ⟨rfl, hb2⟩
 replace HB := h! (HB.out.trans (hb2.mono HB.out.size))
 replace HX := h! (HX.out.below hb2 G1.out)
 replace G1 := h! (Nat.lt_of_lt_of_le G1.out hb2.size)
 clear hb2
 clear x0 x1 x2 x3 x4 x5 x6 x7 x8 x9 x10 x11
 obtain ⟨x0, x1, x2, x3, x4, x5, x6, x7, x8, x9, x10, x11⟩ := box_cm HX.out
 by_cases h0 : CM.mgOk am
 rotate_left
 ·have HF := h! (HNO.out (fun h => h0 h.1))
  rw [decide_eq_false h0]
  clear HNO HYES
  go_wp2_with fail
  go_ret
  exact bool_ret HF.out HB.out
 rw [decide_eq_true h0]
 by_cases h1 : aid = 0
 rotate_left
 ·have HF := h! (HNO.out (fun h => h1 h.2.1))
  have e1 : (aid == 0) = false := by simpa using h1
  clear HNO HYES
  go_wp2_with fail
  go_ret
  exact bool_ret HF.out HB.out
 have e1 : (aid == 0) = true := by simpa using h1
 by_cases h2 : atm = 0
 rotate_left
 ·have HF := h! (HNO.out (fun h => h2 h.2.2.1))
  have e2 : (atm == 0) = false := by simpa using h2
  clear HNO HYES
  go_wp2_with fail
  go_ret
  exact bool_ret HF.out HB.out
 have e2 : (atm == 0) = true := by simpa using h2
 by_cases h3 : ams = []
 rotate_left
 ·have HF := h! (HNO.out (fun h => h3 h.2.2.2.1))
  have e3 : ((ams.length : Int) == 0) = false := by have := fun e => h3 (HL.out.2 e); simpa using this
  clear HNO HYES
  go_wp2_with fail
  go_ret
  exact bool_ret HF.out HB.out
 have e3 : ((ams.length : Int) == 0) = true := by simpa using h3
 by_cases h4 : atp = 0
 rotate_left
 ·have HF := h! (HNO.out (fun h => h4 h.2.2.2.2.1))
  have e4 : (atp == 0) = false := by simpa using h4
  clear HNO HYES
  go_wp2_with fail
  go_ret
  exact bool_ret HF.out HB.out
 have e4 : (atp == 0) = true := by simpa using h4
 by_cases h5 : awh = 0
 rotate_left
 ·have HF := h! (HNO.out (fun h => h5 h.2.2.2.2.2.1))
  have e5 : (awh == 0) = false := by simpa using h5
  clear HNO HYES
  go_wp2_with fail
  go_ret
  exact bool_ret HF.out HB.out
 have e5 : (awh == 0) = true := by simpa using h5
 by_cases h6 : an = 0
 rotate_left
 ·have HF := h! (HNO.out (fun h => h6 h.2.2.2.2.2.2))
  have e6 : (an == 0) = false := by simpa using h6
  clear HNO HYES
  go_wp2_with fail
  go_ret
  exact bool_ret HF.out HB.out
 have e6 : (an == 0) = true := by simpa using h6
 have HF := h! (HYES.out ⟨h0, h1, h2, h3, h4, h5, h6⟩)
 clear HNO HYES
 go_wp2_with fail
 go_ret
 exact bool_ret HF.out HB.out
theorem may12_2 (am : Mg) (aid atm : Int) (ams : List Int) (atp awh an : Int) (A : Option Addr) (c : Nat) (P : Option Addr) (q : Nat) (w : World) (r1 : RowIs w A c am.gs) (r3 : RowIs w P q ams) (hf : MgFit am) :
  Calls Tryz.prog 114 #[.agg #[.int .u8 2, .int .i64 am.id, .slice A am.gs.length c, .int .i64 am.tp, .string am.key, .string am.body, .int .i64 aid, .int .i64 atm, .slice P ams.length q, .int .i64 atp, .int .i64 awh, .int .i64 an]] w (BoolIs (decide (CM.may ⟨2, am, aid, atm, ams, atp, awh, an⟩)) w) := by
 have HNO : Hid (¬ ((am = CM.mz) ∧ (CM.idOk aid) ∧ (1 ≤ atm ∧ atm < 1073741825) ∧ (ams = []) ∧ (atp = 0) ∧ (awh = 0) ∧ (an = 0)) → false = decide (CM.may ⟨2, am, aid, atm, ams, atp, awh, an⟩)) := h! (fun h => by rw [decide_eq_false (fun e => h (may_iff2.1 e))])
 have HYES : Hid (((am = CM.mz) ∧ (CM.idOk aid) ∧ (1 ≤ atm ∧ atm < 1073741825) ∧ (ams = []) ∧ (atp = 0) ∧ (awh = 0) ∧ (an = 0)) → true = decide (CM.may ⟨2, am, aid, atm, ams, atp, awh, an⟩)) := h! (fun h => by rw [decide_eq_true (may_iff2.2 h)])
 generalize decide (CM.may ⟨2, am, aid, atm, ams, atp, awh, an⟩) = r at HNO HYES ⊢
 have hb0 : Below w.heap.size w (w.alloc (.cells #[.int .u8 2, .int .i64 am.id, .slice A am.gs.length c, .int .i64 am.tp, .string am.key, .string am.body, .int .i64 aid, .int .i64 atm, .slice P ams.length q, .int .i64 atp, .int .i64 awh, .int .i64 an] 91)) := b!
 have S := h! (sameMessage_any am CM.mz (.agg (mcells A c am)) _ _ ⟨A, c, rfl, r1.below hb0⟩ (mz_is _))
 unfold mcells at S
 have HX := h! (Box.new w 91 #[.int .u8 2, .int .i64 am.id, .slice A am.gs.length c, .int .i64 am.tp, .string am.key, .string am.body, .int .i64 aid, .int .i64 atm, .slice P ams.length q, .int .i64 atp, .int .i64 awh, .int .i64 an])
 have HB := h! hb0
 have HL : Hid (ams = [] ↔ ams.length = 0) := h! List.length_eq_zero_iff.symm
 have HM := h! (Nat.le_trans r3.2.1 r3.2.2)
 clear hb0 r1 r3 hf
 go_enter Tryz.func114, Tryz.ntmps114
 go_upto_region 1 with (fail)
 generalize w.alloc (.cells #[.int .u8 2, .int .i64 am.id, .slice A am.gs.length c, .int .i64 am.tp, .string am.key, .string am.body, .int .i64 aid, .int .i64 atm, .slice P ams.length q, .int .i64 atp, .int .i64 awh, .int .i64 an] 91) = w1 at HX HB S ⊢
 have G1 := h! HX.out.lt
 generalize hg0 : w.heap.size = g0 at HX G1 ⊢
 clear hg0
 obtain ⟨x0, x1, x2, x3, x4, x5, x6, x7, x8, x9, x10, x11⟩ := box_cm HX.out
 go_wp2_with fail
 refine (S.out).mono ?_
 rintro e w2 ⟨rfl, hb2⟩
 clear S
 replace HB := h! (HB.out.trans (hb2.mono HB.out.size))
 replace HX := h! (HX.out.below hb2 G1.out)
 replace G1 := h! (Nat.lt_of_lt_of_le G1.out hb2.size)
 clear hb2
 clear x0 x1 x2 x3 x4 x5 x6 x7 x8 x9 x10 x11
 obtain ⟨x0, x1, x2, x3, x4, x5, x6, x7, x8, x9, x10, x11⟩ := box_cm HX.out
 by_cases h0 : am = CM.mz
 rotate_left
 ·have HF := h! (HNO.out (fun h => h0 h.1))
  rw [decide_eq_false h0]
  clear HNO HYES
  go_wp2_with fail
  go_ret
  exact bool_ret HF.out HB.out
 rw [decide_eq_true h0]
 have CI := h! (Id_any aid)
 go_wp2_with fail
 refine (CI.out _).mono ?_
 rintro e wx ⟨rfl, rfl⟩
 clear CI
 by_cases h1 : CM.idOk aid
 rotate_left
 ·have HF := h! (HNO.out (fun h => h1 h.2.1))
  rw [decide_eq_false h1]
  clear HNO HYES
  go_wp2_with fail
  go_ret
  exact bool_ret HF.out HB.out
 rw [decide_eq_true h1]
 have CI := h! (In_any atm 1 1073741825)
 go_wp2_with fail
 refine (CI.out _).mono ?_
 rintro e wx ⟨rfl, rfl⟩
 clear CI
 by_cases h2 : 1 ≤ atm ∧ atm < 1073741825
 rotate_left
 ·have HF := h! (HNO.out (fun h => h2 h.2.2.1))
  rw [decide_eq_false h2]
  clear HNO HYES
  go_wp2_with fail
  go_ret
  exact bool_ret HF.out HB.out
 rw [decide_eq_true h2]
 by_cases h3 : ams = []
 rotate_left
 ·have HF := h! (HNO.out (fun h => h3 h.2.2.2.1))
  have e3 : ((ams.length : Int) == 0) = false := by have := fun e => h3 (HL.out.2 e); simpa using this
  clear HNO HYES
  go_wp2_with fail
  go_ret
  exact bool_ret HF.out HB.out
 have e3 : ((ams.length : Int) == 0) = true := by simpa using h3
 by_cases h4 : atp = 0
 rotate_left
 ·have HF := h! (HNO.out (fun h => h4 h.2.2.2.2.1))
  have e4 : (atp == 0) = false := by simpa using h4
  clear HNO HYES
  go_wp2_with fail
  go_ret
  exact bool_ret HF.out HB.out
 have e4 : (atp == 0) = true := by simpa using h4
 by_cases h5 : awh = 0
 rotate_left
 ·have HF := h! (HNO.out (fun h => h5 h.2.2.2.2.2.1))
  have e5 : (awh == 0) = false := by simpa using h5
  clear HNO HYES
  go_wp2_with fail
  go_ret
  exact bool_ret HF.out HB.out
 have e5 : (awh == 0) = true := by simpa using h5
 by_cases h6 : an = 0
 rotate_left
 ·have HF := h! (HNO.out (fun h => h6 h.2.2.2.2.2.2))
  have e6 : (an == 0) = false := by simpa using h6
  clear HNO HYES
  go_wp2_with fail
  go_ret
  exact bool_ret HF.out HB.out
 have e6 : (an == 0) = true := by simpa using h6
 have HF := h! (HYES.out ⟨h0, h1, h2, h3, h4, h5, h6⟩)
 clear HNO HYES
 go_wp2_with fail
 go_ret
 exact bool_ret HF.out HB.out
theorem may12_3 (am : Mg) (aid atm : Int) (ams : List Int) (atp awh an : Int) (A : Option Addr) (c : Nat) (P : Option Addr) (q : Nat) (w : World) (r1 : RowIs w A c am.gs) (r3 : RowIs w P q ams) (hf : MgFit am) :
  Calls Tryz.prog 114 #[.agg #[.int .u8 3, .int .i64 am.id, .slice A am.gs.length c, .int .i64 am.tp, .string am.key, .string am.body, .int .i64 aid, .int .i64 atm, .slice P ams.length q, .int .i64 atp, .int .i64 awh, .int .i64 an]] w (BoolIs (decide (CM.may ⟨3, am, aid, atm, ams, atp, awh, an⟩)) w) := by
 have HNO : Hid (¬ ((am = CM.mz) ∧ (aid = 0) ∧ (atm = 0) ∧ (QM.may ams = true) ∧ (atp = 0) ∧ (awh = 0) ∧ (an = 0)) → false = decide (CM.may ⟨3, am, aid, atm, ams, atp, awh, an⟩)) := h! (fun h => by rw [decide_eq_false (fun e => h (may_iff3.1 e))])
 have HYES : Hid (((am = CM.mz) ∧ (aid = 0) ∧ (atm = 0) ∧ (QM.may ams = true) ∧ (atp = 0) ∧ (awh = 0) ∧ (an = 0)) → true = decide (CM.may ⟨3, am, aid, atm, ams, atp, awh, an⟩)) := h! (fun h => by rw [decide_eq_true (may_iff3.2 h)])
 generalize decide (CM.may ⟨3, am, aid, atm, ams, atp, awh, an⟩) = r at HNO HYES ⊢
 obtain ⟨yc, hyc⟩ := QM.chkIs_ex ams
 have D := h! (fun W2 (h : Below w.heap.size w W2) => rqCheck_any P ams.length q ams yc W2 (r3.below h).1 (Nat.le_trans r3.2.1 (Nat.le_trans r3.2.2 (by decide))) hyc)
 have HC := h! hyc
 clear hyc
 have hb0 : Below w.heap.size w (w.alloc (.cells #[.int .u8 3, .int .i64 am.id, .slice A am.gs.length c, .int .i64 am.tp, .string am.key, .string am.body, .int .i64 aid, .int .i64 atm, .slice P ams.length q, .int .i64 atp, .int .i64 awh, .int .i64 an] 91)) := b!
 have S := h! (sameMessage_any am CM.mz (.agg (mcells A c am)) _ _ ⟨A, c, rfl, r1.below hb0⟩ (mz_is _))
 unfold mcells at S
 have HX := h! (Box.new w 91 #[.int .u8 3, .int .i64 am.id, .slice A am.gs.length c, .int .i64 am.tp, .string am.key, .string am.body, .int .i64 aid, .int .i64 atm, .slice P ams.length q, .int .i64 atp, .int .i64 awh, .int .i64 an])
 have HB := h! hb0
 have HL : Hid (ams = [] ↔ ams.length = 0) := h! List.length_eq_zero_iff.symm
 have HM := h! (Nat.le_trans r3.2.1 r3.2.2)
 clear hb0 r1 r3 hf
 go_enter Tryz.func114, Tryz.ntmps114
 go_upto_region 1 with (fail)
 generalize w.alloc (.cells #[.int .u8 3, .int .i64 am.id, .slice A am.gs.length c, .int .i64 am.tp, .string am.key, .string am.body, .int .i64 aid, .int .i64 atm, .slice P ams.length q, .int .i64 atp, .int .i64 awh, .int .i64 an] 91) = w1 at HX HB S ⊢
 have G1 := h! HX.out.lt
 generalize hg0 : w.heap.size = g0 at HX G1 ⊢
 clear hg0
 obtain ⟨x0, x1, x2, x3, x4, x5, x6, x7, x8, x9, x10, x11⟩ := box_cm HX.out
 go_wp2_with fail
 refine (S.out).mono ?_
 rintro e w2 ⟨rfl, hb2⟩
 clear S
 replace HB := h! (HB.out.trans (hb2.mono HB.out.size))
 replace HX := h! (HX.out.below hb2 G1.out)
 replace G1 := h! (Nat.lt_of_lt_of_le G1.out hb2.size)
 clear hb2
 clear x0 x1 x2 x3 x4 x5 x6 x7 x8 x9 x10 x11
 obtain ⟨x0, x1, x2, x3, x4, x5, x6, x7, x8, x9, x10, x11⟩ := box_cm HX.out
 by_cases h0 : am = CM.mz
 rotate_left
 ·have HF := h! (HNO.out (fun h => h0 h.1))
  rw [decide_eq_false h0]
  clear HNO HYES
  go_wp2_with fail
  go_ret
  exact bool_ret HF.out HB.out
 rw [decide_eq_true h0]
 by_cases h1 : aid = 0
 rotate_left
 ·have HF := h! (HNO.out (fun h => h1 h.2.1))
  have e1 : (aid == 0) = false := by simpa using h1
  clear HNO HYES
  go_wp2_with fail
  go_ret
  exact bool_ret HF.out HB.out
 have e1 : (aid == 0) = true := by simpa using h1
 by_cases h2 : atm = 0
 rotate_left
 ·have HF := h! (HNO.out (fun h => h2 h.2.2.1))
  have e2 : (atm == 0) = false := by simpa using h2
  clear HNO HYES
  go_wp2_with fail
  go_ret
  exact bool_ret HF.out HB.out
 have e2 : (atm == 0) = true := by simpa using h2
 have D2 := h! (D.out _ HB.out)
 clear D
 go_wp2_with fail
 refine (D2.out).mono ?_
 rintro e w3 ⟨rfl, qx, rfl⟩
 have hb2 := below_drewN (Below.refl w2.heap.size w2) qx
 replace HB := h! (HB.out.trans (hb2.mono HB.out.size))
 replace HX := h! (HX.out.below hb2 G1.out)
 replace G1 := h! (Nat.lt_of_lt_of_le G1.out hb2.size)
 clear hb2
 clear x0 x1 x2 x3 x4 x5 x6 x7 x8 x9 x10 x11
 obtain ⟨x0, x1, x2, x3, x4, x5, x6, x7, x8, x9, x10, x11⟩ := box_cm HX.out
 by_cases h3 : QM.may ams = true
 rotate_left
 ·have HF := h! (HNO.out (fun h => h3 h.2.2.2.1))
  have e3 : (yc == 0) = false := by
   rcases QM.chkIs_cases HC.out with ⟨_, hy⟩ | ⟨_, rfl | rfl⟩
   ·exact absurd hy h3
   ·rfl
   ·rfl
  clear HNO HYES
  go_wp2_with fail
  go_ret
  exact bool_ret HF.out HB.out
 have e3 : (yc == 0) = true := by
  rcases QM.chkIs_cases HC.out with ⟨rfl, _⟩ | ⟨hy, _⟩
  ·rfl
  ·rw [h3] at hy; cases hy
 by_cases h4 : atp = 0
 rotate_left
 ·have HF := h! (HNO.out (fun h => h4 h.2.2.2.2.1))
  have e4 : (atp == 0) = false := by simpa using h4
  clear HNO HYES
  go_wp2_with fail
  go_ret
  exact bool_ret HF.out HB.out
 have e4 : (atp == 0) = true := by simpa using h4
 by_cases h5 : awh = 0
 rotate_left
 ·have HF := h! (HNO.out (fun h => h5 h.2.2.2.2.2.1))
  have e5 : (awh == 0) = false := by simpa using h5
  clear HNO HYES
  go_wp2_with fail
  go_ret
  exact bool_ret HF.out HB.out
 have e5 : (awh == 0) = true := by simpa using h5
 by_cases h6 : an = 0
 rotate_left
 ·have HF := h! (HNO.out (fun h => h6 h.2.2.2.2.2.2))
  have e6 : (an == 0) = false := by simpa using h6
  clear HNO HYES
  go_wp2_with fail
  go_ret
  exact bool_ret HF.out HB.out
 have e6 : (an == 0) = true := by simpa using h6
 have HF := h! (HYES.out ⟨h0, h1, h2, h3, h4, h5, h6⟩)
 clear HNO HYES
 go_wp2_with fail
 go_ret
 exact bool_ret HF.out HB.out
theorem may12_4 (am : Mg) (aid atm : Int) (ams : List Int) (atp awh an : Int) (A : Option Addr) (c : Nat) (P : Option Addr) (q : Nat) (w : World) (r1 : RowIs w A c am.gs) (r3 : RowIs w P q ams) (hf : MgFit am) :
  Calls Tryz.prog 114 #[.agg #[.int .u8 4, .int .i64 am.id, .slice A am.gs.length c, .int .i64 am.tp, .string am.key, .string am.body, .int .i64 aid, .int .i64 atm, .slice P ams.length q, .int .i64 atp, .int .i64 awh, .int .i64 an]] w (BoolIs (decide (CM.may ⟨4, am, aid, atm, ams, atp, awh, an⟩)) w) := by
 have HNO : Hid (¬ ((am = CM.mz) ∧ (CM.idOk aid) ∧ (atm = 0) ∧ (ams = []) ∧ (0 ≤ atp ∧ atp < 4) ∧ (0 ≤ an ∧ an < 1073741825) ∧ (0 ≤ awh ∧ awh < 8)) → false = decide (CM.may ⟨4, am, aid, atm, ams, atp, awh, an⟩)) := h! (fun h => by rw [decide_eq_false (fun e => h (may_iff4.1 e))])
 have HYES : Hid (((am = CM.mz) ∧ (CM.idOk aid) ∧ (atm = 0) ∧ (ams = []) ∧ (0 ≤ atp ∧ atp < 4) ∧ (0 ≤ an ∧ an < 1073741825) ∧ (0 ≤ awh ∧ awh < 8)) → true = decide (CM.may ⟨4, am, aid, atm, ams, atp, awh, an⟩)) := h! (fun h => by rw [decide_eq_true (may_iff4.2 h)])
 generalize decide (CM.may ⟨4, am, aid, atm, ams, atp, awh, an⟩) = r at HNO HYES ⊢
 have hb0 : Below w.heap.size w (w.alloc (.cells #[.int .u8 4, .int .i64 am.id, .slice A am.gs.length c, .int .i64 am.tp, .string am.key, .string am.body, .int .i64 aid, .int .i64 atm, .slice P ams.length q, .int .i64 atp, .int .i64 awh, .int .i64 an] 91)) := b!
 have S := h! (sameMessage_any am CM.mz (.agg (mcells A c am)) _ _ ⟨A, c, rfl, r1.below hb0⟩ (mz_is _))
 unfold mcells at S
 have HX := h! (Box.new w 91 #[.int .u8 4, .int .i64 am.id, .slice A am.gs.length c, .int .i64 am.tp, .string am.key, .string am.body, .int .i64 aid, .int .i64 atm, .slice P ams.length q, .int .i64 atp, .int .i64 awh, .int .i64 an])
 have HB := h! hb0
 have HL : Hid (ams = [] ↔ ams.length = 0) := h! List.length_eq_zero_iff.symm
 have HM := h! (Nat.le_trans r3.2.1 r3.2.2)
 clear hb0 r1 r3 hf
 go_enter Tryz.func114, Tryz.ntmps114
 go_upto_region 1 with (fail)
 generalize w.alloc (.cells #[.int .u8 4, .int .i64 am.id, .slice A am.gs.length c, .int .i64 am.tp, .string am.key, .string am.body, .int .i64 aid, .int .i64 atm, .slice P ams.length q, .int .i64 atp, .int .i64 awh, .int .i64 an] 91) = w1 at HX HB S ⊢
 have G1 := h! HX.out.lt
 generalize hg0 : w.heap.size = g0 at HX G1 ⊢
 clear hg0
 obtain ⟨x0, x1, x2, x3, x4, x5, x6, x7, x8, x9, x10, x11⟩ := box_cm HX.out
 go_wp2_with fail
 refine (S.out).mono ?_
 rintro e w2 ⟨rfl, hb2⟩
 clear S
 replace HB := h! (HB.out.trans (hb2.mono HB.out.size))
 replace HX := h! (HX.out.below hb2 G1.out)
 replace G1 := h! (Nat.lt_of_lt_of_le G1.out hb2.size)
 clear hb2
 clear x0 x1 x2 x3 x4 x5 x6 x7 x8 x9 x10 x11
 obtain ⟨x0, x1, x2, x3, x4, x5, x6, x7, x8, x9, x10, x11⟩ := box_cm HX.out
 by_cases h0 : am = CM.mz
 rotate_left
 ·have HF := h! (HNO.out (fun h => h0 h.1))
  rw [decide_eq_false h0]
  clear HNO HYES
  go_wp2_with fail
  go_ret
  exact bool_ret HF.out HB.out
 rw [decide_eq_true h0]
 have CI := h! (Id_any aid)
 go_wp2_with fail
 refine (CI.out _).mono ?_
 rintro e wx ⟨rfl, rfl⟩
 clear CI
 by_cases h1 : CM.idOk aid
 rotate_left
 ·have HF := h! (HNO.out (fun h => h1 h.2.1))
  rw [decide_eq_false h1]
  clear HNO HYES
  go_wp2_with fail
  go_ret
  exact bool_ret HF.out HB.out
 rw [decide_eq_true h1]
 by_cases h2 : atm = 0
 rotate_left
 ·have HF := h! (HNO.out (fun h => h2 h.2.2.1))
  have e2 : (atm == 0) = false := by simpa using h2
  clear HNO HYES
  go_wp2_with fail
  go_ret
  exact bool_ret HF.out HB.out
 have e2 : (atm == 0) = true := by simpa using h2
 by_cases h3 : ams = []
 rotate_left
 ·have HF := h! (HNO.out (fun h => h3 h.2.2.2.1))
  have e3 : ((ams.length : Int) == 0) = false := by have := fun e => h3 (HL.out.2 e); simpa using this
  clear HNO HYES
  go_wp2_with fail
  go_ret
  exact bool_ret HF.out HB.out
 have e3 : ((ams.length : Int) == 0) = true := by simpa using h3
 have CI := h! (In_any atp 0 4)
 go_wp2_with fail
 refine (CI.out _).mono ?_
 rintro e wx ⟨rfl, rfl⟩
 clear CI
 by_cases h4 : 0 ≤ atp ∧ atp < 4
 rotate_left
 ·have HF := h! (HNO.out (fun h => h4 h.2.2.2.2.1))
  rw [decide_eq_false h4]
  clear HNO HYES
  go_wp2_with fail
  go_ret
  exact bool_ret HF.out HB.out
 rw [decide_eq_true h4]
 have CI := h! (In_any an 0 1073741825)
 go_wp2_with fail
 refine (CI.out _).mono ?_
 rintro e wx ⟨rfl, rfl⟩
 clear CI
 by_cases h5 : 0 ≤ an ∧ an < 1073741825
 rotate_left
 ·have HF := h! (HNO.out (fun h => h5 h.2.2.2.2.2.1))
  rw [decide_eq_false h5]
  clear HNO HYES
  go_wp2_with fail
  go_ret
  exact bool_ret HF.out HB.out
 rw [decide_eq_true h5]
 by_cases hw0 : awh = 0
 ·have HF := h! (HYES.out ⟨h0, h1, h2, h3, h4, h5, by omega⟩)
  have e6 : (awh == 0) = true := by simpa using hw0
  clear HNO HYES
  go_wp2_with fail
  go_ret
  exact bool_ret HF.out HB.out
 have e6 : (awh == 0) = false := by simpa using hw0
 have CI := h! (In_any awh 0 8)
 go_wp2_with fail
 refine (CI.out _).mono ?_
 rintro e wx ⟨rfl, rfl⟩
 clear CI
 by_cases h6 : 0 ≤ awh ∧ awh < 8
 rotate_left
 ·have HF := h! (HNO.out (fun h => h6 h.2.2.2.2.2.2))
  rw [decide_eq_false h6]
  clear HNO HYES
  go_wp2_with fail
  go_ret
  exact bool_ret HF.out HB.out
 rw [decide_eq_true h6]
 have HF := h! (HYES.out ⟨h0, h1, h2, h3, h4, h5, h6⟩)
 clear HNO HYES
 go_wp2_with fail
 go_ret
 exact bool_ret HF.out HB.out
theorem may12_5 (am : Mg) (aid atm : Int) (ams : List Int) (atp awh an : Int) (A : Option Addr) (c : Nat) (P : Option Addr) (q : Nat) (w : World) (r1 : RowIs w A c am.gs) (r3 : RowIs w P q ams) (hf : MgFit am) :
  Calls Tryz.prog 114 #[.agg #[.int .u8 5, .int .i64 am.id, .slice A am.gs.length c, .int .i64 am.tp, .string am.key, .string am.body, .int .i64 aid, .int .i64 atm, .slice P ams.length q, .int .i64 atp, .int .i64 awh, .int .i64 an]] w (BoolIs (decide (CM.may ⟨5, am, aid, atm, ams, atp, awh, an⟩)) w) := by
 have HNO : Hid (¬ ((am = CM.mz) ∧ (CM.idOk aid) ∧ (atm = 0) ∧ (ams = []) ∧ (0 ≤ atp ∧ atp < 4) ∧ (0 ≤ an ∧ an < 1073741825) ∧ (awh = 0)) → false = decide (CM.may ⟨5, am, aid, atm, ams, atp, awh, an⟩)) := h! (fun h => by rw [decide_eq_false (fun e => h (may_iff5.1 e))])
 have HYES : Hid (((am = CM.mz) ∧ (CM.idOk aid) ∧ (atm = 0) ∧ (ams = []) ∧ (0 ≤ atp ∧ atp < 4) ∧ (0 ≤ an ∧ an < 1073741825) ∧ (awh = 0)) → true = decide (CM.may ⟨5, am, aid, atm, ams, atp, awh, an⟩)) := h! (fun h => by rw [decide_eq_true (may_iff5.2 h)])
 generalize decide (CM.may ⟨5, am, aid, atm, ams, atp, awh, an⟩) = r at HNO HYES ⊢
 have hb0 : Below w.heap.size w (w.alloc (.cells #[.int .u8 5, .int .i64 am.id, .slice A am.gs.length c, .int .i64 am.tp, .string am.key, .string am.body, .int .i64 aid, .int .i64 atm, .slice P ams.length q, .int .i64 atp, .int .i64 awh, .int .i64 an] 91)) := b!
 have S := h! (sameMessage_any am CM.mz (.agg (mcells A c am)) _ _ ⟨A, c, rfl, r1.below hb0⟩ (mz_is _))
 unfold mcells at S
 have HX := h! (Box.new w 91 #[.int .u8 5, .int .i64 am.id, .slice A am.gs.length c, .int .i64 am.tp, .string am.key, .string am.body, .int .i64 aid, .int .i64 atm, .slice P ams.length q, .int .i64 atp, .int .i64 awh, .int .i64 an])
 have HB := h! hb0
 have HL : Hid (ams = [] ↔ ams.length = 0) := h! List.length_eq_zero_iff.symm
 have HM := h! (Nat.le_trans r3.2.1 r3.2.2)
 clear hb0 r1 r3 hf
 go_enter Tryz.func114, Tryz.ntmps114
 go_upto_region 1 with (fail)
 generalize w.alloc (.cells #[.int .u8 5, .int .i64 am.id, .slice A am.gs.length c, .int .i64 am.tp, .string am.key, .string am.body, .int .i64 aid, .int .i64 atm, .slice P ams.length q, .int .i64 atp, .int .i64 awh, .int .i64 an] 91) = w1 at HX HB S ⊢
 have G1 := h! HX.out.lt
 generalize hg0 : w.heap.size = g0 at HX G1 ⊢
 clear hg0
 obtain ⟨x0, x1, x2, x3, x4, x5, x6, x7, x8, x9, x10, x11⟩ := box_cm HX.out
 go_wp2_with fail
 refine (S.out).mono ?_
 rintro e w2 ⟨rfl, hb2⟩
 clear S
 replace HB := h! (HB.out.trans (hb2.mono HB.out.size))
 replace HX := h! (HX.out.below hb2 G1.out)
 replace G1 := h! (Nat.lt_of_lt_of_le G1.out hb2.size)
 clear hb2
 clear x0 x1 x2 x3 x4 x5 x6 x7 x8 x9 x10 x11
 obtain ⟨x0, x1, x2, x3, x4, x5, x6, x7, x8, x9, x10, x11⟩ := box_cm HX.out
 by_cases h0 : am = CM.mz
 rotate_left
 ·have HF := h! (HNO.out (fun h => h0 h.1))
  rw [decide_eq_false h0]
  clear HNO HYES
  go_wp2_with fail
  go_ret
  exact bool_ret HF.out HB.out
 rw [decide_eq_true h0]
 have CI := h! (Id_any aid)
 go_wp2_with fail
 refine (CI.out _).mono ?_
 rintro e wx ⟨rfl, rfl⟩
 clear CI
 by_cases h1 : CM.idOk aid
 rotate_left
 ·have HF := h! (HNO.out (fun h => h1 h.2.1))
  rw [decide_eq_false h1]
  clear HNO HYES
  go_wp2_with fail
  go_ret
  exact bool_ret HF.out HB.out
 rw [decide_eq_true h1]
 by_cases h2 : atm = 0
 rotate_left
 ·have HF := h! (HNO.out (fun h => h2 h.2.2.1))
  have e2 : (atm == 0) = false := by simpa using h2
  clear HNO HYES
  go_wp2_with fail
  go_ret
  exact bool_ret HF.out HB.out
 have e2 : (atm == 0) = true := by simpa using h2
 by_cases h3 : ams = []
 rotate_left
 ·have HF := h! (HNO.out (fun h => h3 h.2.2.2.1))
  have e3 : ((ams.length : Int) == 0) = false := by have := fun e => h3 (HL.out.2 e); simpa using this
  clear HNO HYES
  go_wp2_with fail
  go_ret
  exact bool_ret HF.out HB.out
 have e3 : ((ams.length : Int) == 0) = true := by simpa using h3
 have CI := h! (In_any atp 0 4)
 go_wp2_with fail
 refine (CI.out _).mono ?_
 rintro e wx ⟨rfl, rfl⟩
 clear CI
 by_cases h4 : 0 ≤ atp ∧ atp < 4
 rotate_left
 ·have HF := h! (HNO.out (fun h => h4 h.2.2.2.2.1))
  rw [decide_eq_false h4]
  clear HNO HYES
  go_wp2_with fail
  go_ret
  exact bool_ret HF.out HB.out
 rw [decide_eq_true h4]
 have CI := h! (In_any an 0 1073741825)
 go_wp2_with fail
 refine (CI.out _).mono ?_
 rintro e wx ⟨rfl, rfl⟩
 clear CI
 by_cases h5 : 0 ≤ an ∧ an < 1073741825
 rotate_left
 ·have HF := h! (HNO.out (fun h => h5 h.2.2.2.2.2.1))
  rw [decide_eq_false h5]
  clear HNO HYES
  go_wp2_with fail
  go_ret
  exact bool_ret HF.out HB.out
 rw [decide_eq_true h5]
 by_cases h6 : awh = 0
 rotate_left
 ·have HF := h! (HNO.out (fun h => h6 h.2.2.2.2.2.2))
  have e6 : (awh == 0) = false := by simpa using h6
  clear HNO HYES
  go_wp2_with fail
  go_ret
  exact bool_ret HF.out HB.out
 have e6 : (awh == 0) = true := by simpa using h6
 have HF := h! (HYES.out ⟨h0, h1, h2, h3, h4, h5, h6⟩)
 clear HNO HYES
 go_wp2_with fail
 go_ret
 exact bool_ret HF.out HB.out
end CP
end Go.Proofs.YteebeiaokfenmaaGreat
