/-
  The document's own May of a command of kind 4 (towncrierref12). Conditions: as RowIs and MgFit say.
  The document's own May of a command of kind 5 (towncrierref12). Conditions: as RowIs and MgFit say.
  The document's own May of a command of kind 6 (towncrierref12). Conditions: as RowIs and MgFit say.
  The document's own May of a command of kind k (towncrierref12). Conditions: as RowIs and MgFit say.
  The document's own May, Check, CheckMessage (towncrierref12) of any command. Conditions: as CmIs and CmFit say.
-/
import Derived.Test.YteebeiaokfenmaaGreatK12
import Derived.Test.YteebeiaokfenmaaGreatK19
import Derived.Test.YteebeiaokfenmaaGreatK29
import Derived.Test.YteebeiaokfenmaaGreatK31
import Derived.Deep.DeepCutAuto
import Derived.Test.YteebeiaokfenmaaGreatK01
namespace Go.Proofs.YteebeiaokfenmaaGreat.CP
open Go.RowKit
open CM (Mg Cm)
set_option linter.unusedVariables false
set_option linter.unusedSimpArgs false
set_option maxRecDepth 100000

set_option maxHeartbeats 8000000 in
theorem may12_4 (am : Mg) (aid atm : Int) (ams : List Int) (atp awh an : Int) (A : Option Addr) (c : Nat) (P : Option Addr) (q : Nat) (w : World) (r1 : RowIs w A c am.gs) (r3 : RowIs w P q ams) (hf : MgFit am) :
    Calls Tryz.prog 114 #[.agg #[.int .u8 4, .int .i64 am.id, .slice A am.gs.length c, .int .i64 am.tp, .string am.key, .string am.body, .int .i64 aid, .int .i64 atm, .slice P ams.length q, .int .i64 atp, .int .i64 awh, .int .i64 an]] w (BoolIs (decide (CM.may ⟨4, am, aid, atm, ams, atp, awh, an⟩)) w) := by
  have HNO : Hid (¬ ((am = CM.mz) ∧ (CM.idOk aid) ∧ (atm = 0) ∧ (ams = []) ∧ (0 ≤ atp ∧ atp < 4) ∧ (0 ≤ an ∧ an < 1073741825) ∧ (0 ≤ awh ∧ awh < 8)) → false = decide (CM.may ⟨4, am, aid, atm, ams, atp, awh, an⟩)) := Lib.hid (fun h => by rw [decide_eq_false (fun e => h (may_iff4.1 e))])
  have HYES : Hid (((am = CM.mz) ∧ (CM.idOk aid) ∧ (atm = 0) ∧ (ams = []) ∧ (0 ≤ atp ∧ atp < 4) ∧ (0 ≤ an ∧ an < 1073741825) ∧ (0 ≤ awh ∧ awh < 8)) → true = decide (CM.may ⟨4, am, aid, atm, ams, atp, awh, an⟩)) := Lib.hid (fun h => by rw [decide_eq_true (may_iff4.2 h)])
  generalize decide (CM.may ⟨4, am, aid, atm, ams, atp, awh, an⟩) = r at HNO HYES ⊢
  have hb0 : Below w.heap.size w (w.alloc (.cells #[.int .u8 4, .int .i64 am.id, .slice A am.gs.length c, .int .i64 am.tp, .string am.key, .string am.body, .int .i64 aid, .int .i64 atm, .slice P ams.length q, .int .i64 atp, .int .i64 awh, .int .i64 an] 91)) := (Below.refl _ _).alloc (Nat.le_refl _) _
  have S := Lib.hid (sameMessage_any am CM.mz (.agg (mcells A c am)) _ _ ⟨A, c, rfl, r1.below hb0⟩ (mz_is _))
  unfold mcells at S
  have HX := Lib.hid (Box.new w 91 #[.int .u8 4, .int .i64 am.id, .slice A am.gs.length c, .int .i64 am.tp, .string am.key, .string am.body, .int .i64 aid, .int .i64 atm, .slice P ams.length q, .int .i64 atp, .int .i64 awh, .int .i64 an])
  have HB := Lib.hid hb0
  have HL : Hid (ams = [] ↔ ams.length = 0) := Lib.hid List.length_eq_zero_iff.symm
  have HM := Lib.hid (Nat.le_trans r3.2.1 r3.2.2)
  clear hb0 r1 r3 hf
  go_enter Tryz.func114, Tryz.ntmps114
  go_upto_region 1 with (fail)
  generalize w.alloc (.cells #[.int .u8 4, .int .i64 am.id, .slice A am.gs.length c, .int .i64 am.tp, .string am.key, .string am.body, .int .i64 aid, .int .i64 atm, .slice P ams.length q, .int .i64 atp, .int .i64 awh, .int .i64 an] 91) = w1 at HX HB S ⊢
  have G1 := Lib.hid HX.out.lt
  generalize hg0 : w.heap.size = g0 at HX G1 ⊢
  clear hg0
  obtain ⟨x0, x1, x2, x3, x4, x5, x6, x7, x8, x9, x10, x11⟩ := box_cm HX.out
  go_wp2_with fail
  refine (S.out).mono ?_
  rintro e w2 ⟨rfl, hb2⟩
  clear S
  replace HB := Lib.hid (HB.out.trans (hb2.mono HB.out.size))
  replace HX := Lib.hid (HX.out.below hb2 G1.out)
  replace G1 := Lib.hid (Nat.lt_of_lt_of_le G1.out hb2.size)
  clear hb2
  clear x0 x1 x2 x3 x4 x5 x6 x7 x8 x9 x10 x11
  obtain ⟨x0, x1, x2, x3, x4, x5, x6, x7, x8, x9, x10, x11⟩ := box_cm HX.out
  by_cases h0 : am = CM.mz
  rotate_left
  · have HF := Lib.hid (HNO.out (fun h => h0 h.1))
    rw [decide_eq_false h0]
    clear HNO HYES
    go_wp2_with fail
    go_ret
    exact bool_ret HF.out HB.out
  rw [decide_eq_true h0]
  have CI := Lib.hid (Id_any aid)
  go_wp2_with fail
  refine (CI.out _).mono ?_
  rintro e wx ⟨rfl, rfl⟩
  clear CI
  by_cases h1 : CM.idOk aid
  rotate_left
  · have HF := Lib.hid (HNO.out (fun h => h1 h.2.1))
    rw [decide_eq_false h1]
    clear HNO HYES
    go_wp2_with fail
    go_ret
    exact bool_ret HF.out HB.out
  rw [decide_eq_true h1]
  by_cases h2 : atm = 0
  rotate_left
  · have HF := Lib.hid (HNO.out (fun h => h2 h.2.2.1))
    have e2 : (atm == 0) = false := by simpa using h2
    clear HNO HYES
    go_wp2_with fail
    go_ret
    exact bool_ret HF.out HB.out
  have e2 : (atm == 0) = true := by simpa using h2
  by_cases h3 : ams = []
  rotate_left
  · have HF := Lib.hid (HNO.out (fun h => h3 h.2.2.2.1))
    have e3 : ((ams.length : Int) == 0) = false := by have := fun e => h3 (HL.out.2 e); simpa using this
    clear HNO HYES
    go_wp2_with fail
    go_ret
    exact bool_ret HF.out HB.out
  have e3 : ((ams.length : Int) == 0) = true := by simpa using h3
  have CI := Lib.hid (In_any atp 0 4)
  go_wp2_with fail
  refine (CI.out _).mono ?_
  rintro e wx ⟨rfl, rfl⟩
  clear CI
  by_cases h4 : 0 ≤ atp ∧ atp < 4
  rotate_left
  · have HF := Lib.hid (HNO.out (fun h => h4 h.2.2.2.2.1))
    rw [decide_eq_false h4]
    clear HNO HYES
    go_wp2_with fail
    go_ret
    exact bool_ret HF.out HB.out
  rw [decide_eq_true h4]
  have CI := Lib.hid (In_any an 0 1073741825)
  go_wp2_with fail
  refine (CI.out _).mono ?_
  rintro e wx ⟨rfl, rfl⟩
  clear CI
  by_cases h5 : 0 ≤ an ∧ an < 1073741825
  rotate_left
  · have HF := Lib.hid (HNO.out (fun h => h5 h.2.2.2.2.2.1))
    rw [decide_eq_false h5]
    clear HNO HYES
    go_wp2_with fail
    go_ret
    exact bool_ret HF.out HB.out
  rw [decide_eq_true h5]
  by_cases hw0 : awh = 0
  · have HF := Lib.hid (HYES.out ⟨h0, h1, h2, h3, h4, h5, by omega⟩)
    have e6 : (awh == 0) = true := by simpa using hw0
    clear HNO HYES
    go_wp2_with fail
    go_ret
    exact bool_ret HF.out HB.out
  have e6 : (awh == 0) = false := by simpa using hw0
  have CI := Lib.hid (In_any awh 0 8)
  go_wp2_with fail
  refine (CI.out _).mono ?_
  rintro e wx ⟨rfl, rfl⟩
  clear CI
  by_cases h6 : 0 ≤ awh ∧ awh < 8
  rotate_left
  · have HF := Lib.hid (HNO.out (fun h => h6 h.2.2.2.2.2.2))
    rw [decide_eq_false h6]
    clear HNO HYES
    go_wp2_with fail
    go_ret
    exact bool_ret HF.out HB.out
  rw [decide_eq_true h6]
  have HF := Lib.hid (HYES.out ⟨h0, h1, h2, h3, h4, h5, h6⟩)
  clear HNO HYES
  go_wp2_with fail
  go_ret
  exact bool_ret HF.out HB.out
end Go.Proofs.YteebeiaokfenmaaGreat.CP

namespace Go.Proofs.YteebeiaokfenmaaGreat.CP
open Go.RowKit
open CM (Mg Cm)
set_option linter.unusedVariables false
set_option linter.unusedSimpArgs false
set_option maxRecDepth 100000

set_option maxHeartbeats 8000000 in
theorem may12_5 (am : Mg) (aid atm : Int) (ams : List Int) (atp awh an : Int) (A : Option Addr) (c : Nat) (P : Option Addr) (q : Nat) (w : World) (r1 : RowIs w A c am.gs) (r3 : RowIs w P q ams) (hf : MgFit am) :
    Calls Tryz.prog 114 #[.agg #[.int .u8 5, .int .i64 am.id, .slice A am.gs.length c, .int .i64 am.tp, .string am.key, .string am.body, .int .i64 aid, .int .i64 atm, .slice P ams.length q, .int .i64 atp, .int .i64 awh, .int .i64 an]] w (BoolIs (decide (CM.may ⟨5, am, aid, atm, ams, atp, awh, an⟩)) w) := by
  have HNO : Hid (¬ ((am = CM.mz) ∧ (CM.idOk aid) ∧ (atm = 0) ∧ (ams = []) ∧ (0 ≤ atp ∧ atp < 4) ∧ (0 ≤ an ∧ an < 1073741825) ∧ (awh = 0)) → false = decide (CM.may ⟨5, am, aid, atm, ams, atp, awh, an⟩)) := Lib.hid (fun h => by rw [decide_eq_false (fun e => h (may_iff5.1 e))])
  have HYES : Hid (((am = CM.mz) ∧ (CM.idOk aid) ∧ (atm = 0) ∧ (ams = []) ∧ (0 ≤ atp ∧ atp < 4) ∧ (0 ≤ an ∧ an < 1073741825) ∧ (awh = 0)) → true = decide (CM.may ⟨5, am, aid, atm, ams, atp, awh, an⟩)) := Lib.hid (fun h => by rw [decide_eq_true (may_iff5.2 h)])
  generalize decide (CM.may ⟨5, am, aid, atm, ams, atp, awh, an⟩) = r at HNO HYES ⊢
  have hb0 : Below w.heap.size w (w.alloc (.cells #[.int .u8 5, .int .i64 am.id, .slice A am.gs.length c, .int .i64 am.tp, .string am.key, .string am.body, .int .i64 aid, .int .i64 atm, .slice P ams.length q, .int .i64 atp, .int .i64 awh, .int .i64 an] 91)) := (Below.refl _ _).alloc (Nat.le_refl _) _
  have S := Lib.hid (sameMessage_any am CM.mz (.agg (mcells A c am)) _ _ ⟨A, c, rfl, r1.below hb0⟩ (mz_is _))
  unfold mcells at S
  have HX := Lib.hid (Box.new w 91 #[.int .u8 5, .int .i64 am.id, .slice A am.gs.length c, .int .i64 am.tp, .string am.key, .string am.body, .int .i64 aid, .int .i64 atm, .slice P ams.length q, .int .i64 atp, .int .i64 awh, .int .i64 an])
  have HB := Lib.hid hb0
  have HL : Hid (ams = [] ↔ ams.length = 0) := Lib.hid List.length_eq_zero_iff.symm
  have HM := Lib.hid (Nat.le_trans r3.2.1 r3.2.2)
  clear hb0 r1 r3 hf
  go_enter Tryz.func114, Tryz.ntmps114
  go_upto_region 1 with (fail)
  generalize w.alloc (.cells #[.int .u8 5, .int .i64 am.id, .slice A am.gs.length c, .int .i64 am.tp, .string am.key, .string am.body, .int .i64 aid, .int .i64 atm, .slice P ams.length q, .int .i64 atp, .int .i64 awh, .int .i64 an] 91) = w1 at HX HB S ⊢
  have G1 := Lib.hid HX.out.lt
  generalize hg0 : w.heap.size = g0 at HX G1 ⊢
  clear hg0
  obtain ⟨x0, x1, x2, x3, x4, x5, x6, x7, x8, x9, x10, x11⟩ := box_cm HX.out
  go_wp2_with fail
  refine (S.out).mono ?_
  rintro e w2 ⟨rfl, hb2⟩
  clear S
  replace HB := Lib.hid (HB.out.trans (hb2.mono HB.out.size))
  replace HX := Lib.hid (HX.out.below hb2 G1.out)
  replace G1 := Lib.hid (Nat.lt_of_lt_of_le G1.out hb2.size)
  clear hb2
  clear x0 x1 x2 x3 x4 x5 x6 x7 x8 x9 x10 x11
  obtain ⟨x0, x1, x2, x3, x4, x5, x6, x7, x8, x9, x10, x11⟩ := box_cm HX.out
  by_cases h0 : am = CM.mz
  rotate_left
  · have HF := Lib.hid (HNO.out (fun h => h0 h.1))
    rw [decide_eq_false h0]
    clear HNO HYES
    go_wp2_with fail
    go_ret
    exact bool_ret HF.out HB.out
  rw [decide_eq_true h0]
  have CI := Lib.hid (Id_any aid)
  go_wp2_with fail
  refine (CI.out _).mono ?_
  rintro e wx ⟨rfl, rfl⟩
  clear CI
  by_cases h1 : CM.idOk aid
  rotate_left
  · have HF := Lib.hid (HNO.out (fun h => h1 h.2.1))
    rw [decide_eq_false h1]
    clear HNO HYES
    go_wp2_with fail
    go_ret
    exact bool_ret HF.out HB.out
  rw [decide_eq_true h1]
  by_cases h2 : atm = 0
  rotate_left
  · have HF := Lib.hid (HNO.out (fun h => h2 h.2.2.1))
    have e2 : (atm == 0) = false := by simpa using h2
    clear HNO HYES
    go_wp2_with fail
    go_ret
    exact bool_ret HF.out HB.out
  have e2 : (atm == 0) = true := by simpa using h2
  by_cases h3 : ams = []
  rotate_left
  · have HF := Lib.hid (HNO.out (fun h => h3 h.2.2.2.1))
    have e3 : ((ams.length : Int) == 0) = false := by have := fun e => h3 (HL.out.2 e); simpa using this
    clear HNO HYES
    go_wp2_with fail
    go_ret
    exact bool_ret HF.out HB.out
  have e3 : ((ams.length : Int) == 0) = true := by simpa using h3
  have CI := Lib.hid (In_any atp 0 4)
  go_wp2_with fail
  refine (CI.out _).mono ?_
  rintro e wx ⟨rfl, rfl⟩
  clear CI
  by_cases h4 : 0 ≤ atp ∧ atp < 4
  rotate_left
  · have HF := Lib.hid (HNO.out (fun h => h4 h.2.2.2.2.1))
    rw [decide_eq_false h4]
    clear HNO HYES
    go_wp2_with fail
    go_ret
    exact bool_ret HF.out HB.out
  rw [decide_eq_true h4]
  have CI := Lib.hid (In_any an 0 1073741825)
  go_wp2_with fail
  refine (CI.out _).mono ?_
  rintro e wx ⟨rfl, rfl⟩
  clear CI
  by_cases h5 : 0 ≤ an ∧ an < 1073741825
  rotate_left
  · have HF := Lib.hid (HNO.out (fun h => h5 h.2.2.2.2.2.1))
    rw [decide_eq_false h5]
    clear HNO HYES
    go_wp2_with fail
    go_ret
    exact bool_ret HF.out HB.out
  rw [decide_eq_true h5]
  by_cases h6 : awh = 0
  rotate_left
  · have HF := Lib.hid (HNO.out (fun h => h6 h.2.2.2.2.2.2))
    have e6 : (awh == 0) = false := by simpa using h6
    clear HNO HYES
    go_wp2_with fail
    go_ret
    exact bool_ret HF.out HB.out
  have e6 : (awh == 0) = true := by simpa using h6
  have HF := Lib.hid (HYES.out ⟨h0, h1, h2, h3, h4, h5, h6⟩)
  clear HNO HYES
  go_wp2_with fail
  go_ret
  exact bool_ret HF.out HB.out
end Go.Proofs.YteebeiaokfenmaaGreat.CP

namespace Go.Proofs.YteebeiaokfenmaaGreat.CP
open Go.RowKit
open CM (Mg Cm)
set_option linter.unusedVariables false
set_option linter.unusedSimpArgs false
set_option maxRecDepth 100000

set_option maxHeartbeats 8000000 in
theorem may12_6 (am : Mg) (aid atm : Int) (ams : List Int) (atp awh an : Int) (A : Option Addr) (c : Nat) (P : Option Addr) (q : Nat) (w : World) (r1 : RowIs w A c am.gs) (r3 : RowIs w P q ams) (hf : MgFit am) :
    Calls Tryz.prog 114 #[.agg #[.int .u8 6, .int .i64 am.id, .slice A am.gs.length c, .int .i64 am.tp, .string am.key, .string am.body, .int .i64 aid, .int .i64 atm, .slice P ams.length q, .int .i64 atp, .int .i64 awh, .int .i64 an]] w (BoolIs (decide (CM.may ⟨6, am, aid, atm, ams, atp, awh, an⟩)) w) := by
  have HNO : Hid (¬ ((am = CM.mz) ∧ (CM.idOk aid) ∧ (atm = 0) ∧ (ams = []) ∧ (0 ≤ atp ∧ atp < 4) ∧ (0 ≤ an ∧ an < 1073741825) ∧ (awh = 0)) → false = decide (CM.may ⟨6, am, aid, atm, ams, atp, awh, an⟩)) := Lib.hid (fun h => by rw [decide_eq_false (fun e => h (may_iff6.1 e))])
  have HYES : Hid (((am = CM.mz) ∧ (CM.idOk aid) ∧ (atm = 0) ∧ (ams = []) ∧ (0 ≤ atp ∧ atp < 4) ∧ (0 ≤ an ∧ an < 1073741825) ∧ (awh = 0)) → true = decide (CM.may ⟨6, am, aid, atm, ams, atp, awh, an⟩)) := Lib.hid (fun h => by rw [decide_eq_true (may_iff6.2 h)])
  generalize decide (CM.may ⟨6, am, aid, atm, ams, atp, awh, an⟩) = r at HNO HYES ⊢
  have hb0 : Below w.heap.size w (w.alloc (.cells #[.int .u8 6, .int .i64 am.id, .slice A am.gs.length c, .int .i64 am.tp, .string am.key, .string am.body, .int .i64 aid, .int .i64 atm, .slice P ams.length q, .int .i64 atp, .int .i64 awh, .int .i64 an] 91)) := (Below.refl _ _).alloc (Nat.le_refl _) _
  have S := Lib.hid (sameMessage_any am CM.mz (.agg (mcells A c am)) _ _ ⟨A, c, rfl, r1.below hb0⟩ (mz_is _))
  unfold mcells at S
  have HX := Lib.hid (Box.new w 91 #[.int .u8 6, .int .i64 am.id, .slice A am.gs.length c, .int .i64 am.tp, .string am.key, .string am.body, .int .i64 aid, .int .i64 atm, .slice P ams.length q, .int .i64 atp, .int .i64 awh, .int .i64 an])
  have HB := Lib.hid hb0
  have HL : Hid (ams = [] ↔ ams.length = 0) := Lib.hid List.length_eq_zero_iff.symm
  have HM := Lib.hid (Nat.le_trans r3.2.1 r3.2.2)
  clear hb0 r1 r3 hf
  go_enter Tryz.func114, Tryz.ntmps114
  go_upto_region 1 with (fail)
  generalize w.alloc (.cells #[.int .u8 6, .int .i64 am.id, .slice A am.gs.length c, .int .i64 am.tp, .string am.key, .string am.body, .int .i64 aid, .int .i64 atm, .slice P ams.length q, .int .i64 atp, .int .i64 awh, .int .i64 an] 91) = w1 at HX HB S ⊢
  have G1 := Lib.hid HX.out.lt
  generalize hg0 : w.heap.size = g0 at HX G1 ⊢
  clear hg0
  obtain ⟨x0, x1, x2, x3, x4, x5, x6, x7, x8, x9, x10, x11⟩ := box_cm HX.out
  go_wp2_with fail
  refine (S.out).mono ?_
  rintro e w2 ⟨rfl, hb2⟩
  clear S
  replace HB := Lib.hid (HB.out.trans (hb2.mono HB.out.size))
  replace HX := Lib.hid (HX.out.below hb2 G1.out)
  replace G1 := Lib.hid (Nat.lt_of_lt_of_le G1.out hb2.size)
  clear hb2
  clear x0 x1 x2 x3 x4 x5 x6 x7 x8 x9 x10 x11
  obtain ⟨x0, x1, x2, x3, x4, x5, x6, x7, x8, x9, x10, x11⟩ := box_cm HX.out
  by_cases h0 : am = CM.mz
  rotate_left
  · have HF := Lib.hid (HNO.out (fun h => h0 h.1))
    rw [decide_eq_false h0]
    clear HNO HYES
    go_wp2_with fail
    go_ret
    exact bool_ret HF.out HB.out
  rw [decide_eq_true h0]
  have CI := Lib.hid (Id_any aid)
  go_wp2_with fail
  refine (CI.out _).mono ?_
  rintro e wx ⟨rfl, rfl⟩
  clear CI
  by_cases h1 : CM.idOk aid
  rotate_left
  · have HF := Lib.hid (HNO.out (fun h => h1 h.2.1))
    rw [decide_eq_false h1]
    clear HNO HYES
    go_wp2_with fail
    go_ret
    exact bool_ret HF.out HB.out
  rw [decide_eq_true h1]
  by_cases h2 : atm = 0
  rotate_left
  · have HF := Lib.hid (HNO.out (fun h => h2 h.2.2.1))
    have e2 : (atm == 0) = false := by simpa using h2
    clear HNO HYES
    go_wp2_with fail
    go_ret
    exact bool_ret HF.out HB.out
  have e2 : (atm == 0) = true := by simpa using h2
  by_cases h3 : ams = []
  rotate_left
  · have HF := Lib.hid (HNO.out (fun h => h3 h.2.2.2.1))
    have e3 : ((ams.length : Int) == 0) = false := by have := fun e => h3 (HL.out.2 e); simpa using this
    clear HNO HYES
    go_wp2_with fail
    go_ret
    exact bool_ret HF.out HB.out
  have e3 : ((ams.length : Int) == 0) = true := by simpa using h3
  have CI := Lib.hid (In_any atp 0 4)
  go_wp2_with fail
  refine (CI.out _).mono ?_
  rintro e wx ⟨rfl, rfl⟩
  clear CI
  by_cases h4 : 0 ≤ atp ∧ atp < 4
  rotate_left
  · have HF := Lib.hid (HNO.out (fun h => h4 h.2.2.2.2.1))
    rw [decide_eq_false h4]
    clear HNO HYES
    go_wp2_with fail
    go_ret
    exact bool_ret HF.out HB.out
  rw [decide_eq_true h4]
  have CI := Lib.hid (In_any an 0 1073741825)
  go_wp2_with fail
  refine (CI.out _).mono ?_
  rintro e wx ⟨rfl, rfl⟩
  clear CI
  by_cases h5 : 0 ≤ an ∧ an < 1073741825
  rotate_left
  · have HF := Lib.hid (HNO.out (fun h => h5 h.2.2.2.2.2.1))
    rw [decide_eq_false h5]
    clear HNO HYES
    go_wp2_with fail
    go_ret
    exact bool_ret HF.out HB.out
  rw [decide_eq_true h5]
  by_cases h6 : awh = 0
  rotate_left
  · have HF := Lib.hid (HNO.out (fun h => h6 h.2.2.2.2.2.2))
    have e6 : (awh == 0) = false := by simpa using h6
    clear HNO HYES
    go_wp2_with fail
    go_ret
    exact bool_ret HF.out HB.out
  have e6 : (awh == 0) = true := by simpa using h6
  have HF := Lib.hid (HYES.out ⟨h0, h1, h2, h3, h4, h5, h6⟩)
  clear HNO HYES
  go_wp2_with fail
  go_ret
  exact bool_ret HF.out HB.out
end Go.Proofs.YteebeiaokfenmaaGreat.CP

namespace Go.Proofs.YteebeiaokfenmaaGreat.CP
open Go.RowKit
open CM (Mg Cm)
set_option linter.unusedVariables false
set_option linter.unusedSimpArgs false
set_option maxRecDepth 100000

set_option maxHeartbeats 8000000 in
theorem may12_k (k : Int) (am : Mg) (aid atm : Int) (ams : List Int) (atp awh an : Int) (A : Option Addr) (c : Nat) (P : Option Addr) (q : Nat) (w : World) (hk : k ≠ 0 ∧ k ≠ 1 ∧ k ≠ 2 ∧ k ≠ 3 ∧ k ≠ 4 ∧ k ≠ 5 ∧ k ≠ 6) (r1 : RowIs w A c am.gs) (r3 : RowIs w P q ams) (hf : MgFit am) :
    Calls Tryz.prog 114 #[.agg #[.int .u8 k, .int .i64 am.id, .slice A am.gs.length c, .int .i64 am.tp, .string am.key, .string am.body, .int .i64 aid, .int .i64 atm, .slice P ams.length q, .int .i64 atp, .int .i64 awh, .int .i64 an]] w (BoolIs (decide (CM.may ⟨k, am, aid, atm, ams, atp, awh, an⟩)) w) := by
  have HA : Hid (false = decide (CM.may ⟨k, am, aid, atm, ams, atp, awh, an⟩)) := Lib.hid (by rw [decide_eq_false (may_other hk)])
  generalize decide (CM.may ⟨k, am, aid, atm, ams, atp, awh, an⟩) = r at HA ⊢
  have k0 : (k == 0) = false := by simpa using hk.1
  have k1 : (k == 1) = false := by simpa using hk.2.1
  have k2 : (k == 2) = false := by simpa using hk.2.2.1
  have k3 : (k == 3) = false := by simpa using hk.2.2.2.1
  have k4 : (k == 4) = false := by simpa using hk.2.2.2.2.1
  have k5 : (k == 5) = false := by simpa using hk.2.2.2.2.2.1
  have k6 : (k == 6) = false := by simpa using hk.2.2.2.2.2.2
  clear hk
  have hb0 : Below w.heap.size w (w.alloc (.cells #[.int .u8 k, .int .i64 am.id, .slice A am.gs.length c, .int .i64 am.tp, .string am.key, .string am.body, .int .i64 aid, .int .i64 atm, .slice P ams.length q, .int .i64 atp, .int .i64 awh, .int .i64 an] 91)) := (Below.refl _ _).alloc (Nat.le_refl _) _
  have S := Lib.hid (sameMessage_any am CM.mz (.agg (mcells A c am)) _ _ ⟨A, c, rfl, r1.below hb0⟩ (mz_is _))
  unfold mcells at S
  have HX := Lib.hid (Box.new w 91 #[.int .u8 k, .int .i64 am.id, .slice A am.gs.length c, .int .i64 am.tp, .string am.key, .string am.body, .int .i64 aid, .int .i64 atm, .slice P ams.length q, .int .i64 atp, .int .i64 awh, .int .i64 an])
  have HB := Lib.hid hb0
  have HL : Hid (ams = [] ↔ ams.length = 0) := Lib.hid List.length_eq_zero_iff.symm
  have HM := Lib.hid (Nat.le_trans r3.2.1 r3.2.2)
  clear hb0 r1 r3 hf
  go_enter Tryz.func114, Tryz.ntmps114
  go_upto_region 1 with (fail)
  generalize w.alloc (.cells #[.int .u8 k, .int .i64 am.id, .slice A am.gs.length c, .int .i64 am.tp, .string am.key, .string am.body, .int .i64 aid, .int .i64 atm, .slice P ams.length q, .int .i64 atp, .int .i64 awh, .int .i64 an] 91) = w1 at HX HB S ⊢
  have G1 := Lib.hid HX.out.lt
  generalize hg0 : w.heap.size = g0 at HX G1 ⊢
  clear hg0
  obtain ⟨x0, x1, x2, x3, x4, x5, x6, x7, x8, x9, x10, x11⟩ := box_cm HX.out
  go_wp2_with fail
  refine (S.out).mono ?_
  rintro e w2 ⟨rfl, hb2⟩
  clear S
  replace HB := Lib.hid (HB.out.trans (hb2.mono HB.out.size))
  replace HX := Lib.hid (HX.out.below hb2 G1.out)
  replace G1 := Lib.hid (Nat.lt_of_lt_of_le G1.out hb2.size)
  clear hb2
  clear x0 x1 x2 x3 x4 x5 x6 x7 x8 x9 x10 x11
  obtain ⟨x0, x1, x2, x3, x4, x5, x6, x7, x8, x9, x10, x11⟩ := box_cm HX.out
  generalize decide (am = CM.mz) = bz
  go_wp2_with fail
  go_ret
  exact bool_ret HA.out HB.out
end Go.Proofs.YteebeiaokfenmaaGreat.CP

namespace Go.Proofs.YteebeiaokfenmaaGreat.CP
open Go.RowKit
open CM (Mg Cm)
set_option linter.unusedVariables false
set_option linter.unusedSimpArgs false
set_option maxRecDepth 100000

theorem may12_any (x : Cm) (v : Value) (w : World) (h : CmIs w v x) (hf : CmFit x) :
    Calls Tryz.prog 114 #[v] w (BoolIs (decide (CM.may x)) w) := by
  obtain ⟨A, c, P, q, rfl, r1, r3⟩ := h
  obtain ⟨k, am, aid, atm, ams, atp, awh, an⟩ := x
  have hm : MgFit am := hf.2.1
  show Calls _ _ #[.agg #[.int .u8 k, .int .i64 am.id, .slice A am.gs.length c, .int .i64 am.tp, .string am.key, .string am.body, .int .i64 aid, .int .i64 atm, .slice P ams.length q, .int .i64 atp, .int .i64 awh, .int .i64 an]] _ _
  by_cases h0 : k = 0
  · subst h0; exact may12_0 am aid atm ams atp awh an A c P q w r1 r3 hm
  by_cases h1 : k = 1
  · subst h1; exact may12_1 am aid atm ams atp awh an A c P q w r1 r3 hm
  by_cases h2 : k = 2
  · subst h2; exact may12_2 am aid atm ams atp awh an A c P q w r1 r3 hm
  by_cases h3 : k = 3
  · subst h3; exact may12_3 am aid atm ams atp awh an A c P q w r1 r3 hm
  by_cases h4 : k = 4
  · subst h4; exact may12_4 am aid atm ams atp awh an A c P q w r1 r3 hm
  by_cases h5 : k = 5
  · subst h5; exact may12_5 am aid atm ams atp awh an A c P q w r1 r3 hm
  by_cases h6 : k = 6
  · subst h6; exact may12_6 am aid atm ams atp awh an A c P q w r1 r3 hm
  exact may12_k k am aid atm ams atp awh an A c P q w ⟨h0, h1, h2, h3, h4, h5, h6⟩ r1 r3 hm
end Go.Proofs.YteebeiaokfenmaaGreat.CP
