/-
  The document's own May of a command of kind 0 (towncrierref12). Conditions: as RowIs and MgFit say.
  The document's own May of a command of kind 1 (towncrierref12). Conditions: as RowIs and MgFit say.
  The document's own May of a command of kind 2 (towncrierref12). Conditions: as RowIs and MgFit say.
  The document's own May of a command of kind 3 (towncrierref12). Conditions: as RowIs and MgFit say.
  The document's own May of a command of kind 4 (towncrierref12). Conditions: as RowIs and MgFit say.
  The document's own May of a command of kind 5 (towncrierref12). Conditions: as RowIs and MgFit say.
  The document's own May of a command of kind 6 (towncrierref12). Conditions: as RowIs and MgFit say.
  The document's own May of a command of kind k (towncrierref12). Conditions: as RowIs and MgFit say.
  The document's own May, Check, CheckMessage (towncrierref12) of any command. Conditions: as CmIs and CmFit say.
  The document's own Apply (towncrierref15): a command done to a clock. Conditions: a clock and a command that read as such.
-/
import Derived.Test.YtnpgjcapekopnaaGreatK09
import Derived.Test.YtnpgjcapekopnaaGreatCmMay
import Derived.Test.YtnpgjcapekopnaaGreatK13
import Derived.Test.YtnpgjcapekopnaaGreatK06
import Derived.Deep.DeepCutAuto
import Derived.Test.YtnpgjcapekopnaaGreatK08
import Derived.Test.YtnpgjcapekopnaaGreatSkI
import Derived.Test.YtnpgjcapekopnaaGreatSkK
namespace Go.Proofs.YtnpgjcapekopnaaGreat.CP
open Go.RowKit
open CM (Mg Cm)
set_option linter.unusedVariables false
set_option linter.unusedSimpArgs false
set_option maxRecDepth 100000

set_option maxHeartbeats 8000000 in
theorem may12_0 (am : Mg) (aid atm : Int) (ams : List Int) (atp awh an : Int) (A : Option Addr) (c : Nat) (P : Option Addr) (q : Nat) (w : World) (r1 : RowIs w A c am.gs) (r3 : RowIs w P q ams) (hf : MgFit am) :
    Calls Tryz.prog 24 #[.agg #[.int .u8 0, .int .i64 am.id, .slice A am.gs.length c, .int .i64 am.tp, .string am.key, .string am.body, .int .i64 aid, .int .i64 atm, .slice P ams.length q, .int .i64 atp, .int .i64 awh, .int .i64 an]] w (BoolIs (decide (CM.may ⟨0, am, aid, atm, ams, atp, awh, an⟩)) w) := by
  have HA : Hid (decide (⟨0, am, aid, atm, ams, atp, awh, an⟩ = CM.zero) = decide (CM.may ⟨0, am, aid, atm, ams, atp, awh, an⟩)) := Lib.hid (decide_eq_decide.2 may_iff0.symm)
  have hz : ∀ W, CmIs W (.agg #[.int .u8 0, .int .i64 0, .slice none 0 0, .int .i64 0, .string .empty, .string .empty, .int .i64 0, .int .i64 0, .slice none 0 0, .int .i64 0, .int .i64 0, .int .i64 0]) CM.zero := zero_is
  have D := Lib.hid (fun W2 (h : Below w.heap.size w W2) => same12_any ⟨0, am, aid, atm, ams, atp, awh, an⟩ CM.zero (.agg #[.int .u8 0, .int .i64 am.id, .slice A am.gs.length c, .int .i64 am.tp, .string am.key, .string am.body, .int .i64 aid, .int .i64 atm, .slice P ams.length q, .int .i64 atp, .int .i64 awh, .int .i64 an]) _ W2 ⟨A, c, P, q, rfl, r1.below h, r3.below h⟩ (hz W2))
  generalize decide (CM.may ⟨0, am, aid, atm, ams, atp, awh, an⟩) = r at HA ⊢
  have hb0 : Below w.heap.size w (w.alloc (.cells #[.int .u8 0, .int .i64 am.id, .slice A am.gs.length c, .int .i64 am.tp, .string am.key, .string am.body, .int .i64 aid, .int .i64 atm, .slice P ams.length q, .int .i64 atp, .int .i64 awh, .int .i64 an] 30)) := (Below.refl _ _).alloc (Nat.le_refl _) _
  have S := Lib.hid (sameMessage_any am CM.mz (.agg (mcells A c am)) _ _ ⟨A, c, rfl, r1.below hb0⟩ (mz_is _))
  unfold mcells at S
  have HX := Lib.hid (Box.new w 30 #[.int .u8 0, .int .i64 am.id, .slice A am.gs.length c, .int .i64 am.tp, .string am.key, .string am.body, .int .i64 aid, .int .i64 atm, .slice P ams.length q, .int .i64 atp, .int .i64 awh, .int .i64 an])
  have HB := Lib.hid hb0
  have HL : Hid (ams = [] ↔ ams.length = 0) := Lib.hid List.length_eq_zero_iff.symm
  have HM := Lib.hid (Nat.le_trans r3.2.1 r3.2.2)
  clear hb0 r1 r3 hf
  go_enter Tryz.func24, Tryz.ntmps24
  go_upto_region 1 with (fail)
  generalize w.alloc (.cells #[.int .u8 0, .int .i64 am.id, .slice A am.gs.length c, .int .i64 am.tp, .string am.key, .string am.body, .int .i64 aid, .int .i64 atm, .slice P ams.length q, .int .i64 atp, .int .i64 awh, .int .i64 an] 30) = w1 at HX HB S ⊢
  have G1 := Lib.hid HX.out.lt
  generalize hg0 : w.heap.size = g0 at HX G1 ⊢
  clear hg0
  obtain ⟨x0, x1, x2, x3, x4, x5, x6, x7, x8, x9, x10, x11⟩ := box_cm HX.out
  go_wp2_with fail
  refine (S.out).mono ?_
  rintro e w2 ⟨rfl, hb2⟩
  clear S
  replace HB := Lib.hid (HB.out.trans (hb2.mono HB.out.size))
  replace HX := Lib.hid (HX.out.below hb2 G1.out)
  replace G1 := Lib.hid (Nat.lt_of_lt_of_le G1.out hb2.size)
  clear hb2
  clear x0 x1 x2 x3 x4 x5 x6 x7 x8 x9 x10 x11
  obtain ⟨x0, x1, x2, x3, x4, x5, x6, x7, x8, x9, x10, x11⟩ := box_cm HX.out
  have D2 := Lib.hid (D.out _ HB.out)
  clear D
  generalize decide (am = CM.mz) = bz
  go_wp2_with fail
  refine (D2.out).mono ?_
  rintro e w3 ⟨rfl, hb2⟩
  replace HB := Lib.hid (HB.out.trans (hb2.mono HB.out.size))
  replace HX := Lib.hid (HX.out.below hb2 G1.out)
  replace G1 := Lib.hid (Nat.lt_of_lt_of_le G1.out hb2.size)
  clear hb2
  clear x0 x1 x2 x3 x4 x5 x6 x7 x8 x9 x10 x11
  obtain ⟨x0, x1, x2, x3, x4, x5, x6, x7, x8, x9, x10, x11⟩ := box_cm HX.out
  go_wp2_with fail
  go_ret
  exact bool_ret HA.out HB.out
end Go.Proofs.YtnpgjcapekopnaaGreat.CP

namespace Go.Proofs.YtnpgjcapekopnaaGreat.CP
open Go.RowKit
open CM (Mg Cm)
set_option linter.unusedVariables false
set_option linter.unusedSimpArgs false
set_option maxRecDepth 100000

set_option maxHeartbeats 8000000 in
theorem may12_1 (am : Mg) (aid atm : Int) (ams : List Int) (atp awh an : Int) (A : Option Addr) (c : Nat) (P : Option Addr) (q : Nat) (w : World) (r1 : RowIs w A c am.gs) (r3 : RowIs w P q ams) (hf : MgFit am) :
    Calls Tryz.prog 24 #[.agg #[.int .u8 1, .int .i64 am.id, .slice A am.gs.length c, .int .i64 am.tp, .string am.key, .string am.body, .int .i64 aid, .int .i64 atm, .slice P ams.length q, .int .i64 atp, .int .i64 awh, .int .i64 an]] w (BoolIs (decide (CM.may ⟨1, am, aid, atm, ams, atp, awh, an⟩)) w) := by
  have HNO : Hid (¬ ((CM.mgOk am) ∧ (aid = 0) ∧ (atm = 0) ∧ (ams = []) ∧ (atp = 0) ∧ (awh = 0) ∧ (an = 0)) → false = decide (CM.may ⟨1, am, aid, atm, ams, atp, awh, an⟩)) := Lib.hid (fun h => by rw [decide_eq_false (fun e => h (may_iff1.1 e))])
  have HYES : Hid (((CM.mgOk am) ∧ (aid = 0) ∧ (atm = 0) ∧ (ams = []) ∧ (atp = 0) ∧ (awh = 0) ∧ (an = 0)) → true = decide (CM.may ⟨1, am, aid, atm, ams, atp, awh, an⟩)) := Lib.hid (fun h => by rw [decide_eq_true (may_iff1.2 h)])
  generalize decide (CM.may ⟨1, am, aid, atm, ams, atp, awh, an⟩) = r at HNO HYES ⊢
  have D := Lib.hid (fun W2 (h : Below w.heap.size w W2) => mayMessage_any am (.agg (mcells A c am)) W2 ⟨A, c, rfl, r1.below h⟩ hf)
  unfold mcells at D
  have hb0 : Below w.heap.size w (w.alloc (.cells #[.int .u8 1, .int .i64 am.id, .slice A am.gs.length c, .int .i64 am.tp, .string am.key, .string am.body, .int .i64 aid, .int .i64 atm, .slice P ams.length q, .int .i64 atp, .int .i64 awh, .int .i64 an] 30)) := (Below.refl _ _).alloc (Nat.le_refl _) _
  have S := Lib.hid (sameMessage_any am CM.mz (.agg (mcells A c am)) _ _ ⟨A, c, rfl, r1.below hb0⟩ (mz_is _))
  unfold mcells at S
  have HX := Lib.hid (Box.new w 30 #[.int .u8 1, .int .i64 am.id, .slice A am.gs.length c, .int .i64 am.tp, .string am.key, .string am.body, .int .i64 aid, .int .i64 atm, .slice P ams.length q, .int .i64 atp, .int .i64 awh, .int .i64 an])
  have HB := Lib.hid hb0
  have HL : Hid (ams = [] ↔ ams.length = 0) := Lib.hid List.length_eq_zero_iff.symm
  have HM := Lib.hid (Nat.le_trans r3.2.1 r3.2.2)
  clear hb0 r1 r3 hf
  go_enter Tryz.func24, Tryz.ntmps24
  go_upto_region 1 with (fail)
  generalize w.alloc (.cells #[.int .u8 1, .int .i64 am.id, .slice A am.gs.length c, .int .i64 am.tp, .string am.key, .string am.body, .int .i64 aid, .int .i64 atm, .slice P ams.length q, .int .i64 atp, .int .i64 awh, .int .i64 an] 30) = w1 at HX HB S ⊢
  have G1 := Lib.hid HX.out.lt
  generalize hg0 : w.heap.size = g0 at HX G1 ⊢
  clear hg0
  obtain ⟨x0, x1, x2, x3, x4, x5, x6, x7, x8, x9, x10, x11⟩ := box_cm HX.out
  go_wp2_with fail
  refine (S.out).mono ?_
  rintro e w2 ⟨rfl, hb2⟩
  clear S
  replace HB := Lib.hid (HB.out.trans (hb2.mono HB.out.size))
  replace HX := Lib.hid (HX.out.below hb2 G1.out)
  replace G1 := Lib.hid (Nat.lt_of_lt_of_le G1.out hb2.size)
  clear hb2
  clear x0 x1 x2 x3 x4 x5 x6 x7 x8 x9 x10 x11
  obtain ⟨x0, x1, x2, x3, x4, x5, x6, x7, x8, x9, x10, x11⟩ := box_cm HX.out
  generalize decide (am = CM.mz) = bz
  have D2 := Lib.hid (D.out _ HB.out)
  clear D
  go_wp2_with fail
  refine (D2.out).mono ?_
  rintro e w3 ⟨rfl, hb2⟩
  replace HB := Lib.hid (HB.out.trans (hb2.mono HB.out.size))
  replace HX := Lib.hid (HX.out.below hb2 G1.out)
  replace G1 := Lib.hid (Nat.lt_of_lt_of_le G1.out hb2.size)
  clear hb2
  clear x0 x1 x2 x3 x4 x5 x6 x7 x8 x9 x10 x11
  obtain ⟨x0, x1, x2, x3, x4, x5, x6, x7, x8, x9, x10, x11⟩ := box_cm HX.out
  by_cases h0 : CM.mgOk am
  rotate_left
  · have HF := Lib.hid (HNO.out (fun h => h0 h.1))
    rw [decide_eq_false h0]
    clear HNO HYES
    go_wp2_with fail
    go_ret
    exact bool_ret HF.out HB.out
  rw [decide_eq_true h0]
  by_cases h1 : aid = 0
  rotate_left
  · have HF := Lib.hid (HNO.out (fun h => h1 h.2.1))
    have e1 : (aid == 0) = false := by simpa using h1
    clear HNO HYES
    go_wp2_with fail
    go_ret
    exact bool_ret HF.out HB.out
  have e1 : (aid == 0) = true := by simpa using h1
  by_cases h2 : atm = 0
  rotate_left
  · have HF := Lib.hid (HNO.out (fun h => h2 h.2.2.1))
    have e2 : (atm == 0) = false := by simpa using h2
    clear HNO HYES
    go_wp2_with fail
    go_ret
    exact bool_ret HF.out HB.out
  have e2 : (atm == 0) = true := by simpa using h2
  by_cases h3 : ams = []
  rotate_left
  · have HF := Lib.hid (HNO.out (fun h => h3 h.2.2.2.1))
    have e3 : ((ams.length : Int) == 0) = false := by have := fun e => h3 (HL.out.2 e); simpa using this
    clear HNO HYES
    go_wp2_with fail
    go_ret
    exact bool_ret HF.out HB.out
  have e3 : ((ams.length : Int) == 0) = true := by simpa using h3
  by_cases h4 : atp = 0
  rotate_left
  · have HF := Lib.hid (HNO.out (fun h => h4 h.2.2.2.2.1))
    have e4 : (atp == 0) = false := by simpa using h4
    clear HNO HYES
    go_wp2_with fail
    go_ret
    exact bool_ret HF.out HB.out
  have e4 : (atp == 0) = true := by simpa using h4
  by_cases h5 : awh = 0
  rotate_left
  · have HF := Lib.hid (HNO.out (fun h => h5 h.2.2.2.2.2.1))
    have e5 : (awh == 0) = false := by simpa using h5
    clear HNO HYES
    go_wp2_with fail
    go_ret
    exact bool_ret HF.out HB.out
  have e5 : (awh == 0) = true := by simpa using h5
  by_cases h6 : an = 0
  rotate_left
  · have HF := Lib.hid (HNO.out (fun h => h6 h.2.2.2.2.2.2))
    have e6 : (an == 0) = false := by simpa using h6
    clear HNO HYES
    go_wp2_with fail
    go_ret
    exact bool_ret HF.out HB.out
  have e6 : (an == 0) = true := by simpa using h6
  have HF := Lib.hid (HYES.out ⟨h0, h1, h2, h3, h4, h5, h6⟩)
  clear HNO HYES
  go_wp2_with fail
  go_ret
  exact bool_ret HF.out HB.out
end Go.Proofs.YtnpgjcapekopnaaGreat.CP

namespace Go.Proofs.YtnpgjcapekopnaaGreat.CP
open Go.RowKit
open CM (Mg Cm)
set_option linter.unusedVariables false
set_option linter.unusedSimpArgs false
set_option maxRecDepth 100000

set_option maxHeartbeats 8000000 in
theorem may12_2 (am : Mg) (aid atm : Int) (ams : List Int) (atp awh an : Int) (A : Option Addr) (c : Nat) (P : Option Addr) (q : Nat) (w : World) (r1 : RowIs w A c am.gs) (r3 : RowIs w P q ams) (hf : MgFit am) :
    Calls Tryz.prog 24 #[.agg #[.int .u8 2, .int .i64 am.id, .slice A am.gs.length c, .int .i64 am.tp, .string am.key, .string am.body, .int .i64 aid, .int .i64 atm, .slice P ams.length q, .int .i64 atp, .int .i64 awh, .int .i64 an]] w (BoolIs (decide (CM.may ⟨2, am, aid, atm, ams, atp, awh, an⟩)) w) := by
  have HNO : Hid (¬ ((am = CM.mz) ∧ (CM.idOk aid) ∧ (1 ≤ atm ∧ atm < 1073741825) ∧ (ams = []) ∧ (atp = 0) ∧ (awh = 0) ∧ (an = 0)) → false = decide (CM.may ⟨2, am, aid, atm, ams, atp, awh, an⟩)) := Lib.hid (fun h => by rw [decide_eq_false (fun e => h (may_iff2.1 e))])
  have HYES : Hid (((am = CM.mz) ∧ (CM.idOk aid) ∧ (1 ≤ atm ∧ atm < 1073741825) ∧ (ams = []) ∧ (atp = 0) ∧ (awh = 0) ∧ (an = 0)) → true = decide (CM.may ⟨2, am, aid, atm, ams, atp, awh, an⟩)) := Lib.hid (fun h => by rw [decide_eq_true (may_iff2.2 h)])
  generalize decide (CM.may ⟨2, am, aid, atm, ams, atp, awh, an⟩) = r at HNO HYES ⊢
  have hb0 : Below w.heap.size w (w.alloc (.cells #[.int .u8 2, .int .i64 am.id, .slice A am.gs.length c, .int .i64 am.tp, .string am.key, .string am.body, .int .i64 aid, .int .i64 atm, .slice P ams.length q, .int .i64 atp, .int .i64 awh, .int .i64 an] 30)) := (Below.refl _ _).alloc (Nat.le_refl _) _
  have S := Lib.hid (sameMessage_any am CM.mz (.agg (mcells A c am)) _ _ ⟨A, c, rfl, r1.below hb0⟩ (mz_is _))
  unfold mcells at S
  have HX := Lib.hid (Box.new w 30 #[.int .u8 2, .int .i64 am.id, .slice A am.gs.length c, .int .i64 am.tp, .string am.key, .string am.body, .int .i64 aid, .int .i64 atm, .slice P ams.length q, .int .i64 atp, .int .i64 awh, .int .i64 an])
  have HB := Lib.hid hb0
  have HL : Hid (ams = [] ↔ ams.length = 0) := Lib.hid List.length_eq_zero_iff.symm
  have HM := Lib.hid (Nat.le_trans r3.2.1 r3.2.2)
  clear hb0 r1 r3 hf
  go_enter Tryz.func24, Tryz.ntmps24
  go_upto_region 1 with (fail)
  generalize w.alloc (.cells #[.int .u8 2, .int .i64 am.id, .slice A am.gs.length c, .int .i64 am.tp, .string am.key, .string am.body, .int .i64 aid, .int .i64 atm, .slice P ams.length q, .int .i64 atp, .int .i64 awh, .int .i64 an] 30) = w1 at HX HB S ⊢
  have G1 := Lib.hid HX.out.lt
  generalize hg0 : w.heap.size = g0 at HX G1 ⊢
  clear hg0
  obtain ⟨x0, x1, x2, x3, x4, x5, x6, x7, x8, x9, x10, x11⟩ := box_cm HX.out
  go_wp2_with fail
  refine (S.out).mono ?_
  rintro e w2 ⟨rfl, hb2⟩
  clear S
  replace HB := Lib.hid (HB.out.trans (hb2.mono HB.out.size))
  replace HX := Lib.hid (HX.out.below hb2 G1.out)
  replace G1 := Lib.hid (Nat.lt_of_lt_of_le G1.out hb2.size)
  clear hb2
  clear x0 x1 x2 x3 x4 x5 x6 x7 x8 x9 x10 x11
  obtain ⟨x0, x1, x2, x3, x4, x5, x6, x7, x8, x9, x10, x11⟩ := box_cm HX.out
  by_cases h0 : am = CM.mz
  rotate_left
  · have HF := Lib.hid (HNO.out (fun h => h0 h.1))
    rw [decide_eq_false h0]
    clear HNO HYES
    go_wp2_with fail
    go_ret
    exact bool_ret HF.out HB.out
  rw [decide_eq_true h0]
  have CI := Lib.hid (Id_any aid)
  go_wp2_with fail
  refine (CI.out _).mono ?_
  rintro e wx ⟨rfl, rfl⟩
  clear CI
  by_cases h1 : CM.idOk aid
  rotate_left
  · have HF := Lib.hid (HNO.out (fun h => h1 h.2.1))
    rw [decide_eq_false h1]
    clear HNO HYES
    go_wp2_with fail
    go_ret
    exact bool_ret HF.out HB.out
  rw [decide_eq_true h1]
  have CI := Lib.hid (In_any atm 1 1073741825)
  go_wp2_with fail
  refine (CI.out _).mono ?_
  rintro e wx ⟨rfl, rfl⟩
  clear CI
  by_cases h2 : 1 ≤ atm ∧ atm < 1073741825
  rotate_left
  · have HF := Lib.hid (HNO.out (fun h => h2 h.2.2.1))
    rw [decide_eq_false h2]
    clear HNO HYES
    go_wp2_with fail
    go_ret
    exact bool_ret HF.out HB.out
  rw [decide_eq_true h2]
  by_cases h3 : ams = []
  rotate_left
  · have HF := Lib.hid (HNO.out (fun h => h3 h.2.2.2.1))
    have e3 : ((ams.length : Int) == 0) = false := by have := fun e => h3 (HL.out.2 e); simpa using this
    clear HNO HYES
    go_wp2_with fail
    go_ret
    exact bool_ret HF.out HB.out
  have e3 : ((ams.length : Int) == 0) = true := by simpa using h3
  by_cases h4 : atp = 0
  rotate_left
  · have HF := Lib.hid (HNO.out (fun h => h4 h.2.2.2.2.1))
    have e4 : (atp == 0) = false := by simpa using h4
    clear HNO HYES
    go_wp2_with fail
    go_ret
    exact bool_ret HF.out HB.out
  have e4 : (atp == 0) = true := by simpa using h4
  by_cases h5 : awh = 0
  rotate_left
  · have HF := Lib.hid (HNO.out (fun h => h5 h.2.2.2.2.2.1))
    have e5 : (awh == 0) = false := by simpa using h5
    clear HNO HYES
    go_wp2_with fail
    go_ret
    exact bool_ret HF.out HB.out
  have e5 : (awh == 0) = true := by simpa using h5
  by_cases h6 : an = 0
  rotate_left
  · have HF := Lib.hid (HNO.out (fun h => h6 h.2.2.2.2.2.2))
    have e6 : (an == 0) = false := by simpa using h6
    clear HNO HYES
    go_wp2_with fail
    go_ret
    exact bool_ret HF.out HB.out
  have e6 : (an == 0) = true := by simpa using h6
  have HF := Lib.hid (HYES.out ⟨h0, h1, h2, h3, h4, h5, h6⟩)
  clear HNO HYES
  go_wp2_with fail
  go_ret
  exact bool_ret HF.out HB.out
end Go.Proofs.YtnpgjcapekopnaaGreat.CP

namespace Go.Proofs.YtnpgjcapekopnaaGreat.CP
open Go.RowKit
open CM (Mg Cm)
set_option linter.unusedVariables false
set_option linter.unusedSimpArgs false
set_option maxRecDepth 100000

set_option maxHeartbeats 8000000 in
theorem may12_3 (am : Mg) (aid atm : Int) (ams : List Int) (atp awh an : Int) (A : Option Addr) (c : Nat) (P : Option Addr) (q : Nat) (w : World) (r1 : RowIs w A c am.gs) (r3 : RowIs w P q ams) (hf : MgFit am) :
    Calls Tryz.prog 24 #[.agg #[.int .u8 3, .int .i64 am.id, .slice A am.gs.length c, .int .i64 am.tp, .string am.key, .string am.body, .int .i64 aid, .int .i64 atm, .slice P ams.length q, .int .i64 atp, .int .i64 awh, .int .i64 an]] w (BoolIs (decide (CM.may ⟨3, am, aid, atm, ams, atp, awh, an⟩)) w) := by
  have HNO : Hid (¬ ((am = CM.mz) ∧ (aid = 0) ∧ (atm = 0) ∧ (QM.may ams = true) ∧ (atp = 0) ∧ (awh = 0) ∧ (an = 0)) → false = decide (CM.may ⟨3, am, aid, atm, ams, atp, awh, an⟩)) := Lib.hid (fun h => by rw [decide_eq_false (fun e => h (may_iff3.1 e))])
  have HYES : Hid (((am = CM.mz) ∧ (aid = 0) ∧ (atm = 0) ∧ (QM.may ams = true) ∧ (atp = 0) ∧ (awh = 0) ∧ (an = 0)) → true = decide (CM.may ⟨3, am, aid, atm, ams, atp, awh, an⟩)) := Lib.hid (fun h => by rw [decide_eq_true (may_iff3.2 h)])
  generalize decide (CM.may ⟨3, am, aid, atm, ams, atp, awh, an⟩) = r at HNO HYES ⊢
  obtain ⟨yc, hyc⟩ := QM.chkIs_ex ams
  have D := Lib.hid (fun W2 (h : Below w.heap.size w W2) => rqCheck_any P ams.length q ams yc W2 (r3.below h).1 (Nat.le_trans r3.2.1 (Nat.le_trans r3.2.2 (by decide))) hyc)
  have HC := Lib.hid hyc
  clear hyc
  have hb0 : Below w.heap.size w (w.alloc (.cells #[.int .u8 3, .int .i64 am.id, .slice A am.gs.length c, .int .i64 am.tp, .string am.key, .string am.body, .int .i64 aid, .int .i64 atm, .slice P ams.length q, .int .i64 atp, .int .i64 awh, .int .i64 an] 30)) := (Below.refl _ _).alloc (Nat.le_refl _) _
  have S := Lib.hid (sameMessage_any am CM.mz (.agg (mcells A c am)) _ _ ⟨A, c, rfl, r1.below hb0⟩ (mz_is _))
  unfold mcells at S
  have HX := Lib.hid (Box.new w 30 #[.int .u8 3, .int .i64 am.id, .slice A am.gs.length c, .int .i64 am.tp, .string am.key, .string am.body, .int .i64 aid, .int .i64 atm, .slice P ams.length q, .int .i64 atp, .int .i64 awh, .int .i64 an])
  have HB := Lib.hid hb0
  have HL : Hid (ams = [] ↔ ams.length = 0) := Lib.hid List.length_eq_zero_iff.symm
  have HM := Lib.hid (Nat.le_trans r3.2.1 r3.2.2)
  clear hb0 r1 r3 hf
  go_enter Tryz.func24, Tryz.ntmps24
  go_upto_region 1 with (fail)
  generalize w.alloc (.cells #[.int .u8 3, .int .i64 am.id, .slice A am.gs.length c, .int .i64 am.tp, .string am.key, .string am.body, .int .i64 aid, .int .i64 atm, .slice P ams.length q, .int .i64 atp, .int .i64 awh, .int .i64 an] 30) = w1 at HX HB S ⊢
  have G1 := Lib.hid HX.out.lt
  generalize hg0 : w.heap.size = g0 at HX G1 ⊢
  clear hg0
  obtain ⟨x0, x1, x2, x3, x4, x5, x6, x7, x8, x9, x10, x11⟩ := box_cm HX.out
  go_wp2_with fail
  refine (S.out).mono ?_
  rintro e w2 ⟨rfl, hb2⟩
  clear S
  replace HB := Lib.hid (HB.out.trans (hb2.mono HB.out.size))
  replace HX := Lib.hid (HX.out.below hb2 G1.out)
  replace G1 := Lib.hid (Nat.lt_of_lt_of_le G1.out hb2.size)
  clear hb2
  clear x0 x1 x2 x3 x4 x5 x6 x7 x8 x9 x10 x11
  obtain ⟨x0, x1, x2, x3, x4, x5, x6, x7, x8, x9, x10, x11⟩ := box_cm HX.out
  by_cases h0 : am = CM.mz
  rotate_left
  · have HF := Lib.hid (HNO.out (fun h => h0 h.1))
    rw [decide_eq_false h0]
    clear HNO HYES
    go_wp2_with fail
    go_ret
    exact bool_ret HF.out HB.out
  rw [decide_eq_true h0]
  by_cases h1 : aid = 0
  rotate_left
  · have HF := Lib.hid (HNO.out (fun h => h1 h.2.1))
    have e1 : (aid == 0) = false := by simpa using h1
    clear HNO HYES
    go_wp2_with fail
    go_ret
    exact bool_ret HF.out HB.out
  have e1 : (aid == 0) = true := by simpa using h1
  by_cases h2 : atm = 0
  rotate_left
  · have HF := Lib.hid (HNO.out (fun h => h2 h.2.2.1))
    have e2 : (atm == 0) = false := by simpa using h2
    clear HNO HYES
    go_wp2_with fail
    go_ret
    exact bool_ret HF.out HB.out
  have e2 : (atm == 0) = true := by simpa using h2
  have D2 := Lib.hid (D.out _ HB.out)
  clear D
  go_wp2_with fail
  refine (D2.out).mono ?_
  rintro e w3 ⟨rfl, qx, rfl⟩
  have hb2 := below_drewN (Below.refl w2.heap.size w2) qx
  replace HB := Lib.hid (HB.out.trans (hb2.mono HB.out.size))
  replace HX := Lib.hid (HX.out.below hb2 G1.out)
  replace G1 := Lib.hid (Nat.lt_of_lt_of_le G1.out hb2.size)
  clear hb2
  clear x0 x1 x2 x3 x4 x5 x6 x7 x8 x9 x10 x11
  obtain ⟨x0, x1, x2, x3, x4, x5, x6, x7, x8, x9, x10, x11⟩ := box_cm HX.out
  by_cases h3 : QM.may ams = true
  rotate_left
  · have HF := Lib.hid (HNO.out (fun h => h3 h.2.2.2.1))
    have e3 : (yc == 0) = false := by
      rcases QM.chkIs_cases HC.out with ⟨_, hy⟩ | ⟨_, rfl | rfl⟩
      · exact absurd hy h3
      · rfl
      · rfl
    clear HNO HYES
    go_wp2_with fail
    go_ret
    exact bool_ret HF.out HB.out
  have e3 : (yc == 0) = true := by
    rcases QM.chkIs_cases HC.out with ⟨rfl, _⟩ | ⟨hy, _⟩
    · rfl
    · rw [h3] at hy; cases hy
  by_cases h4 : atp = 0
  rotate_left
  · have HF := Lib.hid (HNO.out (fun h => h4 h.2.2.2.2.1))
    have e4 : (atp == 0) = false := by simpa using h4
    clear HNO HYES
    go_wp2_with fail
    go_ret
    exact bool_ret HF.out HB.out
  have e4 : (atp == 0) = true := by simpa using h4
  by_cases h5 : awh = 0
  rotate_left
  · have HF := Lib.hid (HNO.out (fun h => h5 h.2.2.2.2.2.1))
    have e5 : (awh == 0) = false := by simpa using h5
    clear HNO HYES
    go_wp2_with fail
    go_ret
    exact bool_ret HF.out HB.out
  have e5 : (awh == 0) = true := by simpa using h5
  by_cases h6 : an = 0
  rotate_left
  · have HF := Lib.hid (HNO.out (fun h => h6 h.2.2.2.2.2.2))
    have e6 : (an == 0) = false := by simpa using h6
    clear HNO HYES
    go_wp2_with fail
    go_ret
    exact bool_ret HF.out HB.out
  have e6 : (an == 0) = true := by simpa using h6
  have HF := Lib.hid (HYES.out ⟨h0, h1, h2, h3, h4, h5, h6⟩)
  clear HNO HYES
  go_wp2_with fail
  go_ret
  exact bool_ret HF.out HB.out
end Go.Proofs.YtnpgjcapekopnaaGreat.CP

namespace Go.Proofs.YtnpgjcapekopnaaGreat.CP
open Go.RowKit
open CM (Mg Cm)
set_option linter.unusedVariables false
set_option linter.unusedSimpArgs false
set_option maxRecDepth 100000

set_option maxHeartbeats 8000000 in
theorem may12_4 (am : Mg) (aid atm : Int) (ams : List Int) (atp awh an : Int) (A : Option Addr) (c : Nat) (P : Option Addr) (q : Nat) (w : World) (r1 : RowIs w A c am.gs) (r3 : RowIs w P q ams) (hf : MgFit am) :
    Calls Tryz.prog 24 #[.agg #[.int .u8 4, .int .i64 am.id, .slice A am.gs.length c, .int .i64 am.tp, .string am.key, .string am.body, .int .i64 aid, .int .i64 atm, .slice P ams.length q, .int .i64 atp, .int .i64 awh, .int .i64 an]] w (BoolIs (decide (CM.may ⟨4, am, aid, atm, ams, atp, awh, an⟩)) w) := by
  have HNO : Hid (¬ ((am = CM.mz) ∧ (CM.idOk aid) ∧ (atm = 0) ∧ (ams = []) ∧ (0 ≤ atp ∧ atp < 4) ∧ (0 ≤ an ∧ an < 1073741825) ∧ (0 ≤ awh ∧ awh < 8)) → false = decide (CM.may ⟨4, am, aid, atm, ams, atp, awh, an⟩)) := Lib.hid (fun h => by rw [decide_eq_false (fun e => h (may_iff4.1 e))])
  have HYES : Hid (((am = CM.mz) ∧ (CM.idOk aid) ∧ (atm = 0) ∧ (ams = []) ∧ (0 ≤ atp ∧ atp < 4) ∧ (0 ≤ an ∧ an < 1073741825) ∧ (0 ≤ awh ∧ awh < 8)) → true = decide (CM.may ⟨4, am, aid, atm, ams, atp, awh, an⟩)) := Lib.hid (fun h => by rw [decide_eq_true (may_iff4.2 h)])
  generalize decide (CM.may ⟨4, am, aid, atm, ams, atp, awh, an⟩) = r at HNO HYES ⊢
  have hb0 : Below w.heap.size w (w.alloc (.cells #[.int .u8 4, .int .i64 am.id, .slice A am.gs.length c, .int .i64 am.tp, .string am.key, .string am.body, .int .i64 aid, .int .i64 atm, .slice P ams.length q, .int .i64 atp, .int .i64 awh, .int .i64 an] 30)) := (Below.refl _ _).alloc (Nat.le_refl _) _
  have S := Lib.hid (sameMessage_any am CM.mz (.agg (mcells A c am)) _ _ ⟨A, c, rfl, r1.below hb0⟩ (mz_is _))
  unfold mcells at S
  have HX := Lib.hid (Box.new w 30 #[.int .u8 4, .int .i64 am.id, .slice A am.gs.length c, .int .i64 am.tp, .string am.key, .string am.body, .int .i64 aid, .int .i64 atm, .slice P ams.length q, .int .i64 atp, .int .i64 awh, .int .i64 an])
  have HB := Lib.hid hb0
  have HL : Hid (ams = [] ↔ ams.length = 0) := Lib.hid List.length_eq_zero_iff.symm
  have HM := Lib.hid (Nat.le_trans r3.2.1 r3.2.2)
  clear hb0 r1 r3 hf
  go_enter Tryz.func24, Tryz.ntmps24
  go_upto_region 1 with (fail)
  generalize w.alloc (.cells #[.int .u8 4, .int .i64 am.id, .slice A am.gs.length c, .int .i64 am.tp, .string am.key, .string am.body, .int .i64 aid, .int .i64 atm, .slice P ams.length q, .int .i64 atp, .int .i64 awh, .int .i64 an] 30) = w1 at HX HB S ⊢
  have G1 := Lib.hid HX.out.lt
  generalize hg0 : w.heap.size = g0 at HX G1 ⊢
  clear hg0
  obtain ⟨x0, x1, x2, x3, x4, x5, x6, x7, x8, x9, x10, x11⟩ := box_cm HX.out
  go_wp2_with fail
  refine (S.out).mono ?_
  rintro e w2 ⟨rfl, hb2⟩
  clear S
  replace HB := Lib.hid (HB.out.trans (hb2.mono HB.out.size))
  replace HX := Lib.hid (HX.out.below hb2 G1.out)
  replace G1 := Lib.hid (Nat.lt_of_lt_of_le G1.out hb2.size)
  clear hb2
  clear x0 x1 x2 x3 x4 x5 x6 x7 x8 x9 x10 x11
  obtain ⟨x0, x1, x2, x3, x4, x5, x6, x7, x8, x9, x10, x11⟩ := box_cm HX.out
  by_cases h0 : am = CM.mz
  rotate_left
  · have HF := Lib.hid (HNO.out (fun h => h0 h.1))
    rw [decide_eq_false h0]
    clear HNO HYES
    go_wp2_with fail
    go_ret
    exact bool_ret HF.out HB.out
  rw [decide_eq_true h0]
  have CI := Lib.hid (Id_any aid)
  go_wp2_with fail
  refine (CI.out _).mono ?_
  rintro e wx ⟨rfl, rfl⟩
  clear CI
  by_cases h1 : CM.idOk aid
  rotate_left
  · have HF := Lib.hid (HNO.out (fun h => h1 h.2.1))
    rw [decide_eq_false h1]
    clear HNO HYES
    go_wp2_with fail
    go_ret
    exact bool_ret HF.out HB.out
  rw [decide_eq_true h1]
  by_cases h2 : atm = 0
  rotate_left
  · have HF := Lib.hid (HNO.out (fun h => h2 h.2.2.1))
    have e2 : (atm == 0) = false := by simpa using h2
    clear HNO HYES
    go_wp2_with fail
    go_ret
    exact bool_ret HF.out HB.out
  have e2 : (atm == 0) = true := by simpa using h2
  by_cases h3 : ams = []
  rotate_left
  · have HF := Lib.hid (HNO.out (fun h => h3 h.2.2.2.1))
    have e3 : ((ams.length : Int) == 0) = false := by have := fun e => h3 (HL.out.2 e); simpa using this
    clear HNO HYES
    go_wp2_with fail
    go_ret
    exact bool_ret HF.out HB.out
  have e3 : ((ams.length : Int) == 0) = true := by simpa using h3
  have CI := Lib.hid (In_any atp 0 4)
  go_wp2_with fail
  refine (CI.out _).mono ?_
  rintro e wx ⟨rfl, rfl⟩
  clear CI
  by_cases h4 : 0 ≤ atp ∧ atp < 4
  rotate_left
  · have HF := Lib.hid (HNO.out (fun h => h4 h.2.2.2.2.1))
    rw [decide_eq_false h4]
    clear HNO HYES
    go_wp2_with fail
    go_ret
    exact bool_ret HF.out HB.out
  rw [decide_eq_true h4]
  have CI := Lib.hid (In_any an 0 1073741825)
  go_wp2_with fail
  refine (CI.out _).mono ?_
  rintro e wx ⟨rfl, rfl⟩
  clear CI
  by_cases h5 : 0 ≤ an ∧ an < 1073741825
  rotate_left
  · have HF := Lib.hid (HNO.out (fun h => h5 h.2.2.2.2.2.1))
    rw [decide_eq_false h5]
    clear HNO HYES
    go_wp2_with fail
    go_ret
    exact bool_ret HF.out HB.out
  rw [decide_eq_true h5]
  by_cases hw0 : awh = 0
  · have HF := Lib.hid (HYES.out ⟨h0, h1, h2, h3, h4, h5, by omega⟩)
    have e6 : (awh == 0) = true := by simpa using hw0
    clear HNO HYES
    go_wp2_with fail
    go_ret
    exact bool_ret HF.out HB.out
  have e6 : (awh == 0) = false := by simpa using hw0
  have CI := Lib.hid (In_any awh 0 8)
  go_wp2_with fail
  refine (CI.out _).mono ?_
  rintro e wx ⟨rfl, rfl⟩
  clear CI
  by_cases h6 : 0 ≤ awh ∧ awh < 8
  rotate_left
  · have HF := Lib.hid (HNO.out (fun h => h6 h.2.2.2.2.2.2))
    rw [decide_eq_false h6]
    clear HNO HYES
    go_wp2_with fail
    go_ret
    exact bool_ret HF.out HB.out
  rw [decide_eq_true h6]
  have HF := Lib.hid (HYES.out ⟨h0, h1, h2, h3, h4, h5, h6⟩)
  clear HNO HYES
  go_wp2_with fail
  go_ret
  exact bool_ret HF.out HB.out
end Go.Proofs.YtnpgjcapekopnaaGreat.CP

namespace Go.Proofs.YtnpgjcapekopnaaGreat.CP
open Go.RowKit
open CM (Mg Cm)
set_option linter.unusedVariables false
set_option linter.unusedSimpArgs false
set_option maxRecDepth 100000

set_option maxHeartbeats 8000000 in
theorem may12_5 (am : Mg) (aid atm : Int) (ams : List Int) (atp awh an : Int) (A : Option Addr) (c : Nat) (P : Option Addr) (q : Nat) (w : World) (r1 : RowIs w A c am.gs) (r3 : RowIs w P q ams) (hf : MgFit am) :
    Calls Tryz.prog 24 #[.agg #[.int .u8 5, .int .i64 am.id, .slice A am.gs.length c, .int .i64 am.tp, .string am.key, .string am.body, .int .i64 aid, .int .i64 atm, .slice P ams.length q, .int .i64 atp, .int .i64 awh, .int .i64 an]] w (BoolIs (decide (CM.may ⟨5, am, aid, atm, ams, atp, awh, an⟩)) w) := by
  have HNO : Hid (¬ ((am = CM.mz) ∧ (CM.idOk aid) ∧ (atm = 0) ∧ (ams = []) ∧ (0 ≤ atp ∧ atp < 4) ∧ (0 ≤ an ∧ an < 1073741825) ∧ (awh = 0)) → false = decide (CM.may ⟨5, am, aid, atm, ams, atp, awh, an⟩)) := Lib.hid (fun h => by rw [decide_eq_false (fun e => h (may_iff5.1 e))])
  have HYES : Hid (((am = CM.mz) ∧ (CM.idOk aid) ∧ (atm = 0) ∧ (ams = []) ∧ (0 ≤ atp ∧ atp < 4) ∧ (0 ≤ an ∧ an < 1073741825) ∧ (awh = 0)) → true = decide (CM.may ⟨5, am, aid, atm, ams, atp, awh, an⟩)) := Lib.hid (fun h => by rw [decide_eq_true (may_iff5.2 h)])
  generalize decide (CM.may ⟨5, am, aid, atm, ams, atp, awh, an⟩) = r at HNO HYES ⊢
  have hb0 : Below w.heap.size w (w.alloc (.cells #[.int .u8 5, .int .i64 am.id, .slice A am.gs.length c, .int .i64 am.tp, .string am.key, .string am.body, .int .i64 aid, .int .i64 atm, .slice P ams.length q, .int .i64 atp, .int .i64 awh, .int .i64 an] 30)) := (Below.refl _ _).alloc (Nat.le_refl _) _
  have S := Lib.hid (sameMessage_any am CM.mz (.agg (mcells A c am)) _ _ ⟨A, c, rfl, r1.below hb0⟩ (mz_is _))
  unfold mcells at S
  have HX := Lib.hid (Box.new w 30 #[.int .u8 5, .int .i64 am.id, .slice A am.gs.length c, .int .i64 am.tp, .string am.key, .string am.body, .int .i64 aid, .int .i64 atm, .slice P ams.length q, .int .i64 atp, .int .i64 awh, .int .i64 an])
  have HB := Lib.hid hb0
  have HL : Hid (ams = [] ↔ ams.length = 0) := Lib.hid List.length_eq_zero_iff.symm
  have HM := Lib.hid (Nat.le_trans r3.2.1 r3.2.2)
  clear hb0 r1 r3 hf
  go_enter Tryz.func24, Tryz.ntmps24
  go_upto_region 1 with (fail)
  generalize w.alloc (.cells #[.int .u8 5, .int .i64 am.id, .slice A am.gs.length c, .int .i64 am.tp, .string am.key, .string am.body, .int .i64 aid, .int .i64 atm, .slice P ams.length q, .int .i64 atp, .int .i64 awh, .int .i64 an] 30) = w1 at HX HB S ⊢
  have G1 := Lib.hid HX.out.lt
  generalize hg0 : w.heap.size = g0 at HX G1 ⊢
  clear hg0
  obtain ⟨x0, x1, x2, x3, x4, x5, x6, x7, x8, x9, x10, x11⟩ := box_cm HX.out
  go_wp2_with fail
  refine (S.out).mono ?_
  rintro e w2 ⟨rfl, hb2⟩
  clear S
  replace HB := Lib.hid (HB.out.trans (hb2.mono HB.out.size))
  replace HX := Lib.hid (HX.out.below hb2 G1.out)
  replace G1 := Lib.hid (Nat.lt_of_lt_of_le G1.out hb2.size)
  clear hb2
  clear x0 x1 x2 x3 x4 x5 x6 x7 x8 x9 x10 x11
  obtain ⟨x0, x1, x2, x3, x4, x5, x6, x7, x8, x9, x10, x11⟩ := box_cm HX.out
  by_cases h0 : am = CM.mz
  rotate_left
  · have HF := Lib.hid (HNO.out (fun h => h0 h.1))
    rw [decide_eq_false h0]
    clear HNO HYES
    go_wp2_with fail
    go_ret
    exact bool_ret HF.out HB.out
  rw [decide_eq_true h0]
  have CI := Lib.hid (Id_any aid)
  go_wp2_with fail
  refine (CI.out _).mono ?_
  rintro e wx ⟨rfl, rfl⟩
  clear CI
  by_cases h1 : CM.idOk aid
  rotate_left
  · have HF := Lib.hid (HNO.out (fun h => h1 h.2.1))
    rw [decide_eq_false h1]
    clear HNO HYES
    go_wp2_with fail
    go_ret
    exact bool_ret HF.out HB.out
  rw [decide_eq_true h1]
  by_cases h2 : atm = 0
  rotate_left
  · have HF := Lib.hid (HNO.out (fun h => h2 h.2.2.1))
    have e2 : (atm == 0) = false := by simpa using h2
    clear HNO HYES
    go_wp2_with fail
    go_ret
    exact bool_ret HF.out HB.out
  have e2 : (atm == 0) = true := by simpa using h2
  by_cases h3 : ams = []
  rotate_left
  · have HF := Lib.hid (HNO.out (fun h => h3 h.2.2.2.1))
    have e3 : ((ams.length : Int) == 0) = false := by have := fun e => h3 (HL.out.2 e); simpa using this
    clear HNO HYES
    go_wp2_with fail
    go_ret
    exact bool_ret HF.out HB.out
  have e3 : ((ams.length : Int) == 0) = true := by simpa using h3
  have CI := Lib.hid (In_any atp 0 4)
  go_wp2_with fail
  refine (CI.out _).mono ?_
  rintro e wx ⟨rfl, rfl⟩
  clear CI
  by_cases h4 : 0 ≤ atp ∧ atp < 4
  rotate_left
  · have HF := Lib.hid (HNO.out (fun h => h4 h.2.2.2.2.1))
    rw [decide_eq_false h4]
    clear HNO HYES
    go_wp2_with fail
    go_ret
    exact bool_ret HF.out HB.out
  rw [decide_eq_true h4]
  have CI := Lib.hid (In_any an 0 1073741825)
  go_wp2_with fail
  refine (CI.out _).mono ?_
  rintro e wx ⟨rfl, rfl⟩
  clear CI
  by_cases h5 : 0 ≤ an ∧ an < 1073741825
  rotate_left
  · have HF := Lib.hid (HNO.out (fun h => h5 h.2.2.2.2.2.1))
    rw [decide_eq_false h5]
    clear HNO HYES
    go_wp2_with fail
    go_ret
    exact bool_ret HF.out HB.out
  rw [decide_eq_true h5]
  by_cases h6 : awh = 0
  rotate_left
  · have HF := Lib.hid (HNO.out (fun h => h6 h.2.2.2.2.2.2))
    have e6 : (awh == 0) = false := by simpa using h6
    clear HNO HYES
    go_wp2_with fail
    go_ret
    exact bool_ret HF.out HB.out
  have e6 : (awh == 0) = true := by simpa using h6
  have HF := Lib.hid (HYES.out ⟨h0, h1, h2, h3, h4, h5, h6⟩)
  clear HNO HYES
  go_wp2_with fail
  go_ret
  exact bool_ret HF.out HB.out
end Go.Proofs.YtnpgjcapekopnaaGreat.CP

namespace Go.Proofs.YtnpgjcapekopnaaGreat.CP
open Go.RowKit
open CM (Mg Cm)
set_option linter.unusedVariables false
set_option linter.unusedSimpArgs false
set_option maxRecDepth 100000

set_option maxHeartbeats 8000000 in
theorem may12_6 (am : Mg) (aid atm : Int) (ams : List Int) (atp awh an : Int) (A : Option Addr) (c : Nat) (P : Option Addr) (q : Nat) (w : World) (r1 : RowIs w A c am.gs) (r3 : RowIs w P q ams) (hf : MgFit am) :
    Calls Tryz.prog 24 #[.agg #[.int .u8 6, .int .i64 am.id, .slice A am.gs.length c, .int .i64 am.tp, .string am.key, .string am.body, .int .i64 aid, .int .i64 atm, .slice P ams.length q, .int .i64 atp, .int .i64 awh, .int .i64 an]] w (BoolIs (decide (CM.may ⟨6, am, aid, atm, ams, atp, awh, an⟩)) w) := by
  have HNO : Hid (¬ ((am = CM.mz) ∧ (CM.idOk aid) ∧ (atm = 0) ∧ (ams = []) ∧ (0 ≤ atp ∧ atp < 4) ∧ (0 ≤ an ∧ an < 1073741825) ∧ (awh = 0)) → false = decide (CM.may ⟨6, am, aid, atm, ams, atp, awh, an⟩)) := Lib.hid (fun h => by rw [decide_eq_false (fun e => h (may_iff6.1 e))])
  have HYES : Hid (((am = CM.mz) ∧ (CM.idOk aid) ∧ (atm = 0) ∧ (ams = []) ∧ (0 ≤ atp ∧ atp < 4) ∧ (0 ≤ an ∧ an < 1073741825) ∧ (awh = 0)) → true = decide (CM.may ⟨6, am, aid, atm, ams, atp, awh, an⟩)) := Lib.hid (fun h => by rw [decide_eq_true (may_iff6.2 h)])
  generalize decide (CM.may ⟨6, am, aid, atm, ams, atp, awh, an⟩) = r at HNO HYES ⊢
  have hb0 : Below w.heap.size w (w.alloc (.cells #[.int .u8 6, .int .i64 am.id, .slice A am.gs.length c, .int .i64 am.tp, .string am.key, .string am.body, .int .i64 aid, .int .i64 atm, .slice P ams.length q, .int .i64 atp, .int .i64 awh, .int .i64 an] 30)) := (Below.refl _ _).alloc (Nat.le_refl _) _
  have S := Lib.hid (sameMessage_any am CM.mz (.agg (mcells A c am)) _ _ ⟨A, c, rfl, r1.below hb0⟩ (mz_is _))
  unfold mcells at S
  have HX := Lib.hid (Box.new w 30 #[.int .u8 6, .int .i64 am.id, .slice A am.gs.length c, .int .i64 am.tp, .string am.key, .string am.body, .int .i64 aid, .int .i64 atm, .slice P ams.length q, .int .i64 atp, .int .i64 awh, .int .i64 an])
  have HB := Lib.hid hb0
  have HL : Hid (ams = [] ↔ ams.length = 0) := Lib.hid List.length_eq_zero_iff.symm
  have HM := Lib.hid (Nat.le_trans r3.2.1 r3.2.2)
  clear hb0 r1 r3 hf
  go_enter Tryz.func24, Tryz.ntmps24
  go_upto_region 1 with (fail)
  generalize w.alloc (.cells #[.int .u8 6, .int .i64 am.id, .slice A am.gs.length c, .int .i64 am.tp, .string am.key, .string am.body, .int .i64 aid, .int .i64 atm, .slice P ams.length q, .int .i64 atp, .int .i64 awh, .int .i64 an] 30) = w1 at HX HB S ⊢
  have G1 := Lib.hid HX.out.lt
  generalize hg0 : w.heap.size = g0 at HX G1 ⊢
  clear hg0
  obtain ⟨x0, x1, x2, x3, x4, x5, x6, x7, x8, x9, x10, x11⟩ := box_cm HX.out
  go_wp2_with fail
  refine (S.out).mono ?_
  rintro e w2 ⟨rfl, hb2⟩
  clear S
  replace HB := Lib.hid (HB.out.trans (hb2.mono HB.out.size))
  replace HX := Lib.hid (HX.out.below hb2 G1.out)
  replace G1 := Lib.hid (Nat.lt_of_lt_of_le G1.out hb2.size)
  clear hb2
  clear x0 x1 x2 x3 x4 x5 x6 x7 x8 x9 x10 x11
  obtain ⟨x0, x1, x2, x3, x4, x5, x6, x7, x8, x9, x10, x11⟩ := box_cm HX.out
  by_cases h0 : am = CM.mz
  rotate_left
  · have HF := Lib.hid (HNO.out (fun h => h0 h.1))
    rw [decide_eq_false h0]
    clear HNO HYES
    go_wp2_with fail
    go_ret
    exact bool_ret HF.out HB.out
  rw [decide_eq_true h0]
  have CI := Lib.hid (Id_any aid)
  go_wp2_with fail
  refine (CI.out _).mono ?_
  rintro e wx ⟨rfl, rfl⟩
  clear CI
  by_cases h1 : CM.idOk aid
  rotate_left
  · have HF := Lib.hid (HNO.out (fun h => h1 h.2.1))
    rw [decide_eq_false h1]
    clear HNO HYES
    go_wp2_with fail
    go_ret
    exact bool_ret HF.out HB.out
  rw [decide_eq_true h1]
  by_cases h2 : atm = 0
  rotate_left
  · have HF := Lib.hid (HNO.out (fun h => h2 h.2.2.1))
    have e2 : (atm == 0) = false := by simpa using h2
    clear HNO HYES
    go_wp2_with fail
    go_ret
    exact bool_ret HF.out HB.out
  have e2 : (atm == 0) = true := by simpa using h2
  by_cases h3 : ams = []
  rotate_left
  · have HF := Lib.hid (HNO.out (fun h => h3 h.2.2.2.1))
    have e3 : ((ams.length : Int) == 0) = false := by have := fun e => h3 (HL.out.2 e); simpa using this
    clear HNO HYES
    go_wp2_with fail
    go_ret
    exact bool_ret HF.out HB.out
  have e3 : ((ams.length : Int) == 0) = true := by simpa using h3
  have CI := Lib.hid (In_any atp 0 4)
  go_wp2_with fail
  refine (CI.out _).mono ?_
  rintro e wx ⟨rfl, rfl⟩
  clear CI
  by_cases h4 : 0 ≤ atp ∧ atp < 4
  rotate_left
  · have HF := Lib.hid (HNO.out (fun h => h4 h.2.2.2.2.1))
    rw [decide_eq_false h4]
    clear HNO HYES
    go_wp2_with fail
    go_ret
    exact bool_ret HF.out HB.out
  rw [decide_eq_true h4]
  have CI := Lib.hid (In_any an 0 1073741825)
  go_wp2_with fail
  refine (CI.out _).mono ?_
  rintro e wx ⟨rfl, rfl⟩
  clear CI
  by_cases h5 : 0 ≤ an ∧ an < 1073741825
  rotate_left
  · have HF := Lib.hid (HNO.out (fun h => h5 h.2.2.2.2.2.1))
    rw [decide_eq_false h5]
    clear HNO HYES
    go_wp2_with fail
    go_ret
    exact bool_ret HF.out HB.out
  rw [decide_eq_true h5]
  by_cases h6 : awh = 0
  rotate_left
  · have HF := Lib.hid (HNO.out (fun h => h6 h.2.2.2.2.2.2))
    have e6 : (awh == 0) = false := by simpa using h6
    clear HNO HYES
    go_wp2_with fail
    go_ret
    exact bool_ret HF.out HB.out
  have e6 : (awh == 0) = true := by simpa using h6
  have HF := Lib.hid (HYES.out ⟨h0, h1, h2, h3, h4, h5, h6⟩)
  clear HNO HYES
  go_wp2_with fail
  go_ret
  exact bool_ret HF.out HB.out
end Go.Proofs.YtnpgjcapekopnaaGreat.CP

namespace Go.Proofs.YtnpgjcapekopnaaGreat.CP
open Go.RowKit
open CM (Mg Cm)
set_option linter.unusedVariables false
set_option linter.unusedSimpArgs false
set_option maxRecDepth 100000

set_option maxHeartbeats 8000000 in
theorem may12_k (k : Int) (am : Mg) (aid atm : Int) (ams : List Int) (atp awh an : Int) (A : Option Addr) (c : Nat) (P : Option Addr) (q : Nat) (w : World) (hk : k ≠ 0 ∧ k ≠ 1 ∧ k ≠ 2 ∧ k ≠ 3 ∧ k ≠ 4 ∧ k ≠ 5 ∧ k ≠ 6) (r1 : RowIs w A c am.gs) (r3 : RowIs w P q ams) (hf : MgFit am) :
    Calls Tryz.prog 24 #[.agg #[.int .u8 k, .int .i64 am.id, .slice A am.gs.length c, .int .i64 am.tp, .string am.key, .string am.body, .int .i64 aid, .int .i64 atm, .slice P ams.length q, .int .i64 atp, .int .i64 awh, .int .i64 an]] w (BoolIs (decide (CM.may ⟨k, am, aid, atm, ams, atp, awh, an⟩)) w) := by
  have HA : Hid (false = decide (CM.may ⟨k, am, aid, atm, ams, atp, awh, an⟩)) := Lib.hid (by rw [decide_eq_false (may_other hk)])
  generalize decide (CM.may ⟨k, am, aid, atm, ams, atp, awh, an⟩) = r at HA ⊢
  have k0 : (k == 0) = false := by simpa using hk.1
  have k1 : (k == 1) = false := by simpa using hk.2.1
  have k2 : (k == 2) = false := by simpa using hk.2.2.1
  have k3 : (k == 3) = false := by simpa using hk.2.2.2.1
  have k4 : (k == 4) = false := by simpa using hk.2.2.2.2.1
  have k5 : (k == 5) = false := by simpa using hk.2.2.2.2.2.1
  have k6 : (k == 6) = false := by simpa using hk.2.2.2.2.2.2
  clear hk
  have hb0 : Below w.heap.size w (w.alloc (.cells #[.int .u8 k, .int .i64 am.id, .slice A am.gs.length c, .int .i64 am.tp, .string am.key, .string am.body, .int .i64 aid, .int .i64 atm, .slice P ams.length q, .int .i64 atp, .int .i64 awh, .int .i64 an] 30)) := (Below.refl _ _).alloc (Nat.le_refl _) _
  have S := Lib.hid (sameMessage_any am CM.mz (.agg (mcells A c am)) _ _ ⟨A, c, rfl, r1.below hb0⟩ (mz_is _))
  unfold mcells at S
  have HX := Lib.hid (Box.new w 30 #[.int .u8 k, .int .i64 am.id, .slice A am.gs.length c, .int .i64 am.tp, .string am.key, .string am.body, .int .i64 aid, .int .i64 atm, .slice P ams.length q, .int .i64 atp, .int .i64 awh, .int .i64 an])
  have HB := Lib.hid hb0
  have HL : Hid (ams = [] ↔ ams.length = 0) := Lib.hid List.length_eq_zero_iff.symm
  have HM := Lib.hid (Nat.le_trans r3.2.1 r3.2.2)
  clear hb0 r1 r3 hf
  go_enter Tryz.func24, Tryz.ntmps24
  go_upto_region 1 with (fail)
  generalize w.alloc (.cells #[.int .u8 k, .int .i64 am.id, .slice A am.gs.length c, .int .i64 am.tp, .string am.key, .string am.body, .int .i64 aid, .int .i64 atm, .slice P ams.length q, .int .i64 atp, .int .i64 awh, .int .i64 an] 30) = w1 at HX HB S ⊢
  have G1 := Lib.hid HX.out.lt
  generalize hg0 : w.heap.size = g0 at HX G1 ⊢
  clear hg0
  obtain ⟨x0, x1, x2, x3, x4, x5, x6, x7, x8, x9, x10, x11⟩ := box_cm HX.out
  go_wp2_with fail
  refine (S.out).mono ?_
  rintro e w2 ⟨rfl, hb2⟩
  clear S
  replace HB := Lib.hid (HB.out.trans (hb2.mono HB.out.size))
  replace HX := Lib.hid (HX.out.below hb2 G1.out)
  replace G1 := Lib.hid (Nat.lt_of_lt_of_le G1.out hb2.size)
  clear hb2
  clear x0 x1 x2 x3 x4 x5 x6 x7 x8 x9 x10 x11
  obtain ⟨x0, x1, x2, x3, x4, x5, x6, x7, x8, x9, x10, x11⟩ := box_cm HX.out
  generalize decide (am = CM.mz) = bz
  go_wp2_with fail
  go_ret
  exact bool_ret HA.out HB.out
end Go.Proofs.YtnpgjcapekopnaaGreat.CP

namespace Go.Proofs.YtnpgjcapekopnaaGreat.CP
open Go.RowKit
open CM (Mg Cm)
set_option linter.unusedVariables false
set_option linter.unusedSimpArgs false
set_option maxRecDepth 100000

theorem may12_any (x : Cm) (v : Value) (w : World) (h : CmIs w v x) (hf : CmFit x) :
    Calls Tryz.prog 24 #[v] w (BoolIs (decide (CM.may x)) w) := by
  obtain ⟨A, c, P, q, rfl, r1, r3⟩ := h
  obtain ⟨k, am, aid, atm, ams, atp, awh, an⟩ := x
  have hm : MgFit am := hf.2.1
  show Calls _ _ #[.agg #[.int .u8 k, .int .i64 am.id, .slice A am.gs.length c, .int .i64 am.tp, .string am.key, .string am.body, .int .i64 aid, .int .i64 atm, .slice P ams.length q, .int .i64 atp, .int .i64 awh, .int .i64 an]] _ _
  by_cases h0 : k = 0
  · subst h0; exact may12_0 am aid atm ams atp awh an A c P q w r1 r3 hm
  by_cases h1 : k = 1
  · subst h1; exact may12_1 am aid atm ams atp awh an A c P q w r1 r3 hm
  by_cases h2 : k = 2
  · subst h2; exact may12_2 am aid atm ams atp awh an A c P q w r1 r3 hm
  by_cases h3 : k = 3
  · subst h3; exact may12_3 am aid atm ams atp awh an A c P q w r1 r3 hm
  by_cases h4 : k = 4
  · subst h4; exact may12_4 am aid atm ams atp awh an A c P q w r1 r3 hm
  by_cases h5 : k = 5
  · subst h5; exact may12_5 am aid atm ams atp awh an A c P q w r1 r3 hm
  by_cases h6 : k = 6
  · subst h6; exact may12_6 am aid atm ams atp awh an A c P q w r1 r3 hm
  exact may12_k k am aid atm ams atp awh an A c P q w ⟨h0, h1, h2, h3, h4, h5, h6⟩ r1 r3 hm
end Go.Proofs.YtnpgjcapekopnaaGreat.CP

namespace Go.Proofs.YtnpgjcapekopnaaGreat.KP
open Go.RowKit CP TP
open CM (Mg Cm)
open TM (Sp)
open KM (Wt Sk)
set_option linter.unusedVariables false
set_option linter.unusedSimpArgs false
set_option maxRecDepth 100000

/-- the variables of what Put answered -/
def ApMid (w w1 : World) (R : Sk × List Mg × Bool) (u9 u10 u11 : Value) (wx : World) : Prop :=
  ∃ p9 A n c B d E m f, u9 = .pointer (some ⟨p9, 0, none⟩) ∧ u10 = .slice E m f ∧ u11 = .bool R.2.2 ∧ w1.heap.size ≤ p9 ∧ Box wx p9 25 #[.int .i64 R.1.c, .slice A n c, .slice B R.1.ds.length d] ∧ KO KW wx w1.heap.size 52 (.slice A n c) R.1.ws ∧
    wx.ownsRow w1.heap.size 70 2 (.slice B R.1.ds.length d) R.1.ds.length (flat spc R.1.ds) ∧ KO KM_ wx w1.heap.size 28 (.slice E m f) R.2.1 ∧ Below w1.heap.size w1 wx
set_option maxHeartbeats 32000000 in
theorem rapply15_any (vs : Value) (s : Sk) (g : Int) (vc : Value) (c : Cm) (w : World) (hs : SkIs w vs s) (hf : SkFit s) (hc : CmIs w vc c) (hcf : CmFit c) (hgs : c.m.gs.length ≤ 17592186044416) :
    Calls Tryz.prog 8 #[vs, .int .i64 g, vc] w (ApIs (KM.applyF s g c) w) := by
  have KM1 := Lib.hid (fun W (hb : Below w.heap.size w W) => rmay15_any vs s W (hs.below hb) hf)
  have KC1 := Lib.hid (fun W (hb : Below w.heap.size w W) => may12_any c vc W (hc.below hb) hcf)
  have KT1 := Lib.hid (fun (hm : KM.may s) W (hb : Below w.heap.size w W) => rtwin15_any vs s W (hs.below hb) (by have := hm.1.2.2.1; omega) (by have := hm.1.2.2.2; omega) (fun x hx => (hf.2.1 x hx).2))
  have KP1 := Lib.hid (fun (hm : KM.may s) Wt (hb : Below w.heap.size w Wt) v W (ht : Below Wt.heap.size Wt W) (ho : SkO W Wt.heap.size v s) => rput_any Wt.heap.size v s g vc c W ho ht.size (fun W' h => hc.below (hb.trans ((ht.trans h).mono hb.size))) hm.1.2.2.1 hm.1.2.2.2 hgs ⟨hm.1.1, hm.1.2.1⟩)
  obtain ⟨res, hres⟩ : ∃ res, res = KM.applyF s g c := ⟨_, rfl⟩
  rw [← hres]
  have HRES := Lib.hid hres
  obtain ⟨ok, hok⟩ : ∃ q, q = decide (KM.may s) := ⟨_, rfl⟩
  rw [← hok] at KM1
  have HOK := Lib.hid hok
  obtain ⟨oc, hoc⟩ : ∃ q, q = decide (CM.may c) := ⟨_, rfl⟩
  rw [← hoc] at KC1
  have HOC := Lib.hid hoc
  obtain ⟨R, hR⟩ : ∃ R, R = KM.putF s g c := ⟨_, rfl⟩
  rw [← hR] at KP1
  have HR := Lib.hid hR
  clear hres hok hoc hR hgs hcf hf
  obtain ⟨A, cw, B, dd, rfl, r1, d1⟩ := hs
  obtain ⟨Ac, cc, Bc, dc, rfl, rc1, rc2⟩ := hc
  clear r1 d1 rc1 rc2
  obtain ⟨n, hn⟩ : ∃ n, n = s.ws.length := ⟨_, rfl⟩
  obtain ⟨m, hm⟩ : ∃ m, m = s.ds.length := ⟨_, rfl⟩
  unfold vsk at KM1 KT1 ⊢
  unfold ccells at KC1 KP1 ⊢
  rw [← hn, ← hm] at KM1 KT1 ⊢
  clear hn hm
  obtain ⟨sc, ws, ds⟩ := s
  obtain ⟨ck, ⟨ci, cg, ct, cy, cb⟩, cid, ctm, cms, ctp, cwh, cn⟩ := c
  simp only at KM1 KC1 KT1 KP1 ⊢
  have HB : Hid (Below w.heap.size w (((w.alloc (.cells #[.int .i64 sc, .slice A n cw, .slice B m dd] 25)).alloc (.cells #[.int .u8 ck, .int .i64 ci, .slice Ac cg.length cc, .int .i64 ct, .string cy, .string cb, .int .i64 cid, .int .i64 ctm, .slice Bc cms.length dc, .int .i64 ctp, .int .i64 cwh, .int .i64 cn] 30)).alloc (.cells #[.int .i64 0, .slice none 0 0, .slice none 0 0] 25))) := Lib.hid ((((Below.refl _ _).alloc (Nat.le_refl _) _).alloc (by simp) _).alloc (by simp; omega) _)
  have X : Hid (Box (((w.alloc (.cells #[.int .i64 sc, .slice A n cw, .slice B m dd] 25)).alloc (.cells #[.int .u8 ck, .int .i64 ci, .slice Ac cg.length cc, .int .i64 ct, .string cy, .string cb, .int .i64 cid, .int .i64 ctm, .slice Bc cms.length dc, .int .i64 ctp, .int .i64 cwh, .int .i64 cn] 30)).alloc (.cells #[.int .i64 0, .slice none 0 0, .slice none 0 0] 25)) w.heap.size 25 #[.int .i64 sc, .slice A n cw, .slice B m dd]) := Lib.hid (((Box.new _ _ _).alloc _).alloc _)
  have Y : Hid (Box (((w.alloc (.cells #[.int .i64 sc, .slice A n cw, .slice B m dd] 25)).alloc (.cells #[.int .u8 ck, .int .i64 ci, .slice Ac cg.length cc, .int .i64 ct, .string cy, .string cb, .int .i64 cid, .int .i64 ctm, .slice Bc cms.length dc, .int .i64 ctp, .int .i64 cwh, .int .i64 cn] 30)).alloc (.cells #[.int .i64 0, .slice none 0 0, .slice none 0 0] 25)) (w.heap.size + 1) 30 #[.int .u8 ck, .int .i64 ci, .slice Ac cg.length cc, .int .i64 ct, .string cy, .string cb, .int .i64 cid, .int .i64 ctm, .slice Bc cms.length dc, .int .i64 ctp, .int .i64 cwh, .int .i64 cn]) := Lib.hid ((Box.new_at _ (by simp)).alloc _)
  have ZB : Hid (Box (((w.alloc (.cells #[.int .i64 sc, .slice A n cw, .slice B m dd] 25)).alloc (.cells #[.int .u8 ck, .int .i64 ci, .slice Ac cg.length cc, .int .i64 ct, .string cy, .string cb, .int .i64 cid, .int .i64 ctm, .slice Bc cms.length dc, .int .i64 ctp, .int .i64 cwh, .int .i64 cn] 30)).alloc (.cells #[.int .i64 0, .slice none 0 0, .slice none 0 0] 25)) (w.heap.size + 1 + 1) 25 #[.int .i64 0, .slice none 0 0, .slice none 0 0]) := Lib.hid (Box.new_at _ (by simp))
  go_enter Tryz.func8, Tryz.ntmps8
  go_upto_region 1 with (fail)
  generalize (((w.alloc (.cells #[.int .i64 sc, .slice A n cw, .slice B m dd] 25)).alloc (.cells #[.int .u8 ck, .int .i64 ci, .slice Ac cg.length cc, .int .i64 ct, .string cy, .string cb, .int .i64 cid, .int .i64 ctm, .slice Bc cms.length dc, .int .i64 ctp, .int .i64 cwh, .int .i64 cn] 30)).alloc (.cells #[.int .i64 0, .slice none 0 0, .slice none 0 0] 25)) = w1 at HB X Y ZB ⊢
  have HW1 := Lib.hid (show w.heap.size + 1 + 1 < w1.heap.size from ZB.out.lt)
  have HP6 := Lib.hid (show w.heap.size ≤ w.heap.size + 1 + 1 by omega)
  generalize w.heap.size + 1 + 1 = p6 at ZB HW1 HP6 ⊢
  generalize w.heap.size + 1 = p5 at Y ⊢
  obtain ⟨p3, hp3⟩ : ∃ p3, w.heap.size = p3 := ⟨_, rfl⟩
  rw [hp3] at X
  simp only [hp3]
  have HP3 := Lib.hid hp3
  clear hp3
  obtain ⟨x0, x1, x2⟩ := box_sk X.out
  go_wp2_with fail
  refine (KM1.out _ HB.out).mono ?_
  rintro e w2 ⟨rfl, hb⟩
  have HB2 := Lib.hid (bmore HB.out hb (Nat.le_refl _))
  have HW2 := Lib.hid (Nat.lt_of_lt_of_le HW1.out hb.size)
  replace X := Lib.hid (X.out.below hb X.out.lt)
  replace Y := Lib.hid (Y.out.below hb Y.out.lt)
  replace ZB := Lib.hid (ZB.out.below hb ZB.out.lt)
  clear hb KM1 x0 x1 x2 HB HW1
  rcases ok with _ | _
  · have HF := Lib.hid (show res = (KM.zero, [], 8) by rw [HRES.out, KM.applyF, if_pos (of_decide_eq_false HOK.out.symm)])
    obtain ⟨z0, z1, z2, f0, f1, f2⟩ := ZB.out.three
    have ZP := Lib.hid (Box.put3 ZB.out (.int .i64 0) (.slice none 0 0) (.slice none 0 0))
    have ZL := Lib.hid (below_put3 HB2.out HP6.out (.int .i64 0) (.slice none 0 0) (.slice none 0 0))
    go_wp2_with fail
    obtain ⟨u0, u1, u2⟩ := box_sk ZP.out
    exact bodyPost_ret (v := .tuple #[.agg #[.int .i64 0, .slice none 0 0, .slice none 0 0], .slice none 0 0, .int .i64 8]) (by simp [results, Tryz.results8, go_sem, u0, u1, u2]; try rfl) rfl ⟨_, _, by rw [HF.out], by rw [HF.out]; exact skO_zero _ _, by rw [HF.out]; exact kO_nil KM_ _ _ _, ZL.out⟩
  have HM := Lib.hid (of_decide_eq_true HOK.out.symm)
  by_cases g1 : g < 0
  · have HF := Lib.hid (show res = (KM.zero, [], 2) by rw [HRES.out, KM.applyF, if_neg (fun h => h HM.out), if_pos (by omega)])
    obtain ⟨z0, z1, z2, f0, f1, f2⟩ := ZB.out.three
    have ZP := Lib.hid (Box.put3 ZB.out (.int .i64 0) (.slice none 0 0) (.slice none 0 0))
    have ZL := Lib.hid (below_put3 HB2.out HP6.out (.int .i64 0) (.slice none 0 0) (.slice none 0 0))
    go_wp2_with fail
    obtain ⟨u0, u1, u2⟩ := box_sk ZP.out
    exact bodyPost_ret (v := .tuple #[.agg #[.int .i64 0, .slice none 0 0, .slice none 0 0], .slice none 0 0, .int .i64 2]) (by simp [results, Tryz.results8, go_sem, u0, u1, u2]; try rfl) rfl ⟨_, _, by rw [HF.out], by rw [HF.out]; exact skO_zero _ _, by rw [HF.out]; exact kO_nil KM_ _ _ _, ZL.out⟩
  by_cases g2 : 4 ≤ g
  · have HF := Lib.hid (show res = (KM.zero, [], 2) by rw [HRES.out, KM.applyF, if_neg (fun h => h HM.out), if_pos (by omega)])
    obtain ⟨z0, z1, z2, f0, f1, f2⟩ := ZB.out.three
    have ZP := Lib.hid (Box.put3 ZB.out (.int .i64 0) (.slice none 0 0) (.slice none 0 0))
    have ZL := Lib.hid (below_put3 HB2.out HP6.out (.int .i64 0) (.slice none 0 0) (.slice none 0 0))
    go_wp2_with fail
    obtain ⟨u0, u1, u2⟩ := box_sk ZP.out
    exact bodyPost_ret (v := .tuple #[.agg #[.int .i64 0, .slice none 0 0, .slice none 0 0], .slice none 0 0, .int .i64 2]) (by simp [results, Tryz.results8, go_sem, u0, u1, u2]; try rfl) rfl ⟨_, _, by rw [HF.out], by rw [HF.out]; exact skO_zero _ _, by rw [HF.out]; exact kO_nil KM_ _ _ _, ZL.out⟩
  obtain ⟨y0, y1, y2, y3, y4, y5, y6, y7, y8, y9, y10, y11⟩ := box_cm Y.out
  go_wp2_with fail
  refine (KC1.out _ HB2.out).mono ?_
  rintro e w3 ⟨rfl, hb⟩
  replace HB2 := Lib.hid (bmore HB2.out hb (Nat.le_refl _))
  replace HW2 := Lib.hid (Nat.lt_of_lt_of_le HW2.out hb.size)
  replace X := Lib.hid (X.out.below hb X.out.lt)
  replace Y := Lib.hid (Y.out.below hb Y.out.lt)
  replace ZB := Lib.hid (ZB.out.below hb ZB.out.lt)
  clear hb KC1 y0 y1 y2 y3 y4 y5 y6 y7 y8 y9 y10 y11
  rcases oc with _ | _
  · have HF := Lib.hid (show res = (KM.zero, [], 120) by rw [HRES.out, KM.applyF, if_neg (fun h => h HM.out), if_neg (by omega), if_pos (of_decide_eq_false HOC.out.symm)])
    obtain ⟨z0, z1, z2, f0, f1, f2⟩ := ZB.out.three
    have ZP := Lib.hid (Box.put3 ZB.out (.int .i64 0) (.slice none 0 0) (.slice none 0 0))
    have ZL := Lib.hid (below_put3 HB2.out HP6.out (.int .i64 0) (.slice none 0 0) (.slice none 0 0))
    go_wp2_with fail
    obtain ⟨u0, u1, u2⟩ := box_sk ZP.out
    exact bodyPost_ret (v := .tuple #[.agg #[.int .i64 0, .slice none 0 0, .slice none 0 0], .slice none 0 0, .int .i64 120]) (by simp [results, Tryz.results8, go_sem, u0, u1, u2]; try rfl) rfl ⟨_, _, by rw [HF.out], by rw [HF.out]; exact skO_zero _ _, by rw [HF.out]; exact kO_nil KM_ _ _ _, ZL.out⟩
  have HRV := Lib.hid (show res = if R.2.2 = true then (R.1, R.2.1, 0) else (KM.zero, [], 9) by rw [HRES.out, KM.applyF, if_neg (fun h => h HM.out), if_neg (by omega), if_neg (fun h => h (of_decide_eq_true HOC.out.symm)), ← HR.out])
  go_upto_region 7 with (fail)
  go_cut [9, 10, 11] (fun u9 u10 u11 wx => ApMid w w3 R u9 u10 u11 wx)
  case first =>
    have HSX := Lib.hid (show ∀ w', Box w' p3 25 #[.int .i64 sc, .slice A n cw, .slice B m dd] → Box w' p5 30 #[.int .u8 ck, .int .i64 ci, .slice Ac cg.length cc, .int .i64 ct, .string cy, .string cb, .int .i64 cid, .int .i64 ctm, .slice Bc cms.length dc, .int .i64 ctp, .int .i64 cwh, .int .i64 cn] → w'.cell? ⟨p3, 0, none⟩ = some (.int .i64 sc) ∧ w'.cell? ⟨p3, 1, none⟩ = some (.slice A n cw) ∧ w'.cell? ⟨p3, 2, none⟩ = some (.slice B m dd) ∧ w'.cell? ⟨p5, 0, none⟩ = some (.int .u8 ck) ∧ w'.cell? ⟨p5, 1, none⟩ = some (.int .i64 ci) ∧ w'.cell? ⟨p5, 2, none⟩ = some (.slice Ac cg.length cc) ∧ w'.cell? ⟨p5, 3, none⟩ = some (.int .i64 ct) ∧ w'.cell? ⟨p5, 4, none⟩ = some (.string cy) ∧ w'.cell? ⟨p5, 5, none⟩ = some (.string cb) ∧ w'.cell? ⟨p5, 6, none⟩ = some (.int .i64 cid) ∧ w'.cell? ⟨p5, 7, none⟩ = some (.int .i64 ctm) ∧ w'.cell? ⟨p5, 8, none⟩ = some (.slice Bc cms.length dc) ∧ w'.cell? ⟨p5, 9, none⟩ = some (.int .i64 ctp) ∧ w'.cell? ⟨p5, 10, none⟩ = some (.int .i64 cwh) ∧ w'.cell? ⟨p5, 11, none⟩ = some (.int .i64 cn) from fun w' h1 h2 =>
      ⟨h1.cell 0, h1.cell 1, h1.cell 2, h2.cell 0, h2.cell 1, h2.cell 2, h2.cell 3, h2.cell 4, h2.cell 5, h2.cell 6, h2.cell 7, h2.cell 8, h2.cell 9, h2.cell 10, h2.cell 11⟩)
    have HSS := Lib.hid (fun w' (h : Below w3.heap.size w3 w') => HSX.out w' (X.out.below h X.out.lt) (Y.out.below h Y.out.lt))
    have bb1 : Below w3.heap.size w3 w3.drew := (Below.refl _ _).drew
    obtain ⟨ud, hud⟩ : ∃ ud, ud = w3.drew := ⟨_, rfl⟩
    refine wp_region_held_drew (S := fun w' => w'.cell? ⟨p3, 0, none⟩ = some (.int .i64 sc) ∧ w'.cell? ⟨p3, 1, none⟩ = some (.slice A n cw) ∧ w'.cell? ⟨p3, 2, none⟩ = some (.slice B m dd) ∧ w'.cell? ⟨p5, 0, none⟩ = some (.int .u8 ck) ∧ w'.cell? ⟨p5, 1, none⟩ = some (.int .i64 ci) ∧ w'.cell? ⟨p5, 2, none⟩ = some (.slice Ac cg.length cc) ∧ w'.cell? ⟨p5, 3, none⟩ = some (.int .i64 ct) ∧ w'.cell? ⟨p5, 4, none⟩ = some (.string cy) ∧ w'.cell? ⟨p5, 5, none⟩ = some (.string cb) ∧ w'.cell? ⟨p5, 6, none⟩ = some (.int .i64 cid) ∧ w'.cell? ⟨p5, 7, none⟩ = some (.int .i64 ctm) ∧ w'.cell? ⟨p5, 8, none⟩ = some (.slice Bc cms.length dc) ∧ w'.cell? ⟨p5, 9, none⟩ = some (.int .i64 ctp) ∧ w'.cell? ⟨p5, 10, none⟩ = some (.int .i64 cwh) ∧ w'.cell? ⟨p5, 11, none⟩ = some (.int .i64 cn)) (by kernel_rfl) (HSS.out _ bb1) (fun hHeld => ?_)
    rw [← hud] at bb1 hHeld ⊢
    clear hud
    refine qT 0 ?_; try simp only [Act.put, qq]
    refine qT 2 ?_; try simp only [Act.put, qq]
    refine qT 3 ?_; try simp only [Act.put, qq]
    refine wpAnyH_ready (rs := [1, 9]) (by kernel_rfl) (by simp) ?_
    refine AllReadyH.cons rfl (fun K hK => ?_) (AllReadyH.cons rfl (fun K hK => ?_) AllReadyH.nil)
    · go_simp
      refine (KT1.out HM.out ud (bmore HB2.out bb1 (Nat.le_refl _))).mono ?_
      rintro e w4 ⟨v4, rfl, hso, hb4⟩
      obtain ⟨vW, vD, rfl, hk1, hk2⟩ := id hso
      obtain ⟨A4, c4, rfl, _⟩ := hk1.g
      obtain ⟨B4, d4, rfl, _, _⟩ := own_form hk2
      unfold vsk
      simp only
      have bb4 := bmore bb1 hb4 (Nat.le_refl _)
      have HTB := Lib.hid (bmore HB2.out bb1 (Nat.le_refl _))
      have HT4 := Lib.hid hb4
      have HT5 := Lib.hid (show w3.heap.size ≤ ud.heap.size from bb1.size)
      have HSO := Lib.hid hso
      clear hso hk1 hk2
      clear hb4
      refine hK.out _ _ (HSS.out _ bb4) (fun hHeld => ?_)
      clear hK
      try simp only [Act.put, qq]
      refine wpAnyH_ready (rs := [4, 9]) (by kernel_rfl) (by simp) ?_
      refine AllReadyH.cons rfl (fun K hK => ?_) (AllReadyH.cons rfl (fun K hK => ?_) AllReadyH.nil)
      · go_simp
        refine (KP1.out HM.out ud HTB.out _ w4 HT4.out HSO.out).mono ?_
        rintro e w6 ⟨v6, vm6, rfl, hso6, hkm6, hb6, hkb6⟩
        obtain ⟨vW6, vD6, rfl, hk1, hk2⟩ := hso6
        obtain ⟨A6, c6, rfl, _⟩ := hk1.g
        obtain ⟨B6, d6, rfl, _, _⟩ := own_form hk2
        obtain ⟨E6, f6, rfl, _⟩ := hkm6.g
        unfold vsk
        have bb6 := bb4.trans (hb6.mono HT5.out)
        have HK1 := Lib.hid (hk1.mono HT5.out)
        have HK2 := Lib.hid (own_base hk2 HT5.out)
        have HK3 := Lib.hid (hkm6.mono HT5.out)
        clear hk1 hk2 hkm6 hb6 hkb6
        refine hK.out _ _ (HSS.out _ bb6) (fun hHeld => ?_)
        clear hK
        try simp only [Act.put, qq]
        refine qT 5 ?_; try simp only [Act.put, qq]
        refine qT 6 ?_; try simp only [Act.put, qq]
        refine qT 7 ?_; try simp only [Act.put, qq]
        refine qT 8 ?_; try simp only [Act.put, qq]
        refine wpAnyH_ready (rs := [9]) (by kernel_rfl) (by simp) ?_
        refine AllReadyH.cons rfl (fun K hK => ?_) AllReadyH.nil
        go_simp
        have bb7 : Below w3.heap.size w3 (w6.alloc (.cells #[.int .i64 0, .slice none 0 0, .slice none 0 0] 25)) := bmore bb6 ((Below.refl _ _).alloc (Nat.le_refl _) _) (Nat.le_refl _)
        have V := Lib.hid (Box.new w6 25 #[.int .i64 0, .slice none 0 0, .slice none 0 0])
        have HVW := Lib.hid (show Below w6.heap.size w6 (w6.alloc (.cells #[.int .i64 0, .slice none 0 0, .slice none 0 0] 25)) from (Below.refl _ _).alloc (Nat.le_refl _) _)
        have HV9 := Lib.hid (show w3.heap.size ≤ w6.heap.size from bb6.size)
        refine hK.out _ _ (HSS.out _ bb7) (fun hHeld => ?_)
        clear hK
        try simp only [Act.put, qq]
        generalize w6.alloc (.cells #[.int .i64 0, .slice none 0 0, .slice none 0 0] 25) = w7 at V HVW bb7 hHeld ⊢
        obtain ⟨p9, hp9⟩ : ∃ p9, w6.heap.size = p9 := ⟨_, rfl⟩
        rw [hp9] at V HV9
        simp only [hp9]
        clear hp9
        replace HK1 := Lib.hid (HK1.out.below HVW.out)
        replace HK2 := Lib.hid (own_below3 HK2.out HVW.out)
        replace HK3 := Lib.hid (HK3.out.below HVW.out)
        obtain ⟨q0, q1, q2, q3, q4, q5⟩ := V.out.three
        refine wpAnyH_ready (rs := [10]) (by kernel_rfl) (by simp) ?_
        refine AllReadyH.cons rfl (fun K hK => ?_) AllReadyH.nil
        go_simp
        have HKP := Lib.hid (kept_put3 V.out (.int .i64 R.1.c) (.slice A6 R.1.ws.length c6) (.slice B6 R.1.ds.length d6))
        have bbE := below_put3 bb7 HV9.out (.int .i64 R.1.c) (.slice A6 R.1.ws.length c6) (.slice B6 R.1.ds.length d6)
        refine hK.out _ _ (HSS.out _ bbE) (fun hHeld => ?_)
        clear hK
        try simp only [Act.put, qq]
        refine qT 11 ?_; try simp only [Act.put, qq]
        refine qT 12 ?_; try simp only [Act.put, qq]
        refine wpAnyH_done (by kernel_rfl) ?_ _
        go_wp2_with fail
        go_meet
        case rel => exact ⟨p9, A6, _, c6, B6, d6, E6, _, f6, rfl, rfl, rfl, HV9.out, Box.put3 V.out (.int .i64 R.1.c) (.slice A6 R.1.ws.length c6) (.slice B6 R.1.ds.length d6), KO.kept HKP.out (by decide) (by decide) HK1.out, HKP.out.own HK2.out (by decide), KO.kept HKP.out (by decide) (by decide) HK3.out, bbE⟩
      · go_simp
        have bb5 : Below w3.heap.size w3 (w4.alloc (.cells #[.int .i64 0, .slice none 0 0, .slice none 0 0] 25)) := bmore bb4 ((Below.refl _ _).alloc (Nat.le_refl _) _) (Nat.le_refl _)
        have V := Lib.hid (Box.new w4 25 #[.int .i64 0, .slice none 0 0, .slice none 0 0])
        have HVW := Lib.hid (show Below w4.heap.size w4 (w4.alloc (.cells #[.int .i64 0, .slice none 0 0, .slice none 0 0] 25)) from (Below.refl _ _).alloc (Nat.le_refl _) _)
        have HV9 := Lib.hid (show w3.heap.size ≤ w4.heap.size from bb4.size)
        refine hK.out _ _ (HSS.out _ bb5) (fun hHeld => ?_)
        clear hK
        try simp only [Act.put, qq]
        generalize w4.alloc (.cells #[.int .i64 0, .slice none 0 0, .slice none 0 0] 25) = w5 at V HVW bb5 hHeld ⊢
        obtain ⟨p9, hp9⟩ : ∃ p9, w4.heap.size = p9 := ⟨_, rfl⟩
        rw [hp9] at V HV9
        simp only [hp9]
        clear hp9
        refine wpAnyH_ready (rs := [4]) (by kernel_rfl) (by simp) ?_
        refine AllReadyH.cons rfl (fun K hK => ?_) AllReadyH.nil
        go_simp
        refine (KP1.out HM.out ud HTB.out _ w5 (bmore HT4.out HVW.out (Nat.le_refl _)) (HSO.out.below HVW.out)).mono ?_
        rintro e w6 ⟨v6, vm6, rfl, hso6, hkm6, hb6, hkb6⟩
        obtain ⟨vW6, vD6, rfl, hk1, hk2⟩ := hso6
        obtain ⟨A6, c6, rfl, _⟩ := hk1.g
        obtain ⟨B6, d6, rfl, _, _⟩ := own_form hk2
        obtain ⟨E6, f6, rfl, _⟩ := hkm6.g
        unfold vsk
        have bb6 := bb5.trans (hb6.mono HT5.out)
        have HK1 := Lib.hid (hk1.mono HT5.out)
        have HK2 := Lib.hid (own_base hk2 HT5.out)
        have HK3 := Lib.hid (hkm6.mono HT5.out)
        replace V := Lib.hid (hkb6 _ _ V.out.lt V.out)
        clear hk1 hk2 hkm6 hb6 hkb6
        refine hK.out _ _ (HSS.out _ bb6) (fun hHeld => ?_)
        clear hK
        try simp only [Act.put, qq]
        refine qT 5 ?_; try simp only [Act.put, qq]
        refine qT 6 ?_; try simp only [Act.put, qq]
        refine qT 7 ?_; try simp only [Act.put, qq]
        refine qT 8 ?_; try simp only [Act.put, qq]
        obtain ⟨q0, q1, q2, q3, q4, q5⟩ := V.out.three
        refine wpAnyH_ready (rs := [10]) (by kernel_rfl) (by simp) ?_
        refine AllReadyH.cons rfl (fun K hK => ?_) AllReadyH.nil
        go_simp
        have HKP := Lib.hid (kept_put3 V.out (.int .i64 R.1.c) (.slice A6 R.1.ws.length c6) (.slice B6 R.1.ds.length d6))
        have bbE := below_put3 bb6 HV9.out (.int .i64 R.1.c) (.slice A6 R.1.ws.length c6) (.slice B6 R.1.ds.length d6)
        refine hK.out _ _ (HSS.out _ bbE) (fun hHeld => ?_)
        clear hK
        try simp only [Act.put, qq]
        refine qT 11 ?_; try simp only [Act.put, qq]
        refine qT 12 ?_; try simp only [Act.put, qq]
        refine wpAnyH_done (by kernel_rfl) ?_ _
        go_wp2_with fail
        go_meet
        case rel => exact ⟨p9, A6, _, c6, B6, d6, E6, _, f6, rfl, rfl, rfl, HV9.out, Box.put3 V.out (.int .i64 R.1.c) (.slice A6 R.1.ws.length c6) (.slice B6 R.1.ds.length d6), KO.kept HKP.out (by decide) (by decide) HK1.out, HKP.out.own HK2.out (by decide), KO.kept HKP.out (by decide) (by decide) HK3.out, bbE⟩
    · go_simp
      have bb2 : Below w3.heap.size w3 (ud.alloc (.cells #[.int .i64 0, .slice none 0 0, .slice none 0 0] 25)) := bmore bb1 ((Below.refl _ _).alloc (Nat.le_refl _) _) (Nat.le_refl _)
      have V := Lib.hid (Box.new ud 25 #[.int .i64 0, .slice none 0 0, .slice none 0 0])
      have HVW := Lib.hid (show Below ud.heap.size ud (ud.alloc (.cells #[.int .i64 0, .slice none 0 0, .slice none 0 0] 25)) from (Below.refl _ _).alloc (Nat.le_refl _) _)
      have HV9 := Lib.hid (show w3.heap.size ≤ ud.heap.size from bb1.size)
      refine hK.out _ _ (HSS.out _ bb2) (fun hHeld => ?_)
      clear hK
      try simp only [Act.put, qq]
      generalize ud.alloc (.cells #[.int .i64 0, .slice none 0 0, .slice none 0 0] 25) = w4 at V HVW bb2 hHeld ⊢
      obtain ⟨p9, hp9⟩ : ∃ p9, ud.heap.size = p9 := ⟨_, rfl⟩
      rw [hp9] at V HV9
      simp only [hp9]
      clear hp9
      refine wpAnyH_ready (rs := [1]) (by kernel_rfl) (by simp) ?_
      refine AllReadyH.cons rfl (fun K hK => ?_) AllReadyH.nil
      go_simp
      refine (KT1.out HM.out w4 (bmore HB2.out bb2 (Nat.le_refl _))).mono ?_
      rintro e w5 ⟨v4, rfl, hso, hb4⟩
      obtain ⟨vW, vD, rfl, hk1, hk2⟩ := id hso
      obtain ⟨A4, c4, rfl, _⟩ := hk1.g
      obtain ⟨B4, d4, rfl, _, _⟩ := own_form hk2
      unfold vsk
      simp only
      have bb4 := bmore bb2 hb4 (Nat.le_refl _)
      have HTB := Lib.hid (bmore HB2.out bb2 (Nat.le_refl _))
      have HT4 := Lib.hid hb4
      have HT5 := Lib.hid (show w3.heap.size ≤ w4.heap.size from bb2.size)
      have HSO := Lib.hid hso
      clear hso hk1 hk2
      replace V := Lib.hid (V.out.below hb4 V.out.lt)
      clear hb4
      refine hK.out _ _ (HSS.out _ bb4) (fun hHeld => ?_)
      clear hK
      try simp only [Act.put, qq]
      refine wpAnyH_ready (rs := [4]) (by kernel_rfl) (by simp) ?_
      refine AllReadyH.cons rfl (fun K hK => ?_) AllReadyH.nil
      go_simp
      refine (KP1.out HM.out w4 HTB.out _ w5 HT4.out HSO.out).mono ?_
      rintro e w6 ⟨v6, vm6, rfl, hso6, hkm6, hb6, hkb6⟩
      obtain ⟨vW6, vD6, rfl, hk1, hk2⟩ := hso6
      obtain ⟨A6, c6, rfl, _⟩ := hk1.g
      obtain ⟨B6, d6, rfl, _, _⟩ := own_form hk2
      obtain ⟨E6, f6, rfl, _⟩ := hkm6.g
      unfold vsk
      have bb6 := bb4.trans (hb6.mono HT5.out)
      have HK1 := Lib.hid (hk1.mono HT5.out)
      have HK2 := Lib.hid (own_base hk2 HT5.out)
      have HK3 := Lib.hid (hkm6.mono HT5.out)
      replace V := Lib.hid (hkb6 _ _ V.out.lt V.out)
      clear hk1 hk2 hkm6 hb6 hkb6
      refine hK.out _ _ (HSS.out _ bb6) (fun hHeld => ?_)
      clear hK
      try simp only [Act.put, qq]
      refine qT 5 ?_; try simp only [Act.put, qq]
      refine qT 6 ?_; try simp only [Act.put, qq]
      refine qT 7 ?_; try simp only [Act.put, qq]
      refine qT 8 ?_; try simp only [Act.put, qq]
      obtain ⟨q0, q1, q2, q3, q4, q5⟩ := V.out.three
      refine wpAnyH_ready (rs := [10]) (by kernel_rfl) (by simp) ?_
      refine AllReadyH.cons rfl (fun K hK => ?_) AllReadyH.nil
      go_simp
      have HKP := Lib.hid (kept_put3 V.out (.int .i64 R.1.c) (.slice A6 R.1.ws.length c6) (.slice B6 R.1.ds.length d6))
      have bbE := below_put3 bb6 HV9.out (.int .i64 R.1.c) (.slice A6 R.1.ws.length c6) (.slice B6 R.1.ds.length d6)
      refine hK.out _ _ (HSS.out _ bbE) (fun hHeld => ?_)
      clear hK
      try simp only [Act.put, qq]
      refine qT 11 ?_; try simp only [Act.put, qq]
      refine qT 12 ?_; try simp only [Act.put, qq]
      refine wpAnyH_done (by kernel_rfl) ?_ _
      go_wp2_with fail
      go_meet
      case rel => exact ⟨p9, A6, _, c6, B6, d6, E6, _, f6, rfl, rfl, rfl, HV9.out, Box.put3 V.out (.int .i64 R.1.c) (.slice A6 R.1.ws.length c6) (.slice B6 R.1.ds.length d6), KO.kept HKP.out (by decide) (by decide) HK1.out, HKP.out.own HK2.out (by decide), KO.kept HKP.out (by decide) (by decide) HK3.out, bbE⟩
  case rest =>
    obtain ⟨p9, A6, n6, c6, B6, d6, E6, m6, f6, rfl, rfl, rfl, hp9, hbx, hk1, hk2, hk3, hbe⟩ := hcut
    have HBX := Lib.hid hbx
    have HK1 := Lib.hid hk1
    have HK2 := Lib.hid hk2
    have HK3 := Lib.hid hk3
    have HB3 := Lib.hid (bmore HB2.out hbe (Nat.le_refl _))
    have HSZ := Lib.hid (show w.heap.size ≤ w3.heap.size from HB2.out.size)
    replace ZB := Lib.hid (ZB.out.below hbe ZB.out.lt)
    clear hp9 hbx hk1 hk2 hk3 hbe X Y KT1 KP1
    rcases hr2 : R.2.2 with _ | _
    · have HF := Lib.hid (show res = (KM.zero, [], 9) by rw [HRV.out, hr2]; rfl)
      clear hr2
      obtain ⟨z0, z1, z2, f0, f1, f2⟩ := ZB.out.three
      have ZP := Lib.hid (Box.put3 ZB.out (.int .i64 0) (.slice none 0 0) (.slice none 0 0))
      have ZL := Lib.hid (below_put3 HB3.out HP6.out (.int .i64 0) (.slice none 0 0) (.slice none 0 0))
      go_wp2_with fail
      obtain ⟨u0, u1, u2⟩ := box_sk ZP.out
      exact bodyPost_ret (v := .tuple #[.agg #[.int .i64 0, .slice none 0 0, .slice none 0 0], .slice none 0 0, .int .i64 9]) (by simp [results, Tryz.results8, go_sem, u0, u1, u2]; try rfl) rfl ⟨_, _, by rw [HF.out], by rw [HF.out]; exact skO_zero _ _, by rw [HF.out]; exact kO_nil KM_ _ _ _, ZL.out⟩
    have HF := Lib.hid (show res = (R.1, R.2.1, 0) by rw [HRV.out, hr2]; rfl)
    clear hr2
    obtain ⟨x0, x1, x2⟩ := box_sk HBX.out
    obtain ⟨z0, z1, z2, f0, f1, f2⟩ := ZB.out.three
    have ZP := Lib.hid (Box.put3 ZB.out (.int .i64 R.1.c) (.slice A6 n6 c6) (.slice B6 R.1.ds.length d6))
    have ZK := Lib.hid (kept_put3 ZB.out (.int .i64 R.1.c) (.slice A6 n6 c6) (.slice B6 R.1.ds.length d6))
    have ZL := Lib.hid (below_put3 HB3.out HP6.out (.int .i64 R.1.c) (.slice A6 n6 c6) (.slice B6 R.1.ds.length d6))
    go_wp2_with fail
    obtain ⟨u0, u1, u2⟩ := box_sk ZP.out
    exact bodyPost_ret (v := .tuple #[.agg #[.int .i64 R.1.c, .slice A6 n6 c6, .slice B6 R.1.ds.length d6], .slice E6 m6 f6, .int .i64 0]) (by simp [results, Tryz.results8, go_sem, u0, u1, u2]; try rfl) rfl ⟨_, _, by rw [HF.out], by rw [HF.out]; exact ⟨_, _, rfl, KO.mono (KO.kept ZK.out (by decide) (by decide) HK1.out) HSZ.out, own_base (ZK.out.own HK2.out (by decide)) HSZ.out⟩, by rw [HF.out]; exact KO.mono (KO.kept ZK.out (by decide) (by decide) HK3.out) HSZ.out, ZL.out⟩
end Go.Proofs.YtnpgjcapekopnaaGreat.KP
