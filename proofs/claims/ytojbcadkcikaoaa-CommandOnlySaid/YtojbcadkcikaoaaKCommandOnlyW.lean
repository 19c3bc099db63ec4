/-
  The walk of CommandOnly: what is read as a command is what is written of it. Conditions: any text.
-/
import Derived.Test.YtojbcadkcikaoaaK13
import Derived.Test.YtojbcadkcikaoaaK14
import Derived.Deep.DeepCutAuto
namespace Go.Proofs.Ytojbcadkcikaoaa
open Go.RowKit CP
open CM (Mg Cm)
set_option linter.unusedVariables false
set_option linter.unusedSimpArgs false
set_option maxRecDepth 100000

set_option maxHeartbeats 8000000 in
theorem commandOnly_walk (s : ByteArray) (w : World) (hS : s.size ≤ maxLen) :
    Calls Try.prog 7 #[.string s] w fun e w' => e = .returned (.bool true) ∧ Below w.heap.size w w' := by
  have HR := Lib.hid (CM.readIs_read (RM.bsz s))
  obtain ⟨x, hx⟩ : ∃ x, x = (CM.readF (RM.bsz s)).1 := ⟨_, rfl⟩
  obtain ⟨y, hy⟩ : ∃ y, y = (CM.readF (RM.bsz s)).2 := ⟨_, rfl⟩
  rw [← hx, ← hy] at HR
  clear hx hy
  have CR := Lib.hid (fun W => pread_any s HR.out hS W)
  unfold maxLen at hS
  obtain ⟨k, ⟨mi, mg, mt, mk, mb⟩, aid, atm, ams, atp, awh, an⟩ := x
  go_enter Try.func7, Try.ntmps7
  go_wp2_with fail
  refine (alive_any _).mono ?_
  rintro e1 w1 ⟨rfl, hb⟩
  have HB := Lib.hid hb
  clear hb
  by_cases l1 : 5000 < s.size
  · have l1i : (5000 : Int) < (s.size : Int) := by omega
    go_wp2_with fail
    go_ret
    exact ⟨rfl, HB.out⟩
  have l1i : (s.size : Int) ≤ (5000 : Int) := by omega
  go_wp2_with fail
  refine (CR.out _).mono ?_
  rintro e1 w2 ⟨v2, rfl, ⟨A, c, P, q, rfl, r1, r3⟩, hb⟩
  clear CR
  have HB4 := Lib.hid (bmore HB.out hb (Nat.le_refl _))
  simp only at r1 r3
  have hb2 : Below w2.heap.size w2 (w2.alloc (.cells #[.int .u8 k, .int .i64 mi, .slice A mg.length c, .int .i64 mt, .string mk, .string mb, .int .i64 aid, .int .i64 atm, .slice P ams.length q, .int .i64 atp, .int .i64 awh, .int .i64 an] 27)) := (Below.refl _ _).alloc (Nat.le_refl _) _
  replace HB := Lib.hid (bmore HB4.out hb2 (Nat.le_refl _))
  have R := Lib.hid (Box.new w2 27 #[.int .u8 k, .int .i64 mi, .slice A mg.length c, .int .i64 mt, .string mk, .string mb, .int .i64 aid, .int .i64 atm, .slice P ams.length q, .int .i64 atp, .int .i64 awh, .int .i64 an])
  have HIS := Lib.hid (show CmIs (w2.alloc (.cells #[.int .u8 k, .int .i64 mi, .slice A mg.length c, .int .i64 mt, .string mk, .string mb, .int .i64 aid, .int .i64 atm, .slice P ams.length q, .int .i64 atp, .int .i64 awh, .int .i64 an] 27)) (.agg #[.int .u8 k, .int .i64 mi, .slice A mg.length c, .int .i64 mt, .string mk, .string mb, .int .i64 aid, .int .i64 atm, .slice P ams.length q, .int .i64 atp, .int .i64 awh, .int .i64 an]) ⟨k, ⟨mi, mg, mt, mk, mb⟩, aid, atm, ams, atp, awh, an⟩ from ⟨A, c, P, q, rfl, r1.below hb2, r3.below hb2⟩)
  clear hb hb2 r1 r3 HB4
  unfold ccells
  go_upto_region 5 with (fail)
  generalize w2.alloc (.cells #[.int .u8 k, .int .i64 mi, .slice A mg.length c, .int .i64 mt, .string mk, .string mb, .int .i64 aid, .int .i64 atm, .slice P ams.length q, .int .i64 atp, .int .i64 awh, .int .i64 an] 27) = w5 at HB R HIS ⊢
  generalize w2.heap.size = g at R ⊢
  obtain ⟨x0, x1, x2, x3, x4, x5, x6, x7, x8, x9, x10, x11⟩ := box_cm R.out
  rcases HR.out with ⟨rfl, hm, hw⟩ | ⟨rfl, hz, _⟩ | ⟨rfl, hz, _⟩
  · have hfit : CmFit ⟨k, ⟨mi, mg, mt, mk, mb⟩, aid, atm, ams, atp, awh, an⟩ := by
      have := fr_fit (RM.bsz s)
      rw [← hw, fr_wr hm] at this
      exact this
    have CW := Lib.hid (pwrite_any ⟨k, ⟨mi, mg, mt, mk, mb⟩, aid, atm, ams, atp, awh, an⟩ _ _ HIS.out hfit)
    unfold WrIs at CW
    rw [if_pos hm, if_pos hm, hw, RM.mk_bsz] at CW
    have b1 : (s.toList == s.toList) = true := by simp
    clear hm hw hfit HR
    go_wp2_with fail
    clear x0 x1 x2 x3 x4 x5 x6 x7 x8 x9 x10 x11
    refine (CW.out).mono ?_
    rintro e1 w6 ⟨rfl, hb⟩
    replace HB := Lib.hid (bmore HB.out hb (Nat.le_refl _))
    clear hb CW
    go_wp2_with fail
    go_ret
    exact ⟨rfl, HB.out⟩
  all_goals
    have CS := Lib.hid (same12_any ⟨k, ⟨mi, mg, mt, mk, mb⟩, aid, atm, ams, atp, awh, an⟩ CM.zero _ _ _ HIS.out (zero_is w5))
    rw [decide_eq_true hz] at CS
    clear hz HR
    go_wp2_with fail
    clear x0 x1 x2 x3 x4 x5 x6 x7 x8 x9 x10 x11
    refine (CS.out).mono ?_
    rintro e1 w6 ⟨rfl, hb⟩
    replace HB := Lib.hid (bmore HB.out hb (Nat.le_refl _))
    clear hb CS
    go_wp2_with fail
    go_ret
    exact ⟨rfl, HB.out⟩
end Go.Proofs.Ytojbcadkcikaoaa
