/-
  The walk of CommandReads: the command of a text is the document's. Conditions: any text.
-/
import Derived.Test.YtojbcadkcikaoaaK23
import Derived.Test.YtojbcadkcikaoaaK14
import Derived.Deep.DeepCutAuto
namespace Go.Proofs.Ytojbcadkcikaoaa
open Go.RowKit CP
open CM (Mg Cm)
set_option linter.unusedVariables false
set_option linter.unusedSimpArgs false
set_option maxRecDepth 100000

set_option maxHeartbeats 8000000 in
theorem commandReads_walk (s : ByteArray) (w : World) (hS : s.size ≤ maxLen) :
    Calls Try.prog 5 #[.string s] w fun e w' => e = .returned (.bool true) ∧ Below w.heap.size w w' := by
  have HR := CM.readIs_read (RM.bsz s)
  obtain ⟨x, hx⟩ : ∃ x, x = (CM.readF (RM.bsz s)).1 := ⟨_, rfl⟩
  obtain ⟨y, hy⟩ : ∃ y, y = (CM.readF (RM.bsz s)).2 := ⟨_, rfl⟩
  rw [← hx, ← hy] at HR
  clear hx hy
  have CR := Lib.hid (fun W => pread_any s HR hS W)
  have CR2 := Lib.hid (fun W => read12_any s HR hS W)
  clear HR
  unfold maxLen at hS
  obtain ⟨k, ⟨mi, mg, mt, mk, mb⟩, aid, atm, ams, atp, awh, an⟩ := x
  by_cases l1 : 5000 < s.size
  · have l1i : (5000 : Int) < (s.size : Int) := by omega
    go_enter Try.func5, Try.ntmps5
    go_wp2_with fail
    go_ret
    exact ⟨rfl, Below.refl _ _⟩
  have l1i : (s.size : Int) ≤ (5000 : Int) := by omega
  have b1 : (y == y) = true := by simp
  go_enter Try.func5, Try.ntmps5
  go_wp2_with fail
  refine (CR.out _).mono ?_
  rintro e1 w2 ⟨v2, rfl, ⟨A, c, P, q, rfl, r1, r3⟩, hb⟩
  clear CR
  simp only at r1 r3
  have hb2 : Below w2.heap.size w2 (w2.alloc (.cells #[.int .u8 k, .int .i64 mi, .slice A mg.length c, .int .i64 mt, .string mk, .string mb, .int .i64 aid, .int .i64 atm, .slice P ams.length q, .int .i64 atp, .int .i64 awh, .int .i64 an] 27)) := (Below.refl _ _).alloc (Nat.le_refl _) _
  have HB := Lib.hid (bmore hb hb2 (Nat.le_refl _))
  have R := Lib.hid (Box.new w2 27 #[.int .u8 k, .int .i64 mi, .slice A mg.length c, .int .i64 mt, .string mk, .string mb, .int .i64 aid, .int .i64 atm, .slice P ams.length q, .int .i64 atp, .int .i64 awh, .int .i64 an])
  have HIS := Lib.hid (show CmIs (w2.alloc (.cells #[.int .u8 k, .int .i64 mi, .slice A mg.length c, .int .i64 mt, .string mk, .string mb, .int .i64 aid, .int .i64 atm, .slice P ams.length q, .int .i64 atp, .int .i64 awh, .int .i64 an] 27)) (.agg #[.int .u8 k, .int .i64 mi, .slice A mg.length c, .int .i64 mt, .string mk, .string mb, .int .i64 aid, .int .i64 atm, .slice P ams.length q, .int .i64 atp, .int .i64 awh, .int .i64 an]) ⟨k, ⟨mi, mg, mt, mk, mb⟩, aid, atm, ams, atp, awh, an⟩ from ⟨A, c, P, q, rfl, r1.below hb2, r3.below hb2⟩)
  clear hb hb2 r1 r3
  unfold ccells
  go_upto_region 4 with (fail)
  generalize w2.alloc (.cells #[.int .u8 k, .int .i64 mi, .slice A mg.length c, .int .i64 mt, .string mk, .string mb, .int .i64 aid, .int .i64 atm, .slice P ams.length q, .int .i64 atp, .int .i64 awh, .int .i64 an] 27) = w3 at HB R HIS ⊢
  generalize w2.heap.size = g at R ⊢
  go_wp2_with fail
  refine (CR2.out _).mono ?_
  rintro e1 w4 ⟨v2, rfl, ⟨B, d, S, u, rfl, r1, r3⟩, hb⟩
  clear CR2
  simp only at r1 r3
  have hb2 : Below w4.heap.size w4 (w4.alloc (.cells #[.int .u8 k, .int .i64 mi, .slice B mg.length d, .int .i64 mt, .string mk, .string mb, .int .i64 aid, .int .i64 atm, .slice S ams.length u, .int .i64 atp, .int .i64 awh, .int .i64 an] 27)) := (Below.refl _ _).alloc (Nat.le_refl _) _
  have hb3 := bmore hb hb2 (Nat.le_refl _)
  replace HB := Lib.hid (bmore HB.out hb3 (Nat.le_refl _))
  replace R := Lib.hid (R.out.below hb3 R.out.lt)
  replace HIS := Lib.hid (HIS.out.below hb3)
  have Y := Lib.hid (Box.new w4 27 #[.int .u8 k, .int .i64 mi, .slice B mg.length d, .int .i64 mt, .string mk, .string mb, .int .i64 aid, .int .i64 atm, .slice S ams.length u, .int .i64 atp, .int .i64 awh, .int .i64 an])
  have HIY := Lib.hid (show CmIs (w4.alloc (.cells #[.int .u8 k, .int .i64 mi, .slice B mg.length d, .int .i64 mt, .string mk, .string mb, .int .i64 aid, .int .i64 atm, .slice S ams.length u, .int .i64 atp, .int .i64 awh, .int .i64 an] 27)) (.agg #[.int .u8 k, .int .i64 mi, .slice B mg.length d, .int .i64 mt, .string mk, .string mb, .int .i64 aid, .int .i64 atm, .slice S ams.length u, .int .i64 atp, .int .i64 awh, .int .i64 an]) ⟨k, ⟨mi, mg, mt, mk, mb⟩, aid, atm, ams, atp, awh, an⟩ from ⟨B, d, S, u, rfl, r1.below hb2, r3.below hb2⟩)
  clear hb hb2 hb3 r1 r3
  unfold ccells
  go_upto_region 5 with (fail)
  generalize w4.alloc (.cells #[.int .u8 k, .int .i64 mi, .slice B mg.length d, .int .i64 mt, .string mk, .string mb, .int .i64 aid, .int .i64 atm, .slice S ams.length u, .int .i64 atp, .int .i64 awh, .int .i64 an] 27) = w5 at HB R HIS Y HIY ⊢
  generalize w4.heap.size = h at Y ⊢
  obtain ⟨x0, x1, x2, x3, x4, x5, x6, x7, x8, x9, x10, x11⟩ := box_cm R.out
  obtain ⟨y0, y1, y2, y3, y4, y5, y6, y7, y8, y9, y10, y11⟩ := box_cm Y.out
  go_wp2_with fail
  clear x0 x1 x2 x3 x4 x5 x6 x7 x8 x9 x10 x11
  clear y0 y1 y2 y3 y4 y5 y6 y7 y8 y9 y10 y11
  refine (same12_any ⟨k, ⟨mi, mg, mt, mk, mb⟩, aid, atm, ams, atp, awh, an⟩ ⟨k, ⟨mi, mg, mt, mk, mb⟩, aid, atm, ams, atp, awh, an⟩ _ _ _ HIS.out HIY.out).mono ?_
  rintro e1 w6 ⟨rfl, hb⟩
  replace HB := Lib.hid (bmore HB.out hb (Nat.le_refl _))
  clear hb HIY Y R HIS
  rw [decide_eq_true rfl]
  go_wp2_with fail
  go_ret
  exact ⟨rfl, HB.out⟩
end Go.Proofs.Ytojbcadkcikaoaa
