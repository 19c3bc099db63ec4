/-
  The walk of CommandWrites: commands are checked, written and compared as the document's own functions do. Conditions: any two commands.
-/
import Derived.Test.YtojbcadkcikaoaaK13
import Derived.Test.YtojbcadkcikaoaaK14
import Derived.Test.YtojbcadkcikaoaaK24
import Derived.Test.YtojbcadkcikaoaaK25
import Derived.Test.YtojbcadkcikaoaaK26
import Derived.Test.YtojbcadkcikaoaaK01
import Derived.Deep.RegionHeld3
import Derived.Deep.DeepCutAuto
namespace Go.Proofs.Ytojbcadkcikaoaa
open Go.RowKit CP
open CM (Mg Cm)
set_option linter.unusedVariables false
set_option linter.unusedSimpArgs false
set_option maxRecDepth 100000

set_option maxHeartbeats 3000000 in
theorem commandWrites_walk (v0 : Value) (x0 : Cm) (v1 : Value) (x1 : Cm) (w : World) (hv0 : CmArg w v0 x0) (hv1 : CmArg w v1 x1) :
    Calls Try.prog 4 #[v0, v1] w fun e w' => e = .returned (.bool true) ∧ Below w.heap.size w w' := by
  obtain ⟨⟨A, c, P, q, rfl, r1, r3⟩, hf⟩ := hv0
  obtain ⟨⟨B, d, S5, u5, rfl, s1, s3⟩, hf2⟩ := hv1
  obtain ⟨k, ⟨mi, mg, mt, mk, mb⟩, aid, atm, ams, atp, awh, an⟩ := x0
  obtain ⟨k2, ⟨mi2, mg2, mt2, mk2, mb2⟩, aid2, atm2, ams2, atp2, awh2, an2⟩ := x1
  simp only at r1 r3 s1 s3
  have HI1 := Lib.hid (fun W (hb : Below w.heap.size w W) => (show CmIs W (.agg #[.int .u8 k, .int .i64 mi, .slice A mg.length c, .int .i64 mt, .string mk, .string mb, .int .i64 aid, .int .i64 atm, .slice P ams.length q, .int .i64 atp, .int .i64 awh, .int .i64 an]) ⟨k, ⟨mi, mg, mt, mk, mb⟩, aid, atm, ams, atp, awh, an⟩ from ⟨A, c, P, q, rfl, r1.below hb, r3.below hb⟩))
  have HI2 := Lib.hid (fun W (hb : Below w.heap.size w W) => (show CmIs W (.agg #[.int .u8 k2, .int .i64 mi2, .slice B mg2.length d, .int .i64 mt2, .string mk2, .string mb2, .int .i64 aid2, .int .i64 atm2, .slice S5 ams2.length u5, .int .i64 atp2, .int .i64 awh2, .int .i64 an2]) ⟨k2, ⟨mi2, mg2, mt2, mk2, mb2⟩, aid2, atm2, ams2, atp2, awh2, an2⟩ from ⟨B, d, S5, u5, rfl, s1.below hb, s3.below hb⟩))
  have HM1 := Lib.hid (fun W (hb : Below w.heap.size w W) => (show MgIs W (.agg #[.int .i64 mi, .slice A mg.length c, .int .i64 mt, .string mk, .string mb]) ⟨mi, mg, mt, mk, mb⟩ from ⟨A, c, rfl, r1.below hb⟩))
  have HM2 := Lib.hid (fun W (hb : Below w.heap.size w W) => (show MgIs W (.agg #[.int .i64 mi2, .slice B mg2.length d, .int .i64 mt2, .string mk2, .string mb2]) ⟨mi2, mg2, mt2, mk2, mb2⟩ from ⟨B, d, rfl, s1.below hb⟩))
  have HF := Lib.hid hf
  have HF2 := Lib.hid hf2
  have hb0 : Below w.heap.size w ((w.alloc (.cells #[.int .u8 k, .int .i64 mi, .slice A mg.length c, .int .i64 mt, .string mk, .string mb, .int .i64 aid, .int .i64 atm, .slice P ams.length q, .int .i64 atp, .int .i64 awh, .int .i64 an] 27)).alloc (.cells #[.int .u8 k2, .int .i64 mi2, .slice B mg2.length d, .int .i64 mt2, .string mk2, .string mb2, .int .i64 aid2, .int .i64 atm2, .slice S5 ams2.length u5, .int .i64 atp2, .int .i64 awh2, .int .i64 an2] 27)) := ((Below.refl _ _).alloc (Nat.le_refl _) _).alloc (by simp) _
  have HB := Lib.hid hb0
  have R0 := Lib.hid (show Box ((w.alloc (.cells #[.int .u8 k, .int .i64 mi, .slice A mg.length c, .int .i64 mt, .string mk, .string mb, .int .i64 aid, .int .i64 atm, .slice P ams.length q, .int .i64 atp, .int .i64 awh, .int .i64 an] 27)).alloc (.cells #[.int .u8 k2, .int .i64 mi2, .slice B mg2.length d, .int .i64 mt2, .string mk2, .string mb2, .int .i64 aid2, .int .i64 atm2, .slice S5 ams2.length u5, .int .i64 atp2, .int .i64 awh2, .int .i64 an2] 27)) w.heap.size 27 #[.int .u8 k, .int .i64 mi, .slice A mg.length c, .int .i64 mt, .string mk, .string mb, .int .i64 aid, .int .i64 atm, .slice P ams.length q, .int .i64 atp, .int .i64 awh, .int .i64 an] from (Box.new _ _ _).alloc _)
  have R1 := Lib.hid (show Box ((w.alloc (.cells #[.int .u8 k, .int .i64 mi, .slice A mg.length c, .int .i64 mt, .string mk, .string mb, .int .i64 aid, .int .i64 atm, .slice P ams.length q, .int .i64 atp, .int .i64 awh, .int .i64 an] 27)).alloc (.cells #[.int .u8 k2, .int .i64 mi2, .slice B mg2.length d, .int .i64 mt2, .string mk2, .string mb2, .int .i64 aid2, .int .i64 atm2, .slice S5 ams2.length u5, .int .i64 atp2, .int .i64 awh2, .int .i64 an2] 27)) (w.heap.size + 1) 27 #[.int .u8 k2, .int .i64 mi2, .slice B mg2.length d, .int .i64 mt2, .string mk2, .string mb2, .int .i64 aid2, .int .i64 atm2, .slice S5 ams2.length u5, .int .i64 atp2, .int .i64 awh2, .int .i64 an2] from Box.new_at _ (by simp))
  clear r1 r3 s1 s3 hf hf2 hb0
  show Calls _ _ #[.agg #[.int .u8 k, .int .i64 mi, .slice A mg.length c, .int .i64 mt, .string mk, .string mb, .int .i64 aid, .int .i64 atm, .slice P ams.length q, .int .i64 atp, .int .i64 awh, .int .i64 an], .agg #[.int .u8 k2, .int .i64 mi2, .slice B mg2.length d, .int .i64 mt2, .string mk2, .string mb2, .int .i64 aid2, .int .i64 atm2, .slice S5 ams2.length u5, .int .i64 atp2, .int .i64 awh2, .int .i64 an2]] _ _
  go_enter Try.func4, Try.ntmps4
  go_upto_region 1 with (fail)
  generalize (w.alloc (.cells #[.int .u8 k, .int .i64 mi, .slice A mg.length c, .int .i64 mt, .string mk, .string mb, .int .i64 aid, .int .i64 atm, .slice P ams.length q, .int .i64 atp, .int .i64 awh, .int .i64 an] 27)).alloc (.cells #[.int .u8 k2, .int .i64 mi2, .slice B mg2.length d, .int .i64 mt2, .string mk2, .string mb2, .int .i64 aid2, .int .i64 atm2, .slice S5 ams2.length u5, .int .i64 atp2, .int .i64 awh2, .int .i64 an2] 27) = w1 at HB R0 R1 ⊢
  generalize w.heap.size + 1 = p1 at R1 ⊢
  obtain ⟨p0, hp0⟩ : ∃ p0, p0 = w.heap.size := ⟨_, rfl⟩
  have HP0 := Lib.hid hp0
  have R0' := Lib.hid (show Box w1 p0 27 #[.int .u8 k, .int .i64 mi, .slice A mg.length c, .int .i64 mt, .string mk, .string mb, .int .i64 aid, .int .i64 atm, .slice P ams.length q, .int .i64 atp, .int .i64 awh, .int .i64 an] by rw [hp0]; exact R0.out)
  simp only [← hp0]
  clear hp0 R0
  obtain ⟨x0, x1, x2, x3, x4, x5, x6, x7, x8, x9, x10, x11⟩ := box_cm R0'.out
  go_wp2_with fail
  clear x0 x1 x2 x3 x4 x5 x6 x7 x8 x9 x10 x11
  refine (great12_any ⟨k, ⟨mi, mg, mt, mk, mb⟩, aid, atm, ams, atp, awh, an⟩ _ _ (HI1.out _ HB.out) HF.out).mono ?_
  rintro e1 w2 ⟨rfl, hb⟩
  replace HB := Lib.hid (bmore HB.out hb (Nat.le_refl _))
  replace R0' := Lib.hid (R0'.out.below hb R0'.out.lt)
  replace R1 := Lib.hid (R1.out.below hb R1.out.lt)
  clear hb
  by_cases hg : Little ⟨k, ⟨mi, mg, mt, mk, mb⟩, aid, atm, ams, atp, awh, an⟩
  rotate_left
  · rw [decide_eq_true hg]
    clear hg
    go_wp2_with fail
    go_ret
    exact ⟨rfl, HB.out⟩
  rw [show decide (¬ Little ⟨k, ⟨mi, mg, mt, mk, mb⟩, aid, atm, ams, atp, awh, an⟩) = false by simp [hg]]
  have HL := Lib.hid hg
  clear hg
  obtain ⟨x0, x1, x2, x3, x4, x5, x6, x7, x8, x9, x10, x11⟩ := box_cm R1.out
  go_wp2_with fail
  clear x0 x1 x2 x3 x4 x5 x6 x7 x8 x9 x10 x11
  refine (great12_any ⟨k2, ⟨mi2, mg2, mt2, mk2, mb2⟩, aid2, atm2, ams2, atp2, awh2, an2⟩ _ _ (HI2.out _ HB.out) HF2.out).mono ?_
  rintro e1 w3 ⟨rfl, hb⟩
  replace HB := Lib.hid (bmore HB.out hb (Nat.le_refl _))
  replace R0' := Lib.hid (R0'.out.below hb R0'.out.lt)
  replace R1 := Lib.hid (R1.out.below hb R1.out.lt)
  clear hb
  by_cases hg : Little ⟨k2, ⟨mi2, mg2, mt2, mk2, mb2⟩, aid2, atm2, ams2, atp2, awh2, an2⟩
  rotate_left
  · rw [decide_eq_true hg]
    clear hg
    go_wp2_with fail
    go_ret
    exact ⟨rfl, HB.out⟩
  rw [show decide (¬ Little ⟨k2, ⟨mi2, mg2, mt2, mk2, mb2⟩, aid2, atm2, ams2, atp2, awh2, an2⟩) = false by simp [hg]]
  clear hg
  obtain ⟨x0, x1, x2, x3, x4, x5, x6, x7, x8, x9, x10, x11⟩ := box_cm R0'.out
  go_wp2_with fail
  clear x0 x1 x2 x3 x4 x5 x6 x7 x8 x9 x10 x11
  refine (twin12_any ⟨k, ⟨mi, mg, mt, mk, mb⟩, aid, atm, ams, atp, awh, an⟩ _ _ (HI1.out _ HB.out) (by have := HL.out.1; omega) (by have := HL.out.2.1; omega)).mono ?_
  rintro e1 w4 ⟨v2, rfl, ⟨A3, c3, P3, q3, rfl, r1, r3⟩, hb⟩
  simp only at r1 r3
  have hb2 : Below w4.heap.size w4 (w4.alloc (.cells #[.int .u8 k, .int .i64 mi, .slice A3 mg.length c3, .int .i64 mt, .string mk, .string mb, .int .i64 aid, .int .i64 atm, .slice P3 ams.length q3, .int .i64 atp, .int .i64 awh, .int .i64 an] 27)) := (Below.refl _ _).alloc (Nat.le_refl _) _
  have hb3 := bmore hb hb2 (Nat.le_refl _)
  replace HB := Lib.hid (bmore HB.out hb3 (Nat.le_refl _))
  replace R0' := Lib.hid (R0'.out.below hb3 R0'.out.lt)
  replace R1 := Lib.hid (R1.out.below hb3 R1.out.lt)
  have R2 := Lib.hid (Box.new w4 27 #[.int .u8 k, .int .i64 mi, .slice A3 mg.length c3, .int .i64 mt, .string mk, .string mb, .int .i64 aid, .int .i64 atm, .slice P3 ams.length q3, .int .i64 atp, .int .i64 awh, .int .i64 an])
  have HI3 := Lib.hid (fun W (hW : Below (w4.alloc (.cells #[.int .u8 k, .int .i64 mi, .slice A3 mg.length c3, .int .i64 mt, .string mk, .string mb, .int .i64 aid, .int .i64 atm, .slice P3 ams.length q3, .int .i64 atp, .int .i64 awh, .int .i64 an] 27)).heap.size (w4.alloc (.cells #[.int .u8 k, .int .i64 mi, .slice A3 mg.length c3, .int .i64 mt, .string mk, .string mb, .int .i64 aid, .int .i64 atm, .slice P3 ams.length q3, .int .i64 atp, .int .i64 awh, .int .i64 an] 27)) W) => (show CmIs W (.agg #[.int .u8 k, .int .i64 mi, .slice A3 mg.length c3, .int .i64 mt, .string mk, .string mb, .int .i64 aid, .int .i64 atm, .slice P3 ams.length q3, .int .i64 atp, .int .i64 awh, .int .i64 an]) ⟨k, ⟨mi, mg, mt, mk, mb⟩, aid, atm, ams, atp, awh, an⟩ from ⟨A3, c3, P3, q3, rfl, (r1.below hb2).below hW, (r3.below hb2).below hW⟩))
  have HM3 := Lib.hid (fun W (hW : Below (w4.alloc (.cells #[.int .u8 k, .int .i64 mi, .slice A3 mg.length c3, .int .i64 mt, .string mk, .string mb, .int .i64 aid, .int .i64 atm, .slice P3 ams.length q3, .int .i64 atp, .int .i64 awh, .int .i64 an] 27)).heap.size (w4.alloc (.cells #[.int .u8 k, .int .i64 mi, .slice A3 mg.length c3, .int .i64 mt, .string mk, .string mb, .int .i64 aid, .int .i64 atm, .slice P3 ams.length q3, .int .i64 atp, .int .i64 awh, .int .i64 an] 27)) W) => (show MgIs W (.agg #[.int .i64 mi, .slice A3 mg.length c3, .int .i64 mt, .string mk, .string mb]) ⟨mi, mg, mt, mk, mb⟩ from ⟨A3, c3, rfl, (r1.below hb2).below hW⟩))
  clear hb hb2 hb3 r1 r3 HL
  unfold ccells
  go_upto_region 4 with (fail)
  generalize w4.alloc (.cells #[.int .u8 k, .int .i64 mi, .slice A3 mg.length c3, .int .i64 mt, .string mk, .string mb, .int .i64 aid, .int .i64 atm, .slice P3 ams.length q3, .int .i64 atp, .int .i64 awh, .int .i64 an] 27) = w5 at HB R0' R1 R2 HI3 HM3 ⊢
  generalize w4.heap.size = p2 at R2 ⊢
  have HL5 := Lib.hid (Below.refl w5.heap.size w5)
  obtain ⟨t, ht⟩ : ∃ t : ByteArray, t = (if CM.may ⟨k, ⟨mi, mg, mt, mk, mb⟩, aid, atm, ams, atp, awh, an⟩ then (⟨(CM.wr ⟨k, ⟨mi, mg, mt, mk, mb⟩, aid, atm, ams, atp, awh, an⟩).toArray⟩ : ByteArray) else .empty) := ⟨_, rfl⟩
  obtain ⟨y, hy⟩ : ∃ y : Int, y = (if CM.may ⟨k, ⟨mi, mg, mt, mk, mb⟩, aid, atm, ams, atp, awh, an⟩ then (0 : Int) else 120) := ⟨_, rfl⟩
  have KW := Lib.hid (fun W (hW : Below w5.heap.size w5 W) => pwrite_any ⟨k, ⟨mi, mg, mt, mk, mb⟩, aid, atm, ams, atp, awh, an⟩ _ W (HI3.out W hW) HF.out)
  have KW2 := Lib.hid (fun W (hW : Below w.heap.size w W) => write12_any ⟨k, ⟨mi, mg, mt, mk, mb⟩, aid, atm, ams, atp, awh, an⟩ _ W (HI1.out W hW) HF.out)
  unfold WrIs at KW KW2
  rw [← ht, ← hy] at KW KW2
  clear ht hy
  obtain ⟨x0, x1, x2, x3, x4, x5, x6, x7, x8, x9, x10, x11⟩ := box_cm R2.out
  go_wp2_with fail
  clear x0 x1 x2 x3 x4 x5 x6 x7 x8 x9 x10 x11
  refine (KW.out _ HL5.out).mono ?_
  rintro e1 w6 ⟨rfl, hb⟩
  replace HB := Lib.hid (bmore HB.out hb (Nat.le_refl _))
  replace HL5 := Lib.hid (bmore HL5.out hb (Nat.le_refl _))
  replace R0' := Lib.hid (R0'.out.below hb R0'.out.lt)
  replace R1 := Lib.hid (R1.out.below hb R1.out.lt)
  replace R2 := Lib.hid (R2.out.below hb R2.out.lt)
  clear hb
  obtain ⟨x0, x1, x2, x3, x4, x5, x6, x7, x8, x9, x10, x11⟩ := box_cm R0'.out
  go_wp2_with fail
  clear x0 x1 x2 x3 x4 x5 x6 x7 x8 x9 x10 x11
  refine (KW2.out _ HB.out).mono ?_
  rintro e1 w7 ⟨rfl, hb⟩
  replace HB := Lib.hid (bmore HB.out hb (Nat.le_refl _))
  replace HL5 := Lib.hid (bmore HL5.out hb (Nat.le_refl _))
  replace R0' := Lib.hid (R0'.out.below hb R0'.out.lt)
  replace R1 := Lib.hid (R1.out.below hb R1.out.lt)
  replace R2 := Lib.hid (R2.out.below hb R2.out.lt)
  clear hb
  clear KW KW2
  have bt : (t.toList == t.toList) = true := by simp
  have by_ : (y == y) = true := by simp
  go_upto_region 6 with (fail)
  -- region 6
  obtain ⟨yc, hyc⟩ : ∃ yc, yc = (if CM.may ⟨k, ⟨mi, mg, mt, mk, mb⟩, aid, atm, ams, atp, awh, an⟩ then (0 : Int) else 120) := ⟨_, rfl⟩
  obtain ⟨ym, hym⟩ : ∃ ym, ym = (if CM.mgOk ⟨mi, mg, mt, mk, mb⟩ then (0 : Int) else 120) := ⟨_, rfl⟩
  have bc_ : (yc == yc) = true := by simp
  have bm_ : (ym == ym) = true := by simp
  obtain ⟨u, hu⟩ : ∃ u, u = w7 := ⟨_, rfl⟩
  rw [← hu] at HB HL5 R0' R1 R2 ⊢
  clear hu
  have KA := Lib.hid (fun W (hW : Below u.heap.size u W) => pcheck_any ⟨k, ⟨mi, mg, mt, mk, mb⟩, aid, atm, ams, atp, awh, an⟩ _ W (HI3.out W (bmore HL5.out hW (Nat.le_refl _))) HF.out)
  have KB := Lib.hid (fun W (hW : Below u.heap.size u W) => check12_any ⟨k, ⟨mi, mg, mt, mk, mb⟩, aid, atm, ams, atp, awh, an⟩ _ W (HI1.out W (bmore HB.out hW (Nat.le_refl _))) HF.out)
  have KC := Lib.hid (fun W (hW : Below u.heap.size u W) => pcheckMg_any ⟨mi, mg, mt, mk, mb⟩ _ W (HM3.out W (bmore HL5.out hW (Nat.le_refl _))) HF.out.2.1)
  have KD := Lib.hid (fun W (hW : Below u.heap.size u W) => checkMessage12_any ⟨mi, mg, mt, mk, mb⟩ _ W (HM1.out W (bmore HB.out hW (Nat.le_refl _))) HF.out.2.1)
  rw [← hyc] at KA KB
  rw [← hym] at KC KD
  clear hyc hym
  have HU := Lib.hid HB.out
  go_cut [10] (fun x wx => x = .bool true ∧ Below u.heap.size u wx)
  case first => as_aux_lemma =>
    have HSS : Hid (∀ w', Below u.heap.size u w' → (w'.cell? ⟨p0, 0, none⟩ = some (.int .u8 k) ∧ w'.cell? ⟨p0, 1, none⟩ = some (.int .i64 mi) ∧ w'.cell? ⟨p0, 2, none⟩ = some (.slice A mg.length c) ∧ w'.cell? ⟨p0, 3, none⟩ = some (.int .i64 mt) ∧ w'.cell? ⟨p0, 4, none⟩ = some (.string mk) ∧ w'.cell? ⟨p0, 5, none⟩ = some (.string mb) ∧ w'.cell? ⟨p0, 6, none⟩ = some (.int .i64 aid) ∧ w'.cell? ⟨p0, 7, none⟩ = some (.int .i64 atm) ∧ w'.cell? ⟨p0, 8, none⟩ = some (.slice P ams.length q) ∧ w'.cell? ⟨p0, 9, none⟩ = some (.int .i64 atp) ∧ w'.cell? ⟨p0, 10, none⟩ = some (.int .i64 awh) ∧ w'.cell? ⟨p0, 11, none⟩ = some (.int .i64 an)) ∧ (w'.cell? ⟨p2, 0, none⟩ = some (.int .u8 k) ∧ w'.cell? ⟨p2, 1, none⟩ = some (.int .i64 mi) ∧ w'.cell? ⟨p2, 2, none⟩ = some (.slice A3 mg.length c3) ∧ w'.cell? ⟨p2, 3, none⟩ = some (.int .i64 mt) ∧ w'.cell? ⟨p2, 4, none⟩ = some (.string mk) ∧ w'.cell? ⟨p2, 5, none⟩ = some (.string mb) ∧ w'.cell? ⟨p2, 6, none⟩ = some (.int .i64 aid) ∧ w'.cell? ⟨p2, 7, none⟩ = some (.int .i64 atm) ∧ w'.cell? ⟨p2, 8, none⟩ = some (.slice P3 ams.length q3) ∧ w'.cell? ⟨p2, 9, none⟩ = some (.int .i64 atp) ∧ w'.cell? ⟨p2, 10, none⟩ = some (.int .i64 awh) ∧ w'.cell? ⟨p2, 11, none⟩ = some (.int .i64 an))) := Lib.hid (fun w' hb => ⟨box_cm (R0'.out.below hb R0'.out.lt), box_cm (R2.out.below hb R2.out.lt)⟩)
    clear HI1 HI2 HM1 HM2 HI3 HM3 HB HL5 R0' R1 R2 HF HF2 HP0 HU
    have HB := Lib.hid (show Below u.heap.size u u.drew from (Below.refl _ _).drew)
    obtain ⟨ud, hud⟩ : ∃ ud, ud = u.drew := ⟨_, rfl⟩
    refine wp_region_held_drew (S := fun w' => (w'.cell? ⟨p0, 0, none⟩ = some (.int .u8 k) ∧ w'.cell? ⟨p0, 1, none⟩ = some (.int .i64 mi) ∧ w'.cell? ⟨p0, 2, none⟩ = some (.slice A mg.length c) ∧ w'.cell? ⟨p0, 3, none⟩ = some (.int .i64 mt) ∧ w'.cell? ⟨p0, 4, none⟩ = some (.string mk) ∧ w'.cell? ⟨p0, 5, none⟩ = some (.string mb) ∧ w'.cell? ⟨p0, 6, none⟩ = some (.int .i64 aid) ∧ w'.cell? ⟨p0, 7, none⟩ = some (.int .i64 atm) ∧ w'.cell? ⟨p0, 8, none⟩ = some (.slice P ams.length q) ∧ w'.cell? ⟨p0, 9, none⟩ = some (.int .i64 atp) ∧ w'.cell? ⟨p0, 10, none⟩ = some (.int .i64 awh) ∧ w'.cell? ⟨p0, 11, none⟩ = some (.int .i64 an)) ∧ (w'.cell? ⟨p2, 0, none⟩ = some (.int .u8 k) ∧ w'.cell? ⟨p2, 1, none⟩ = some (.int .i64 mi) ∧ w'.cell? ⟨p2, 2, none⟩ = some (.slice A3 mg.length c3) ∧ w'.cell? ⟨p2, 3, none⟩ = some (.int .i64 mt) ∧ w'.cell? ⟨p2, 4, none⟩ = some (.string mk) ∧ w'.cell? ⟨p2, 5, none⟩ = some (.string mb) ∧ w'.cell? ⟨p2, 6, none⟩ = some (.int .i64 aid) ∧ w'.cell? ⟨p2, 7, none⟩ = some (.int .i64 atm) ∧ w'.cell? ⟨p2, 8, none⟩ = some (.slice P3 ams.length q3) ∧ w'.cell? ⟨p2, 9, none⟩ = some (.int .i64 atp) ∧ w'.cell? ⟨p2, 10, none⟩ = some (.int .i64 awh) ∧ w'.cell? ⟨p2, 11, none⟩ = some (.int .i64 an))) (by kernel_rfl) (HSS.out _ HB.out) (fun hHeld => ?_)
    rw [← hud] at HB hHeld ⊢
    clear hud
    refine qT 0 ?_; try simp only [Act.put, qq]
    refine qT 1 ?_; try simp only [Act.put, qq]
    refine qT 2 ?_; try simp only [Act.put, qq]
    refine qT 3 ?_; try simp only [Act.put, qq]
    refine qT 4 ?_; try simp only [Act.put, qq]
    refine qT 5 ?_; try simp only [Act.put, qq]
    refine qT 6 ?_; try simp only [Act.put, qq]
    refine qT 7 ?_; try simp only [Act.put, qq]
    refine qT 8 ?_; try simp only [Act.put, qq]
    refine qT 9 ?_; try simp only [Act.put, qq]
    refine qT 11 ?_; try simp only [Act.put, qq]
    refine wpAnyH_ready (rs := [10]) (by kernel_rfl) (by simp) ?_
    refine (AllReadyH.cons rfl (fun K hK => ?_) AllReadyH.nil)
    go_simp
    refine (KA.out _ HB.out).mono ?_
    rintro e wr1 ⟨rfl, hb⟩
    have HB := Lib.hid (bmore HB.out hb (Nat.le_refl _))
    refine hK.out _ _ (HSS.out _ HB.out) (fun hHeld => ?_)
    clear hK hb
    try simp only [Act.put, qq]
    refine wpAnyH_ready (rs := [12]) (by kernel_rfl) (by simp) ?_
    refine (AllReadyH.cons rfl (fun K hK => ?_) AllReadyH.nil)
    go_simp
    refine (KB.out _ HB.out).mono ?_
    rintro e wr2 ⟨rfl, hb⟩
    have HB := Lib.hid (bmore HB.out hb (Nat.le_refl _))
    refine hK.out _ _ (HSS.out _ HB.out) (fun hHeld => ?_)
    clear hK hb
    try simp only [Act.put, qq]
    refine qT 13 ?_; try simp only [Act.put, qq]
    refine qT 14 ?_; try simp only [Act.put, qq]
    refine qT 15 ?_; try simp only [Act.put, qq]
    refine qT 16 ?_; try simp only [Act.put, qq]
    refine qT 17 ?_; try simp only [Act.put, qq]
    refine qT 19 ?_; try simp only [Act.put, qq]
    refine qT 20 ?_; try simp only [Act.put, qq]
    refine wpAnyH_ready (rs := [18]) (by kernel_rfl) (by simp) ?_
    refine (AllReadyH.cons rfl (fun K hK => ?_) AllReadyH.nil)
    go_simp
    refine (KC.out _ HB.out).mono ?_
    rintro e wr3 ⟨rfl, hb⟩
    have HB := Lib.hid (bmore HB.out hb (Nat.le_refl _))
    refine hK.out _ _ (HSS.out _ HB.out) (fun hHeld => ?_)
    clear hK hb
    try simp only [Act.put, qq]
    refine wpAnyH_ready (rs := [21]) (by kernel_rfl) (by simp) ?_
    refine (AllReadyH.cons rfl (fun K hK => ?_) AllReadyH.nil)
    go_simp
    refine (KD.out _ HB.out).mono ?_
    rintro e wr4 ⟨rfl, hb⟩
    have HB := Lib.hid (bmore HB.out hb (Nat.le_refl _))
    refine hK.out _ _ (HSS.out _ HB.out) (fun hHeld => ?_)
    clear hK hb
    try simp only [Act.put, qq]
    refine qT 22 ?_; try simp only [Act.put, qq]
    refine qT 23 ?_; try simp only [Act.put, qq]
    refine qT 24 ?_; try simp only [Act.put, qq]
    refine wpAnyH_done (by kernel_rfl) ?_ _
    clear hHeld
    go_wp2_with fail
    go_meet
    case rel => exact ⟨rfl, HB.out⟩
  case rest =>
  obtain ⟨rfl, hbc⟩ := hcut
  clear KA KB KC KD bc_ bm_ bt by_ HU
  replace HB := Lib.hid (bmore HB.out hbc (Nat.le_refl _))
  replace HL5 := Lib.hid (bmore HL5.out hbc (Nat.le_refl _))
  replace R0' := Lib.hid (R0'.out.below hbc R0'.out.lt)
  replace R1 := Lib.hid (R1.out.below hbc R1.out.lt)
  replace R2 := Lib.hid (R2.out.below hbc R2.out.lt)
  clear hbc
  obtain ⟨bs, hbs⟩ : ∃ bs, bs = decide ((⟨k, ⟨mi, mg, mt, mk, mb⟩, aid, atm, ams, atp, awh, an⟩ : Cm) = ⟨k2, ⟨mi2, mg2, mt2, mk2, mb2⟩, aid2, atm2, ams2, atp2, awh2, an2⟩) := ⟨_, rfl⟩
  obtain ⟨bg, hbg⟩ : ∃ bg, bg = decide ((⟨mi, mg, mt, mk, mb⟩ : Mg) = ⟨mi2, mg2, mt2, mk2, mb2⟩) := ⟨_, rfl⟩
  have b1_ : (bs == bs) = true := by simp
  have b2_ : (bg == bg) = true := by simp
  obtain ⟨u, hu⟩ : ∃ u, u = wc := ⟨_, rfl⟩
  rw [← hu] at HB HL5 R0' R1 R2 ⊢
  clear hu
  have LA := Lib.hid (fun W (hW : Below u.heap.size u W) => psame_any ⟨k, ⟨mi, mg, mt, mk, mb⟩, aid, atm, ams, atp, awh, an⟩ ⟨k2, ⟨mi2, mg2, mt2, mk2, mb2⟩, aid2, atm2, ams2, atp2, awh2, an2⟩ _ _ W (HI1.out W (bmore HB.out hW (Nat.le_refl _))) (HI2.out W (bmore HB.out hW (Nat.le_refl _))))
  have LB := Lib.hid (fun W (hW : Below u.heap.size u W) => same12_any ⟨k, ⟨mi, mg, mt, mk, mb⟩, aid, atm, ams, atp, awh, an⟩ ⟨k2, ⟨mi2, mg2, mt2, mk2, mb2⟩, aid2, atm2, ams2, atp2, awh2, an2⟩ _ _ W (HI1.out W (bmore HB.out hW (Nat.le_refl _))) (HI2.out W (bmore HB.out hW (Nat.le_refl _))))
  have LC := Lib.hid (fun W (hW : Below u.heap.size u W) => psame_any ⟨k, ⟨mi, mg, mt, mk, mb⟩, aid, atm, ams, atp, awh, an⟩ ⟨k, ⟨mi, mg, mt, mk, mb⟩, aid, atm, ams, atp, awh, an⟩ _ _ W (HI3.out W (bmore HL5.out hW (Nat.le_refl _))) (HI1.out W (bmore HB.out hW (Nat.le_refl _))))
  have LD := Lib.hid (fun W (hW : Below u.heap.size u W) => psameMg_any ⟨mi, mg, mt, mk, mb⟩ ⟨mi2, mg2, mt2, mk2, mb2⟩ _ _ W (HM1.out W (bmore HB.out hW (Nat.le_refl _))) (HM2.out W (bmore HB.out hW (Nat.le_refl _))))
  have LE := Lib.hid (fun W (hW : Below u.heap.size u W) => sameMessage_any ⟨mi, mg, mt, mk, mb⟩ ⟨mi2, mg2, mt2, mk2, mb2⟩ _ _ W (HM1.out W (bmore HB.out hW (Nat.le_refl _))) (HM2.out W (bmore HB.out hW (Nat.le_refl _))))
  rw [← hbs] at LA LB
  rw [← hbg] at LD LE
  rw [decide_eq_true rfl] at LC
  clear hbs hbg
  have HU := Lib.hid HB.out
  go_upto_region 7 with (fail)
  go_cut [11] (fun x wx => x = .bool true ∧ Below u.heap.size u wx)
  case first => as_aux_lemma =>
    have HSS : Hid (∀ w', Below u.heap.size u w' → (w'.cell? ⟨p0, 0, none⟩ = some (.int .u8 k) ∧ w'.cell? ⟨p0, 1, none⟩ = some (.int .i64 mi) ∧ w'.cell? ⟨p0, 2, none⟩ = some (.slice A mg.length c) ∧ w'.cell? ⟨p0, 3, none⟩ = some (.int .i64 mt) ∧ w'.cell? ⟨p0, 4, none⟩ = some (.string mk) ∧ w'.cell? ⟨p0, 5, none⟩ = some (.string mb) ∧ w'.cell? ⟨p0, 6, none⟩ = some (.int .i64 aid) ∧ w'.cell? ⟨p0, 7, none⟩ = some (.int .i64 atm) ∧ w'.cell? ⟨p0, 8, none⟩ = some (.slice P ams.length q) ∧ w'.cell? ⟨p0, 9, none⟩ = some (.int .i64 atp) ∧ w'.cell? ⟨p0, 10, none⟩ = some (.int .i64 awh) ∧ w'.cell? ⟨p0, 11, none⟩ = some (.int .i64 an)) ∧ (w'.cell? ⟨p1, 0, none⟩ = some (.int .u8 k2) ∧ w'.cell? ⟨p1, 1, none⟩ = some (.int .i64 mi2) ∧ w'.cell? ⟨p1, 2, none⟩ = some (.slice B mg2.length d) ∧ w'.cell? ⟨p1, 3, none⟩ = some (.int .i64 mt2) ∧ w'.cell? ⟨p1, 4, none⟩ = some (.string mk2) ∧ w'.cell? ⟨p1, 5, none⟩ = some (.string mb2) ∧ w'.cell? ⟨p1, 6, none⟩ = some (.int .i64 aid2) ∧ w'.cell? ⟨p1, 7, none⟩ = some (.int .i64 atm2) ∧ w'.cell? ⟨p1, 8, none⟩ = some (.slice S5 ams2.length u5) ∧ w'.cell? ⟨p1, 9, none⟩ = some (.int .i64 atp2) ∧ w'.cell? ⟨p1, 10, none⟩ = some (.int .i64 awh2) ∧ w'.cell? ⟨p1, 11, none⟩ = some (.int .i64 an2)) ∧ (w'.cell? ⟨p2, 0, none⟩ = some (.int .u8 k) ∧ w'.cell? ⟨p2, 1, none⟩ = some (.int .i64 mi) ∧ w'.cell? ⟨p2, 2, none⟩ = some (.slice A3 mg.length c3) ∧ w'.cell? ⟨p2, 3, none⟩ = some (.int .i64 mt) ∧ w'.cell? ⟨p2, 4, none⟩ = some (.string mk) ∧ w'.cell? ⟨p2, 5, none⟩ = some (.string mb) ∧ w'.cell? ⟨p2, 6, none⟩ = some (.int .i64 aid) ∧ w'.cell? ⟨p2, 7, none⟩ = some (.int .i64 atm) ∧ w'.cell? ⟨p2, 8, none⟩ = some (.slice P3 ams.length q3) ∧ w'.cell? ⟨p2, 9, none⟩ = some (.int .i64 atp) ∧ w'.cell? ⟨p2, 10, none⟩ = some (.int .i64 awh) ∧ w'.cell? ⟨p2, 11, none⟩ = some (.int .i64 an))) := Lib.hid (fun w' hb => ⟨box_cm (R0'.out.below hb R0'.out.lt), box_cm (R1.out.below hb R1.out.lt), box_cm (R2.out.below hb R2.out.lt)⟩)
    clear HI1 HI2 HM1 HM2 HI3 HM3 HB HL5 R0' R1 R2 HF HF2 HP0 HU
    have HB := Lib.hid (show Below u.heap.size u u.drew from (Below.refl _ _).drew)
    obtain ⟨ud, hud⟩ : ∃ ud, ud = u.drew := ⟨_, rfl⟩
    refine wp_region_held_drew (S := fun w' => (w'.cell? ⟨p0, 0, none⟩ = some (.int .u8 k) ∧ w'.cell? ⟨p0, 1, none⟩ = some (.int .i64 mi) ∧ w'.cell? ⟨p0, 2, none⟩ = some (.slice A mg.length c) ∧ w'.cell? ⟨p0, 3, none⟩ = some (.int .i64 mt) ∧ w'.cell? ⟨p0, 4, none⟩ = some (.string mk) ∧ w'.cell? ⟨p0, 5, none⟩ = some (.string mb) ∧ w'.cell? ⟨p0, 6, none⟩ = some (.int .i64 aid) ∧ w'.cell? ⟨p0, 7, none⟩ = some (.int .i64 atm) ∧ w'.cell? ⟨p0, 8, none⟩ = some (.slice P ams.length q) ∧ w'.cell? ⟨p0, 9, none⟩ = some (.int .i64 atp) ∧ w'.cell? ⟨p0, 10, none⟩ = some (.int .i64 awh) ∧ w'.cell? ⟨p0, 11, none⟩ = some (.int .i64 an)) ∧ (w'.cell? ⟨p1, 0, none⟩ = some (.int .u8 k2) ∧ w'.cell? ⟨p1, 1, none⟩ = some (.int .i64 mi2) ∧ w'.cell? ⟨p1, 2, none⟩ = some (.slice B mg2.length d) ∧ w'.cell? ⟨p1, 3, none⟩ = some (.int .i64 mt2) ∧ w'.cell? ⟨p1, 4, none⟩ = some (.string mk2) ∧ w'.cell? ⟨p1, 5, none⟩ = some (.string mb2) ∧ w'.cell? ⟨p1, 6, none⟩ = some (.int .i64 aid2) ∧ w'.cell? ⟨p1, 7, none⟩ = some (.int .i64 atm2) ∧ w'.cell? ⟨p1, 8, none⟩ = some (.slice S5 ams2.length u5) ∧ w'.cell? ⟨p1, 9, none⟩ = some (.int .i64 atp2) ∧ w'.cell? ⟨p1, 10, none⟩ = some (.int .i64 awh2) ∧ w'.cell? ⟨p1, 11, none⟩ = some (.int .i64 an2)) ∧ (w'.cell? ⟨p2, 0, none⟩ = some (.int .u8 k) ∧ w'.cell? ⟨p2, 1, none⟩ = some (.int .i64 mi) ∧ w'.cell? ⟨p2, 2, none⟩ = some (.slice A3 mg.length c3) ∧ w'.cell? ⟨p2, 3, none⟩ = some (.int .i64 mt) ∧ w'.cell? ⟨p2, 4, none⟩ = some (.string mk) ∧ w'.cell? ⟨p2, 5, none⟩ = some (.string mb) ∧ w'.cell? ⟨p2, 6, none⟩ = some (.int .i64 aid) ∧ w'.cell? ⟨p2, 7, none⟩ = some (.int .i64 atm) ∧ w'.cell? ⟨p2, 8, none⟩ = some (.slice P3 ams.length q3) ∧ w'.cell? ⟨p2, 9, none⟩ = some (.int .i64 atp) ∧ w'.cell? ⟨p2, 10, none⟩ = some (.int .i64 awh) ∧ w'.cell? ⟨p2, 11, none⟩ = some (.int .i64 an))) (by kernel_rfl) (HSS.out _ HB.out) (fun hHeld => ?_)
    rw [← hud] at HB hHeld ⊢
    clear hud
    refine qT 0 ?_; try simp only [Act.put, qq]
    refine qT 1 ?_; try simp only [Act.put, qq]
    refine qT 3 ?_; try simp only [Act.put, qq]
    refine qT 4 ?_; try simp only [Act.put, qq]
    refine wpAnyH_ready (rs := [2]) (by kernel_rfl) (by simp) ?_
    refine (AllReadyH.cons rfl (fun K hK => ?_) AllReadyH.nil)
    go_simp
    refine (LA.out _ HB.out).mono ?_
    rintro e wr5 ⟨rfl, hb⟩
    have HB := Lib.hid (bmore HB.out hb (Nat.le_refl _))
    refine hK.out _ _ (HSS.out _ HB.out) (fun hHeld => ?_)
    clear hK hb
    try simp only [Act.put, qq]
    refine wpAnyH_ready (rs := [5]) (by kernel_rfl) (by simp) ?_
    refine (AllReadyH.cons rfl (fun K hK => ?_) AllReadyH.nil)
    go_simp
    refine (LB.out _ HB.out).mono ?_
    rintro e wr6 ⟨rfl, hb⟩
    have HB := Lib.hid (bmore HB.out hb (Nat.le_refl _))
    refine hK.out _ _ (HSS.out _ HB.out) (fun hHeld => ?_)
    clear hK hb
    try simp only [Act.put, qq]
    refine qT 6 ?_; try simp only [Act.put, qq]
    refine qT 7 ?_; try simp only [Act.put, qq]
    refine qT 8 ?_; try simp only [Act.put, qq]
    refine qT 9 ?_; try simp only [Act.put, qq]
    refine wpAnyH_ready (rs := [10]) (by kernel_rfl) (by simp) ?_
    refine (AllReadyH.cons rfl (fun K hK => ?_) AllReadyH.nil)
    go_simp
    refine (LC.out _ HB.out).mono ?_
    rintro e wr7 ⟨rfl, hb⟩
    have HB := Lib.hid (bmore HB.out hb (Nat.le_refl _))
    refine hK.out _ _ (HSS.out _ HB.out) (fun hHeld => ?_)
    clear hK hb
    try simp only [Act.put, qq]
    refine qT 11 ?_; try simp only [Act.put, qq]
    refine qT 12 ?_; try simp only [Act.put, qq]
    refine qT 13 ?_; try simp only [Act.put, qq]
    refine qT 14 ?_; try simp only [Act.put, qq]
    refine qT 15 ?_; try simp only [Act.put, qq]
    refine qT 16 ?_; try simp only [Act.put, qq]
    refine qT 18 ?_; try simp only [Act.put, qq]
    refine qT 19 ?_; try simp only [Act.put, qq]
    refine qT 20 ?_; try simp only [Act.put, qq]
    refine qT 21 ?_; try simp only [Act.put, qq]
    refine wpAnyH_ready (rs := [17]) (by kernel_rfl) (by simp) ?_
    refine (AllReadyH.cons rfl (fun K hK => ?_) AllReadyH.nil)
    go_simp
    refine (LD.out _ HB.out).mono ?_
    rintro e wr8 ⟨rfl, hb⟩
    have HB := Lib.hid (bmore HB.out hb (Nat.le_refl _))
    refine hK.out _ _ (HSS.out _ HB.out) (fun hHeld => ?_)
    clear hK hb
    try simp only [Act.put, qq]
    refine wpAnyH_ready (rs := [22]) (by kernel_rfl) (by simp) ?_
    refine (AllReadyH.cons rfl (fun K hK => ?_) AllReadyH.nil)
    go_simp
    refine (LE.out _ HB.out).mono ?_
    rintro e wr9 ⟨rfl, hb⟩
    have HB := Lib.hid (bmore HB.out hb (Nat.le_refl _))
    refine hK.out _ _ (HSS.out _ HB.out) (fun hHeld => ?_)
    clear hK hb
    try simp only [Act.put, qq]
    refine qT 23 ?_; try simp only [Act.put, qq]
    refine qT 24 ?_; try simp only [Act.put, qq]
    refine qT 25 ?_; try simp only [Act.put, qq]
    refine wpAnyH_done (by kernel_rfl) ?_ _
    clear hHeld
    go_wp2_with fail
    go_meet
    case rel => exact ⟨rfl, HB.out⟩
  case rest =>
  obtain ⟨rfl, hbc⟩ := hcut
  clear LA LB LC LD LE b1_ b2_ HU
  replace HB := Lib.hid (bmore HB.out hbc (Nat.le_refl _))
  replace HL5 := Lib.hid (bmore HL5.out hbc (Nat.le_refl _))
  replace R0' := Lib.hid (R0'.out.below hbc R0'.out.lt)
  replace R2 := Lib.hid (R2.out.below hbc R2.out.lt)
  clear hbc R1
  obtain ⟨x0, x1, x2, x3, x4, x5, x6, x7, x8, x9, x10, x11⟩ := box_cm R0'.out
  obtain ⟨y0, y1, y2, y3, y4, y5, y6, y7, y8, y9, y10, y11⟩ := box_cm R2.out
  go_wp2_with fail
  clear x0 x1 x2 x3 x4 x5 x6 x7 x8 x9 x10 x11
  clear y0 y1 y2 y3 y4 y5 y6 y7 y8 y9 y10 y11
  refine (same12_any ⟨k, ⟨mi, mg, mt, mk, mb⟩, aid, atm, ams, atp, awh, an⟩ ⟨k, ⟨mi, mg, mt, mk, mb⟩, aid, atm, ams, atp, awh, an⟩ _ _ _ (HI3.out _ HL5.out) (HI1.out _ HB.out)).mono ?_
  rintro e1 w9 ⟨rfl, hb⟩
  replace HB := Lib.hid (bmore HB.out hb (Nat.le_refl _))
  clear hb
  rw [decide_eq_true rfl]
  go_wp2_with fail
  go_ret
  exact ⟨rfl, HB.out⟩
end Go.Proofs.Ytojbcadkcikaoaa
