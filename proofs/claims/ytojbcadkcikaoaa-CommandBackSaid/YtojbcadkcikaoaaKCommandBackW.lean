/-
  The walk of CommandBack: what is written is read back, and no part of it is a command. Conditions: any command, any cut.
-/
import Derived.Test.YtojbcadkcikaoaaK13
import Derived.Test.YtojbcadkcikaoaaK25
import Derived.Test.YtojbcadkcikaoaaK14
import Derived.Test.YtojbcadkcikaoaaK26
import Derived.Deep.DeepCutAuto
namespace Go.Proofs.Ytojbcadkcikaoaa
open Go.RowKit CP
open CM (Mg Cm)
set_option linter.unusedVariables false
set_option linter.unusedSimpArgs false
set_option maxRecDepth 100000

theorem extract_takes (l r : List UInt8) (n : Nat) (h : r = l.take n) : (⟨l.toArray⟩ : ByteArray).extract 0 n = ⟨r.toArray⟩ := by
  subst h
  apply ByteArray.ext
  simp [ByteArray.data_extract]
set_option maxHeartbeats 8000000 in
theorem commandBack_walk (v : Value) (x : Cm) (cut : Int) (w : World) (hv : CmArg w v x) (hcut : (Lit.int .i64 cut).wf = true) :
    Calls Try.prog 6 #[v, .int .i64 cut] w fun e w' => e = .returned (.bool true) ∧ Below w.heap.size w w' := by
  obtain ⟨⟨A, c, P, q, rfl, r1, r3⟩, hf⟩ := hv
  have hc2 := range_i64 hcut
  clear hcut
  obtain ⟨k, ⟨mi, mg, mt, mk, mb⟩, aid, atm, ams, atp, awh, an⟩ := x
  simp only at r1 r3
  have HIS := Lib.hid (fun W (hb : Below w.heap.size w W) => (show CmIs W (.agg #[.int .u8 k, .int .i64 mi, .slice A mg.length c, .int .i64 mt, .string mk, .string mb, .int .i64 aid, .int .i64 atm, .slice P ams.length q, .int .i64 atp, .int .i64 awh, .int .i64 an]) ⟨k, ⟨mi, mg, mt, mk, mb⟩, aid, atm, ams, atp, awh, an⟩ from ⟨A, c, P, q, rfl, r1.below hb, r3.below hb⟩))
  have HF := Lib.hid hf
  have HB := Lib.hid (show Below w.heap.size w (w.alloc (.cells #[.int .u8 k, .int .i64 mi, .slice A mg.length c, .int .i64 mt, .string mk, .string mb, .int .i64 aid, .int .i64 atm, .slice P ams.length q, .int .i64 atp, .int .i64 awh, .int .i64 an] 27)) from (Below.refl _ _).alloc (Nat.le_refl _) _)
  have R := Lib.hid (Box.new w 27 #[.int .u8 k, .int .i64 mi, .slice A mg.length c, .int .i64 mt, .string mk, .string mb, .int .i64 aid, .int .i64 atm, .slice P ams.length q, .int .i64 atp, .int .i64 awh, .int .i64 an])
  clear r1 r3 hf
  show Calls _ _ #[.agg #[.int .u8 k, .int .i64 mi, .slice A mg.length c, .int .i64 mt, .string mk, .string mb, .int .i64 aid, .int .i64 atm, .slice P ams.length q, .int .i64 atp, .int .i64 awh, .int .i64 an], _] _ _
  obtain ⟨t, ht⟩ : ∃ t : ByteArray, t = ⟨(CM.wr ⟨k, ⟨mi, mg, mt, mk, mb⟩, aid, atm, ams, atp, awh, an⟩).toArray⟩ := ⟨_, rfl⟩
  have HT := Lib.hid ht
  clear ht
  go_enter Try.func6, Try.ntmps6
  go_wp2_with fail
  refine (alive_any _).mono ?_
  rintro e1 w1 ⟨rfl, hb⟩
  replace HB := Lib.hid (bmore HB.out hb (by simp))
  replace R := Lib.hid (R.out.below hb R.out.lt)
  clear hb
  obtain ⟨x0, x1, x2, x3, x4, x5, x6, x7, x8, x9, x10, x11⟩ := box_cm R.out
  go_wp2_with fail
  clear x0 x1 x2 x3 x4 x5 x6 x7 x8 x9 x10 x11
  refine (great12_any ⟨k, ⟨mi, mg, mt, mk, mb⟩, aid, atm, ams, atp, awh, an⟩ _ _ (HIS.out _ HB.out) HF.out).mono ?_
  rintro e1 w2 ⟨rfl, hb⟩
  replace HB := Lib.hid (bmore HB.out hb (Nat.le_refl _))
  replace R := Lib.hid (R.out.below hb R.out.lt)
  clear hb
  by_cases hg : Little ⟨k, ⟨mi, mg, mt, mk, mb⟩, aid, atm, ams, atp, awh, an⟩
  rotate_left
  · rw [decide_eq_true hg]
    clear hg
    go_wp2_with fail
    go_ret
    exact ⟨rfl, HB.out⟩
  rw [show decide (¬ Little ⟨k, ⟨mi, mg, mt, mk, mb⟩, aid, atm, ams, atp, awh, an⟩) = false by simp [hg]]
  clear hg
  obtain ⟨x0, x1, x2, x3, x4, x5, x6, x7, x8, x9, x10, x11⟩ := box_cm R.out
  go_wp2_with fail
  clear x0 x1 x2 x3 x4 x5 x6 x7 x8 x9 x10 x11
  refine (pwrite_any ⟨k, ⟨mi, mg, mt, mk, mb⟩, aid, atm, ams, atp, awh, an⟩ _ _ (HIS.out _ HB.out) HF.out).mono ?_
  rintro e1 w3 ⟨rfl, hb⟩
  replace HB := Lib.hid (bmore HB.out hb (Nat.le_refl _))
  replace R := Lib.hid (R.out.below hb R.out.lt)
  clear hb
  by_cases hm : CM.may ⟨k, ⟨mi, mg, mt, mk, mb⟩, aid, atm, ams, atp, awh, an⟩
  rotate_left
  · rw [if_neg hm, if_neg hm]
    have CK := Lib.hid (pcheck_any ⟨k, ⟨mi, mg, mt, mk, mb⟩, aid, atm, ams, atp, awh, an⟩ _ _ (HIS.out _ HB.out) HF.out)
    rw [if_neg hm] at CK
    clear hm HT
    obtain ⟨x0, x1, x2, x3, x4, x5, x6, x7, x8, x9, x10, x11⟩ := box_cm R.out
    go_wp2_with fail
    clear x0 x1 x2 x3 x4 x5 x6 x7 x8 x9 x10 x11
    refine (CK.out).mono ?_
    rintro e1 w4 ⟨rfl, hb⟩
    replace HB := Lib.hid (bmore HB.out hb (Nat.le_refl _))
    clear hb CK
    go_wp2_with fail
    go_ret
    exact ⟨rfl, HB.out⟩
  rw [if_pos hm, if_pos hm]
  rw [show (⟨(CM.wr ⟨k, ⟨mi, mg, mt, mk, mb⟩, aid, atm, ams, atp, awh, an⟩).toArray⟩ : ByteArray) = t from HT.out.symm]
  have hts : t.size = (CM.wr ⟨k, ⟨mi, mg, mt, mk, mb⟩, aid, atm, ams, atp, awh, an⟩).length := by rw [HT.out]; simp [ByteArray.size]
  have hln := CM.wr_len hm
  rw [← hts] at hln
  obtain ⟨t1, t2⟩ := hln
  have HM := Lib.hid hm
  have HTS := Lib.hid hts
  have CR := Lib.hid (fun W => pread_any (x := ⟨k, ⟨mi, mg, mt, mk, mb⟩, aid, atm, ams, atp, awh, an⟩) (y := 0) t (by rw [HT.out]; exact .inl ⟨rfl, hm, rfl⟩) (by unfold maxLen; omega) W)
  clear hm hts
  have t1i : (1 : Int) ≤ (t.size : Int) := by omega
  have t2i : (t.size : Int) ≤ (1024 : Int) := by omega
  go_wp2_with fail
  refine (CR.out _).mono ?_
  rintro e1 w4 ⟨v2, rfl, ⟨A2, c2, P2, q2, rfl, s1, s3⟩, hb⟩
  clear CR
  have HB4 := Lib.hid (bmore HB.out hb (Nat.le_refl _))
  replace R := Lib.hid (R.out.below hb R.out.lt)
  simp only at s1 s3
  have hb2 : Below w4.heap.size w4 (w4.alloc (.cells #[.int .u8 k, .int .i64 mi, .slice A2 mg.length c2, .int .i64 mt, .string mk, .string mb, .int .i64 aid, .int .i64 atm, .slice P2 ams.length q2, .int .i64 atp, .int .i64 awh, .int .i64 an] 27)) := (Below.refl _ _).alloc (Nat.le_refl _) _
  replace HB := Lib.hid (bmore HB4.out hb2 (Nat.le_refl _))
  replace R := Lib.hid (R.out.below hb2 R.out.lt)
  have Y := Lib.hid (Box.new w4 27 #[.int .u8 k, .int .i64 mi, .slice A2 mg.length c2, .int .i64 mt, .string mk, .string mb, .int .i64 aid, .int .i64 atm, .slice P2 ams.length q2, .int .i64 atp, .int .i64 awh, .int .i64 an])
  have HIY := Lib.hid (show CmIs (w4.alloc (.cells #[.int .u8 k, .int .i64 mi, .slice A2 mg.length c2, .int .i64 mt, .string mk, .string mb, .int .i64 aid, .int .i64 atm, .slice P2 ams.length q2, .int .i64 atp, .int .i64 awh, .int .i64 an] 27)) (.agg #[.int .u8 k, .int .i64 mi, .slice A2 mg.length c2, .int .i64 mt, .string mk, .string mb, .int .i64 aid, .int .i64 atm, .slice P2 ams.length q2, .int .i64 atp, .int .i64 awh, .int .i64 an]) ⟨k, ⟨mi, mg, mt, mk, mb⟩, aid, atm, ams, atp, awh, an⟩ from ⟨A2, c2, P2, q2, rfl, s1.below hb2, s3.below hb2⟩)
  clear hb hb2 s1 s3 HB4
  unfold ccells
  go_upto_region 8 with (fail)
  generalize w4.alloc (.cells #[.int .u8 k, .int .i64 mi, .slice A2 mg.length c2, .int .i64 mt, .string mk, .string mb, .int .i64 aid, .int .i64 atm, .slice P2 ams.length q2, .int .i64 atp, .int .i64 awh, .int .i64 an] 27) = w5 at HB R Y HIY ⊢
  generalize w4.heap.size = g at Y ⊢
  obtain ⟨x0, x1, x2, x3, x4, x5, x6, x7, x8, x9, x10, x11⟩ := box_cm R.out
  obtain ⟨y0, y1, y2, y3, y4, y5, y6, y7, y8, y9, y10, y11⟩ := box_cm Y.out
  go_wp2_with fail
  clear x0 x1 x2 x3 x4 x5 x6 x7 x8 x9 x10 x11
  clear y0 y1 y2 y3 y4 y5 y6 y7 y8 y9 y10 y11
  refine (same12_any ⟨k, ⟨mi, mg, mt, mk, mb⟩, aid, atm, ams, atp, awh, an⟩ ⟨k, ⟨mi, mg, mt, mk, mb⟩, aid, atm, ams, atp, awh, an⟩ _ _ _ HIY.out (HIS.out _ HB.out)).mono ?_
  rintro e1 w6 ⟨rfl, hb⟩
  replace HB := Lib.hid (bmore HB.out hb (Nat.le_refl _))
  clear hb HIY Y R HIS HF
  rw [decide_eq_true rfl]
  by_cases hc0 : cut < 0
  · go_wp2_with fail
    go_ret
    exact ⟨rfl, HB.out⟩
  by_cases hc1 : (t.size : Int) ≤ cut
  · have hc0' : 0 ≤ cut := by omega
    clear hc0
    go_wp2_with fail
    go_ret
    exact ⟨rfl, HB.out⟩
  obtain ⟨n, rfl⟩ : ∃ n : Nat, cut = n := ⟨cut.toNat, by omega⟩
  have hn : n < t.size := by omega
  have hni : (n : Int) < (t.size : Int) := by omega
  have hn0 : (0 : Int) ≤ (n : Int) := by omega
  have hnl : n ≤ t.size := by omega
  clear hc0 hc1
  obtain ⟨u, hu⟩ : ∃ u : ByteArray, u = ⟨((CM.wr ⟨k, ⟨mi, mg, mt, mk, mb⟩, aid, atm, ams, atp, awh, an⟩).take n).toArray⟩ := ⟨_, rfl⟩
  have hx : t.extract 0 n = u := by rw [HT.out, hu]; exact extract_takes _ _ n rfl
  have CR2 := Lib.hid (fun W => pread_any (x := (CM.readF (RM.bsz u)).1) (y := 8) u (by
    have h1 := CM.readIs_read (RM.bsz u)
    have h2 := CM.readIs_cut HM.out (n := n) (by rw [← HTS.out]; exact hn) (by rw [hu, RM.bsz_mk] at h1; exact h1)
    rw [hu, RM.bsz_mk] at h1 ⊢
    rw [h2] at h1
    exact h1) (by
    have : u.size ≤ t.size := by rw [hu, HTS.out]; show Array.size _ ≤ _; simp; omega
    unfold maxLen; omega) W)
  clear hu HT HTS HM
  generalize (CM.readF (RM.bsz u)).1 = x2 at CR2
  obtain ⟨k2, ⟨mi2, mg2, mt2, mk2, mb2⟩, aid2, atm2, ams2, atp2, awh2, an2⟩ := x2
  go_wp2_with fail
  refine (CR2.out _).mono ?_
  rintro e1 w7 ⟨v3, rfl, ⟨A3, c3, P3, q3, rfl, _, _⟩, hb⟩
  replace HB := Lib.hid (bmore HB.out hb (Nat.le_refl _))
  replace HB := Lib.hid (HB.out.alloc HB.out.size (.cells #[.int .u8 k2, .int .i64 mi2, .slice A3 mg2.length c3, .int .i64 mt2, .string mk2, .string mb2, .int .i64 aid2, .int .i64 atm2, .slice P3 ams2.length q3, .int .i64 atp2, .int .i64 awh2, .int .i64 an2] 27))
  clear hb CR2
  unfold ccells
  go_wp2_with fail
  go_ret
  exact ⟨rfl, HB.out⟩
end Go.Proofs.Ytojbcadkcikaoaa
