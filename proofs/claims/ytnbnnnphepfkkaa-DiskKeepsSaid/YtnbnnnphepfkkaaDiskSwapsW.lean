/-
  The walk of DiskSwaps: of a swap that waits all is left, or nothing.
-/
import Derived.Test.YtnbnnnphepfkkaaDiskSeesW
namespace Go.Proofs.Ytnbnnnphepfkkaa
open Go.RowKit
set_option linter.unusedVariables false

theorem extract_take (l r : List UInt8) (n : Nat) (h : r = l.take n) : (⟨l.toArray⟩ : ByteArray).extract 0 n = ⟨r.toArray⟩ := by
  subst h
  apply ByteArray.ext
  simp [ByteArray.data_extract]
theorem torn_take (a q : List UInt8) (k : Nat) : a.length ≤ (a ++ q.take k).length ∧ (a ++ q.take k).length ≤ a.length + q.length ∧ a ++ q.take k = (a ++ q).take (a ++ q.take k).length := by
  refine ⟨by simp, by simp; omega, ?_⟩
  rw [List.length_append, List.take_length_add_append, List.length_take]
  congr 1
  simp [List.take_eq_take_iff]
theorem torn_all (a q : List UInt8) : a.length ≤ (a ++ q).length ∧ (a ++ q).length ≤ a.length + q.length ∧ a ++ q = (a ++ q).take (a ++ q).length := by
  refine ⟨by simp, by simp, ?_⟩
  rw [List.take_of_length_le (Nat.le_refl _)]
theorem swaps_math {b rs qa qb qc b1 b2 b3 rw : List UInt8} {ps ps1 ps2 ps3 : List DM.Wr} {keep many : Int} (h0 : SeeIs b ps rs 0) (h1 : LenIs rs [] (false, qa) b1 ps1 0) (h2 : LenIs b1 ps1 (true, qb) b2 ps2 0) (h3 : LenIs b2 ps2 (false, qc) b3 ps3 0) (h4 : CrashIs b3 ps3 keep many rw 0) :
    rs.length + qa.length ≤ 1048576 ∧ qb.length + qc.length ≤ 1048576 ∧ 0 ≤ keep ∧ (keep < 2 → rs.length ≤ rw.length ∧ rw.length ≤ rs.length + qa.length ∧ rw = (rs ++ qa).take rw.length) ∧ (¬ keep < 2 → qb.length ≤ rw.length ∧ rw.length ≤ qb.length + qc.length ∧ rw = (qb ++ qc).take rw.length) := by
  rcases h1 with ⟨_, _, _, h⟩ | ⟨_, _, _, _, h⟩ | ⟨_, g1, rfl, rfl, _⟩
  · cases h
  · cases h
  rcases h2 with ⟨_, _, _, h⟩ | ⟨_, _, _, _, h⟩ | ⟨_, g2, rfl, rfl, _⟩
  · cases h
  · cases h
  rcases h3 with ⟨_, _, _, h⟩ | ⟨_, _, _, _, h⟩ | ⟨_, g3, rfl, rfl, _⟩
  · cases h
  · cases h
  rcases h4 with ⟨_, _, h⟩ | ⟨_, _, _, h⟩ | ⟨_, k0, k1, k2, hr, _⟩
  · cases h
  · cases h
  have e1 := DM.fits_all g1.2
  have e3 := DM.fits_all g3.2
  obtain ⟨kn, rfl⟩ := Int.eq_ofNat_of_zero_le k0
  obtain ⟨mn, rfl⟩ := Int.eq_ofNat_of_zero_le k2
  simp [DM.behind, DM.step] at e1 e3
  simp at k1
  refine ⟨e1, e3, k0, fun hk => ?_, fun hk => ?_⟩
  · have : kn = 0 ∨ kn = 1 := by omega
    rcases this with rfl | rfl
    · simp [DM.crash, DM.left, DM.behind, DM.step] at hr
      subst hr
      exact torn_take _ _ _
    · simp [DM.crash, DM.left, DM.behind, DM.step] at hr
      subst hr
      exact torn_all _ _
  · have : kn = 2 ∨ kn = 3 := by omega
    rcases this with rfl | rfl
    · simp [DM.crash, DM.left, DM.behind, DM.step] at hr
      subst hr
      exact torn_take _ _ _
    · simp [DM.crash, DM.left, DM.behind, DM.step] at hr
      subst hr
      exact torn_all _ _

set_option maxRecDepth 100000 in
set_option maxHeartbeats 8000000 in
theorem diskSwaps_core (v : Value) (b : List UInt8) (ps : List DM.Wr) (Aa : Option Addr) (na ca : Nat) (qa : List UInt8) (Ab : Option Addr) (nb cb : Nat) (qb : List UInt8) (Ac : Option Addr) (nc cc : Nat) (qc : List UInt8) (keep many : Int) (w : World) (HV : Hid (DiskArg w v b ps))
    (HQa : Hid (Rd w Aa na (bc qa))) (hna : na ≤ ca) (HCa : Hid (ca ≤ maxLen)) (HQb : Hid (Rd w Ab nb (bc qb))) (hnb : nb ≤ cb) (HCb : Hid (cb ≤ maxLen)) (HQc : Hid (Rd w Ac nc (bc qc))) (hnc : nc ≤ cc) (HCc : Hid (cc ≤ maxLen))
    (hk1 : -9223372036854775808 ≤ keep) (hk2 : keep ≤ 9223372036854775807) (hm1 : -9223372036854775808 ≤ many) (hm2 : many ≤ 9223372036854775807) :
    Calls Try.prog 7 #[v, .slice Aa na ca, .slice Ab nb cb, .slice Ac nc cc, .int .i64 keep, .int .i64 many] w fun e w' => e = .returned (.bool true) ∧ Below w.heap.size w w' := by
  obtain ⟨hv0, hb0, hp0⟩ := HV.out
  obtain ⟨A, n, c, B, m, d, rfl, h1, h2, h3, h4, h5, h6⟩ := hv0
  have hst : Below w.heap.size w (w.alloc (.cells #[.slice A n c, .slice B m d] 25)) := (Below.refl _ _).alloc (Nat.le_refl _) _
  have HW := Lib.hid hst
  have Vd : Hid (Var (w.alloc (.cells #[.slice A n c, .slice B m d] 25)) w.heap.size A n c B m d b ps) := Lib.hid ⟨Box.new _ _ _, HV.out.1.below hst⟩
  have Rqa := Lib.hid (HQa.out.below hst)
  have hqla : qa.length = na := by have := HQa.out.1; rwa [bc_length] at this
  have HQLa := Lib.hid hqla; clear hqla
  have Rqb := Lib.hid (HQb.out.below hst)
  have hqlb : qb.length = nb := by have := HQb.out.1; rwa [bc_length] at this
  have HQLb := Lib.hid hqlb; clear hqlb
  have Rqc := Lib.hid (HQc.out.below hst)
  have hqlc : qc.length = nc := by have := HQc.out.1; rwa [bc_length] at this
  have HQLc := Lib.hid hqlc; clear hqlc
  have HB0 := Lib.hid hb0
  have HP0 := Lib.hid hp0
  clear hst h1 h2 h3 h4 h5 h6 HV hb0 hp0 HQa HQb HQc
  obtain ⟨rs, x0, hse⟩ := seeIs_ex b ps
  obtain ⟨b1, ps1, x1, hl1⟩ := lenIs_ex rs [] (false, qa)
  obtain ⟨b2, ps2, x2, hl2⟩ := lenIs_ex b1 ps1 (true, qb)
  obtain ⟨b3, ps3, x3, hl3⟩ := lenIs_ex b2 ps2 (false, qc)
  obtain ⟨rw, x4, hcr⟩ := crashIs_ex b3 ps3 keep many
  obtain ⟨n_rs, hn_rs⟩ : ∃ k, rs.length = k := ⟨_, rfl⟩
  have HNrs := Lib.hid hn_rs; clear hn_rs
  obtain ⟨n_b1, hn_b1⟩ : ∃ k, b1.length = k := ⟨_, rfl⟩
  have HNb1 := Lib.hid hn_b1; clear hn_b1
  obtain ⟨n_b2, hn_b2⟩ : ∃ k, b2.length = k := ⟨_, rfl⟩
  have HNb2 := Lib.hid hn_b2; clear hn_b2
  obtain ⟨n_b3, hn_b3⟩ : ∃ k, b3.length = k := ⟨_, rfl⟩
  have HNb3 := Lib.hid hn_b3; clear hn_b3
  obtain ⟨n_ps1, hn_ps1⟩ : ∃ k, ps1.length = k := ⟨_, rfl⟩
  have HNps1 := Lib.hid hn_ps1; clear hn_ps1
  obtain ⟨n_ps2, hn_ps2⟩ : ∃ k, ps2.length = k := ⟨_, rfl⟩
  have HNps2 := Lib.hid hn_ps2; clear hn_ps2
  obtain ⟨n_ps3, hn_ps3⟩ : ∃ k, ps3.length = k := ⟨_, rfl⟩
  have HNps3 := Lib.hid hn_ps3; clear hn_ps3
  obtain ⟨n_rw, hn_rw⟩ : ∃ k, rw.length = k := ⟨_, rfl⟩
  have HNrw := Lib.hid hn_rw; clear hn_rw
  have HSE := Lib.hid hse; clear hse
  have HL1 := Lib.hid hl1; clear hl1
  have HL2 := Lib.hid hl2; clear hl2
  have HL3 := Lib.hid hl3; clear hl3
  have HCR := Lib.hid hcr; clear hcr
  go_enter Try.func7, Try.ntmps7
  go_wp2_with fail
  generalize w.alloc (.cells #[.slice A n c, .slice B m d] 25) = u0 at Vd Rqa Rqb Rqc HW ⊢
  generalize hgd : w.heap.size = gd at Vd ⊢
  have HGD := Lib.hid hgd; clear hgd
  refine (alive_any _).mono ?_
  rintro e w1 ⟨rfl, hb⟩
  have Vd_ := Lib.hid (Vd.out.below hb)
  have Rqa_ := Lib.hid (Rqa.out.below hb)
  have Rqb_ := Lib.hid (Rqb.out.below hb)
  have Rqc_ := Lib.hid (Rqc.out.below hb)
  have HW_ := Lib.hid (bmore HW.out hb (Nat.le_refl _))
  clear HW Vd Rqa Rqb Rqc
  have Vd := Vd_; clear Vd_
  have Rqa := Rqa_; clear Rqa_
  have Rqb := Rqb_; clear Rqb_
  have Rqc := Rqc_; clear Rqc_
  have HW := HW_; clear HW_
  clear hb
  have k0d := Vd.out.c0
  have k1d := Vd.out.c1
  go_wp2_with fail
  clear k0d k1d
  refine (sync_s _ b rs ps n_rs x0 _ (Lib.hid Vd.out.2) HSE HNrs).mono ?_
  rintro e ws ⟨As, cs, Bs, ds, rfl, hown, hb⟩
  obtain ⟨hst, vs⟩ := var_step hb hown
  have Vd_ := Lib.hid (Vd.out.below hst)
  have Rqa_ := Lib.hid (Rqa.out.below hst)
  have Rqb_ := Lib.hid (Rqb.out.below hst)
  have Rqc_ := Lib.hid (Rqc.out.below hst)
  have HW_ := Lib.hid (bmore HW.out hst (Nat.le_refl _))
  clear HW Vd Rqa Rqb Rqc
  have Vd := Vd_; clear Vd_
  have Rqa := Rqa_; clear Rqa_
  have Rqb := Rqb_; clear Rqb_
  have Rqc := Rqc_; clear Rqc_
  have HW := HW_; clear HW_
  have Vs := Lib.hid vs
  clear hown hb hst vs
  have k0s := Vs.out.c0
  have k1s := Vs.out.c1
  go_wp2_with fail
  clear k0s k1s
  generalize ws.alloc (.cells #[.slice As n_rs cs, .slice Bs 0 ds] 25) = us at Vd Vs Rqa Rqb Rqc HW ⊢
  generalize ws.heap.size = gs at Vs ⊢
  refine (append_s _ Aa na ca rs qa b1 [] ps1 x1 n_b1 n_ps1 _ (Lib.hid Vs.out.2) Rqa hna HCa HL1 HNb1 HNps1).mono ?_
  rintro e wx ⟨Ax, cx, Bx, dx, rfl, hown, hb⟩
  obtain ⟨hst, vx⟩ := var_step hb hown
  have Vd_ := Lib.hid (Vd.out.below hst)
  have Vs_ := Lib.hid (Vs.out.below hst)
  have Rqa_ := Lib.hid (Rqa.out.below hst)
  have Rqb_ := Lib.hid (Rqb.out.below hst)
  have Rqc_ := Lib.hid (Rqc.out.below hst)
  have HW_ := Lib.hid (bmore HW.out hst (Nat.le_refl _))
  clear HW Vd Vs Rqa Rqb Rqc
  have Vd := Vd_; clear Vd_
  have Vs := Vs_; clear Vs_
  have Rqa := Rqa_; clear Rqa_
  have Rqb := Rqb_; clear Rqb_
  have Rqc := Rqc_; clear Rqc_
  have HW := HW_; clear HW_
  have Vx := Lib.hid vx
  clear hown hb hst vx
  have k0x := Vx.out.c0
  have k1x := Vx.out.c1
  go_wp2_with fail
  clear k0x k1x
  generalize wx.alloc (.cells #[.slice Ax n_b1 cx, .slice Bx n_ps1 dx] 25) = ux at Vd Vs Vx Rqa Rqb Rqc HW ⊢
  generalize wx.heap.size = gx at Vx ⊢
  refine (swap_s _ Ab nb cb b1 qb b2 ps1 ps2 x2 n_b2 n_ps2 _ (Lib.hid Vx.out.2) Rqb hnb HCb HL2 HNb2 HNps2).mono ?_
  rintro e wy ⟨Ay, cy, By, dy, rfl, hown, hb⟩
  obtain ⟨hst, vy⟩ := var_step hb hown
  have Vd_ := Lib.hid (Vd.out.below hst)
  have Vs_ := Lib.hid (Vs.out.below hst)
  have Vx_ := Lib.hid (Vx.out.below hst)
  have Rqa_ := Lib.hid (Rqa.out.below hst)
  have Rqb_ := Lib.hid (Rqb.out.below hst)
  have Rqc_ := Lib.hid (Rqc.out.below hst)
  have HW_ := Lib.hid (bmore HW.out hst (Nat.le_refl _))
  clear HW Vd Vs Vx Rqa Rqb Rqc
  have Vd := Vd_; clear Vd_
  have Vs := Vs_; clear Vs_
  have Vx := Vx_; clear Vx_
  have Rqa := Rqa_; clear Rqa_
  have Rqb := Rqb_; clear Rqb_
  have Rqc := Rqc_; clear Rqc_
  have HW := HW_; clear HW_
  have Vy := Lib.hid vy
  clear hown hb hst vy
  have k0y := Vy.out.c0
  have k1y := Vy.out.c1
  go_wp2_with fail
  clear k0y k1y
  generalize wy.alloc (.cells #[.slice Ay n_b2 cy, .slice By n_ps2 dy] 25) = uy at Vd Vs Vx Vy Rqa Rqb Rqc HW ⊢
  generalize wy.heap.size = gy at Vy ⊢
  refine (append_s _ Ac nc cc b2 qc b3 ps2 ps3 x3 n_b3 n_ps3 _ (Lib.hid Vy.out.2) Rqc hnc HCc HL3 HNb3 HNps3).mono ?_
  rintro e wz ⟨Az, cz, Bz, dz, rfl, hown, hb⟩
  obtain ⟨hst, vz⟩ := var_step hb hown
  have Vd_ := Lib.hid (Vd.out.below hst)
  have Vs_ := Lib.hid (Vs.out.below hst)
  have Vx_ := Lib.hid (Vx.out.below hst)
  have Vy_ := Lib.hid (Vy.out.below hst)
  have Rqa_ := Lib.hid (Rqa.out.below hst)
  have Rqb_ := Lib.hid (Rqb.out.below hst)
  have Rqc_ := Lib.hid (Rqc.out.below hst)
  have HW_ := Lib.hid (bmore HW.out hst (Nat.le_refl _))
  clear HW Vd Vs Vx Vy Rqa Rqb Rqc
  have Vd := Vd_; clear Vd_
  have Vs := Vs_; clear Vs_
  have Vx := Vx_; clear Vx_
  have Vy := Vy_; clear Vy_
  have Rqa := Rqa_; clear Rqa_
  have Rqb := Rqb_; clear Rqb_
  have Rqc := Rqc_; clear Rqc_
  have HW := HW_; clear HW_
  have Vz := Lib.hid vz
  clear hown hb hst vz
  have k0z := Vz.out.c0
  have k1z := Vz.out.c1
  go_wp2_with fail
  clear k0z k1z
  generalize wz.alloc (.cells #[.slice Az n_b3 cz, .slice Bz n_ps3 dz] 25) = uz at Vd Vs Vx Vy Vz Rqa Rqb Rqc HW ⊢
  generalize wz.heap.size = gz at Vz ⊢
  refine (crash_s _ b3 rw ps3 keep many x4 n_rw _ (Lib.hid Vz.out.2) HCR hk1 hk2 hm1 hm2 HNrw).mono ?_
  rintro e ww ⟨Aw, cw, Bw, dw, rfl, hown, hb⟩
  obtain ⟨hst, vw⟩ := var_step hb hown
  have Vd_ := Lib.hid (Vd.out.below hst)
  have Vs_ := Lib.hid (Vs.out.below hst)
  have Vx_ := Lib.hid (Vx.out.below hst)
  have Vy_ := Lib.hid (Vy.out.below hst)
  have Vz_ := Lib.hid (Vz.out.below hst)
  have Rqa_ := Lib.hid (Rqa.out.below hst)
  have Rqb_ := Lib.hid (Rqb.out.below hst)
  have Rqc_ := Lib.hid (Rqc.out.below hst)
  have HW_ := Lib.hid (bmore HW.out hst (Nat.le_refl _))
  clear HW Vd Vs Vx Vy Vz Rqa Rqb Rqc
  have Vd := Vd_; clear Vd_
  have Vs := Vs_; clear Vs_
  have Vx := Vx_; clear Vx_
  have Vy := Vy_; clear Vy_
  have Vz := Vz_; clear Vz_
  have Rqa := Rqa_; clear Rqa_
  have Rqb := Rqb_; clear Rqb_
  have Rqc := Rqc_; clear Rqc_
  have HW := HW_; clear HW_
  have Vw := Lib.hid vw
  clear hown hb hst vw
  have k0d := Vd.out.c0
  have k1d := Vd.out.c1
  go_wp2_with fail
  clear k0d k1d
  generalize ww.alloc (.cells #[.slice Aw n_rw cw, .slice Bw 0 dw] 25) = uw at Vd Vs Vx Vy Vz Vw Rqa Rqb Rqc HW ⊢
  generalize ww.heap.size = gw at Vw ⊢
  refine (great_any _ b ps _ (Lib.hid Vd.out.2) HB0.out HP0).mono ?_
  rintro e w2 ⟨gr, rfl, _, hb⟩
  have Vd_ := Lib.hid (Vd.out.below hb)
  have Vs_ := Lib.hid (Vs.out.below hb)
  have Vx_ := Lib.hid (Vx.out.below hb)
  have Vy_ := Lib.hid (Vy.out.below hb)
  have Vz_ := Lib.hid (Vz.out.below hb)
  have Vw_ := Lib.hid (Vw.out.below hb)
  have Rqa_ := Lib.hid (Rqa.out.below hb)
  have Rqb_ := Lib.hid (Rqb.out.below hb)
  have Rqc_ := Lib.hid (Rqc.out.below hb)
  have HW_ := Lib.hid (bmore HW.out hb (Nat.le_refl _))
  clear HW Vd Vs Vx Vy Vz Vw Rqa Rqb Rqc
  have Vd := Vd_; clear Vd_
  have Vs := Vs_; clear Vs_
  have Vx := Vx_; clear Vx_
  have Vy := Vy_; clear Vy_
  have Vz := Vz_; clear Vz_
  have Vw := Vw_; clear Vw_
  have Rqa := Rqa_; clear Rqa_
  have Rqb := Rqb_; clear Rqb_
  have Rqc := Rqc_; clear Rqc_
  have HW := HW_; clear HW_
  clear hb
  cases gr with
  | true =>
    go_wp2
    go_ret
    exact ⟨rfl, HW.out⟩
  | false =>
  by_cases z0 : x0 = 0
  rotate_left
  · have q : (x0 != 0) = true := by simpa using z0
    go_wp2
    go_ret
    exact ⟨rfl, HW.out⟩
  subst z0
  by_cases z1 : x1 = 0
  rotate_left
  · have q : (x1 != 0) = true := by simpa using z1
    go_wp2
    go_ret
    exact ⟨rfl, HW.out⟩
  subst z1
  by_cases z2 : x2 = 0
  rotate_left
  · have q : (x2 != 0) = true := by simpa using z2
    go_wp2
    go_ret
    exact ⟨rfl, HW.out⟩
  subst z2
  by_cases z3 : x3 = 0
  rotate_left
  · have q : (x3 != 0) = true := by simpa using z3
    go_wp2
    go_ret
    exact ⟨rfl, HW.out⟩
  subst z3
  by_cases z4 : x4 = 0
  rotate_left
  · have q : (x4 != 0) = true := by simpa using z4
    go_wp2
    go_ret
    exact ⟨rfl, HW.out⟩
  subst z4
  obtain ⟨hsm1, hsm2, hsm3, hf1, hf2⟩ := swaps_math HSE.out HL1.out HL2.out HL3.out HCR.out
  rw [HNrs.out, HQLa.out] at hsm1
  rw [HQLb.out, HQLc.out] at hsm2
  rw [HNrw.out, HNrs.out, HQLa.out] at hf1
  rw [HNrw.out, HQLb.out, HQLc.out] at hf2
  have HF1 := Lib.hid hf1
  have HF2 := Lib.hid hf2
  clear hf1 hf2
  have ks := Vs.out.c0
  have kw := Vw.out.c0
  have ss : ∀ nq, (convert 22 9 (.slice As n_rs cs)).run Try.prog (w2.drewN nq) = .ok (.string ⟨rs.toArray⟩) (w2.drewN nq) := fun nq => rd_str (Vs.out.rd.drewN nq)
  have sw : ∀ nq, (convert 22 9 (.slice Aw n_rw cw)).run Try.prog (w2.drewN nq) = .ok (.string ⟨rw.toArray⟩) (w2.drewN nq) := fun nq => rd_str (Vw.out.rd.drewN nq)
  have ss0 := rd_str (c := cs) Vs.out.rd
  have sa0 := rd_str (c := ca) Rqa.out
  have sb0 := rd_str (c := cb) Rqb.out
  have sc0 := rd_str (c := cc) Rqc.out
  have sw0 := rd_str (c := cw) Vw.out.rd
  clear HSE HL1 HL2 HL3 HCR Vd Vs Vx Vy Vz Vw Rqa Rqb Rqc HB0 HP0 HNb1 HNb2 HNb3 HNps1 HNps2 HNps3
  by_cases hk : keep < 2
  · obtain ⟨f1, f2, f3⟩ := HF1.out hk
    obtain ⟨ra, hra⟩ : ∃ ra, rs ++ qa = ra := ⟨_, rfl⟩
    have sap : (⟨rs.toArray⟩ : ByteArray) ++ ⟨qa.toArray⟩ = ⟨ra.toArray⟩ := by rw [← hra]; exact bytes_append rs qa
    have hcat : ¬ 9223372036854775807 < rs.length + qa.length := by rw [HNrs.out, HQLa.out]; omega
    have hral : ra.length = n_rs + na := by rw [← hra, List.length_append, HNrs.out, HQLa.out]
    rw [hra] at f3
    have HRA := Lib.hid hra
    have HRAL := Lib.hid hral
    have HF3 := Lib.hid f3
    clear hra hral f3 HF1 HF2
    have t1 : decide (n_rs ≤ n_rw) = true := by simp; omega
    have t1' : decide ((n_rs : Int) ≤ (n_rw : Int)) = true := by simp; omega
    have t2 : decide (n_rw ≤ ra.length) = true := by rw [HRAL.out]; simp; omega
    have t2' : decide ((n_rw : Int) ≤ (ra.length : Int)) = true := by rw [HRAL.out]; simp; omega
    have t3 : (0 : Int) ≤ (n_rw : Int) := by omega
    have t4 : (n_rw : Int) ≤ (ra.length : Int) := by rw [HRAL.out]; omega
    have hx := extract_take ra rw n_rw HF3.out
    go_wp2_with fail
    go_quiet (fail)
    go_wp2
    go_ret
    exact ⟨rfl, below_drewN HW.out nq⟩
  · obtain ⟨f1, f2, f3⟩ := HF2.out hk
    obtain ⟨ra, hra⟩ : ∃ ra, qb ++ qc = ra := ⟨_, rfl⟩
    have sap : (⟨qb.toArray⟩ : ByteArray) ++ ⟨qc.toArray⟩ = ⟨ra.toArray⟩ := by rw [← hra]; exact bytes_append qb qc
    have hcat : ¬ 9223372036854775807 < qb.length + qc.length := by rw [HQLb.out, HQLc.out]; omega
    have hral : ra.length = nb + nc := by rw [← hra, List.length_append, HQLb.out, HQLc.out]
    rw [hra] at f3
    have HRA := Lib.hid hra
    have HRAL := Lib.hid hral
    have HF3 := Lib.hid f3
    clear hra hral f3 HF1 HF2
    have t1 : decide (nb ≤ n_rw) = true := by simp; omega
    have t1' : decide ((nb : Int) ≤ (n_rw : Int)) = true := by simp; omega
    have t2 : decide (n_rw ≤ ra.length) = true := by rw [HRAL.out]; simp; omega
    have t2' : decide ((n_rw : Int) ≤ (ra.length : Int)) = true := by rw [HRAL.out]; simp; omega
    have t3 : (0 : Int) ≤ (n_rw : Int) := by omega
    have t4 : (n_rw : Int) ≤ (ra.length : Int) := by rw [HRAL.out]; omega
    have hx := extract_take ra rw n_rw HF3.out
    go_wp2_with fail
    go_quiet (fail)
    go_wp2
    go_ret
    exact ⟨rfl, below_drewN HW.out nq⟩

theorem diskSwaps_walk (v : Value) (b : List UInt8) (ps : List DM.Wr) (a1 : Option Addr) (len1 cap1 : Nat) (z1 : List Int) (a2 : Option Addr) (len2 cap2 : Nat) (z2 : List Int) (a3 : Option Addr) (len3 cap3 : Nat) (z3 : List Int) (a4 a5 : Int) (w : World) (w0 : DiskArg w v b ps) (w1 : IsRow .u8 w a1 len1 cap1 z1) (w2 : IsRow .u8 w a2 len2 cap2 z2) (w3 : IsRow .u8 w a3 len3 cap3 z3) (w4 : (Lit.int .i64 a4).wf = true) (w5 : (Lit.int .i64 a5).wf = true) :
    Calls Try.prog 7 #[v, .slice a1 len1 cap1, .slice a2 len2 cap2, .slice a3 len3 cap3, .int .i64 a4, .int .i64 a5] w fun e w' => e = .returned (.bool true) ∧ Below w.heap.size w w' := by
  have h4 : -9223372036854775808 ≤ a4 ∧ a4 ≤ 9223372036854775807 := by simpa [Lit.wf, IntKind.min, IntKind.max, IntKind.signed, IntKind.bits] using w4
  have h5 : -9223372036854775808 ≤ a5 ∧ a5 ≤ 9223372036854775807 := by simpa [Lit.wf, IntKind.min, IntKind.max, IntKind.signed, IntKind.bits] using w5
  exact diskSwaps_core v b ps a1 len1 cap1 _ a2 len2 cap2 _ a3 len3 cap3 _ a4 a5 w (Lib.hid w0) (Lib.hid w1.bytes) w1.len_le.1 (Lib.hid w1.len_le.2.1) (Lib.hid w2.bytes) w2.len_le.1 (Lib.hid w2.len_le.2.1) (Lib.hid w3.bytes) w3.len_le.1 (Lib.hid w3.len_le.2.1) h4.1 h4.2 h5.1 h5.2
end Go.Proofs.Ytnbnnnphepfkkaa
