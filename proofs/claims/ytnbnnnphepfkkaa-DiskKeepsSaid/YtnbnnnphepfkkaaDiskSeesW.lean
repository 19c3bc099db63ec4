/-
  The walk of DiskSees: what is seen behind a write, or a sync, is as the write says.
-/
import Derived.Test.YtnbnnnphepfkkaaDiskArg
import Derived.Test.YtnbnnnphepfkkaaDiskGr
import Derived.Deep.DeepCutAuto
namespace Go.Proofs.Ytnbnnnphepfkkaa
open Go.RowKit
set_option linter.unusedVariables false

theorem sees_append {b q r0 b1 r1 : List UInt8} {ps ps1 : List DM.Wr} {x1 y1 : Int} (hm : DM.may b ps) (hr : r0 = DM.behind b ps) (hl : LenIs b ps (false, q) b1 ps1 x1) (hs : SeeIs b1 ps1 r1 y1) :
    ((x1 = 0 ∧ r0.length + q.length ≤ 1048576 ∧ ps.length < 1024 ∧ r1 = r0 ++ q ∧ ps1.length = ps.length + 1) ∨ (x1 = 9 ∧ ¬ r0.length + q.length ≤ 1048576) ∨ (x1 = 9 ∧ r0.length + q.length ≤ 1048576 ∧ ¬ ps.length < 1024)) ∧ y1 = 0 := by
  rcases hl with ⟨hno, _⟩ | ⟨_, hno, rfl, rfl, rfl⟩ | ⟨_, hyes, rfl, rfl, rfl⟩
  · exact absurd hm hno
  · refine ⟨?_, ?_⟩
    · rw [DM.may_snoc, ← hr] at hno
      by_cases h1 : r0.length + q.length ≤ 1048576
      · exact .inr (.inr ⟨rfl, h1, fun h2 => hno ⟨h2, hm.2, h1⟩⟩)
      · exact .inr (.inl ⟨rfl, h1⟩)
    · rcases hs with ⟨_, _, rfl⟩ | ⟨hno, _⟩
      · rfl
      · exact absurd (by decide) hno
  · refine ⟨.inl ?_, ?_⟩
    · have h2 := DM.may_snoc.1 hyes
      rw [← hr] at h2
      refine ⟨rfl, h2.2.2, h2.1, ?_, by simp⟩
      rcases hs with ⟨_, rfl, rfl⟩ | ⟨hno, _⟩
      · rw [DM.behind_snoc, ← hr]; simp [DM.step]
      · exact absurd hyes hno
    · rcases hs with ⟨_, _, rfl⟩ | ⟨hno, _⟩
      · rfl
      · exact absurd hyes hno
theorem sees_swap {b q r0 b1 r1 : List UInt8} {ps ps1 : List DM.Wr} {x1 y1 : Int} (hm : DM.may b ps) (hr : r0 = DM.behind b ps) (hl : LenIs b ps (true, q) b1 ps1 x1) (hs : SeeIs b1 ps1 r1 y1) :
    ((x1 = 0 ∧ q.length ≤ 1048576 ∧ ps.length < 1024 ∧ r1 = q) ∨ (x1 = 9 ∧ ¬ q.length ≤ 1048576) ∨ (x1 = 9 ∧ q.length ≤ 1048576 ∧ ¬ ps.length < 1024)) ∧ y1 = 0 := by
  rcases hl with ⟨hno, _⟩ | ⟨_, hno, rfl, rfl, rfl⟩ | ⟨_, hyes, rfl, rfl, rfl⟩
  · exact absurd hm hno
  · refine ⟨?_, ?_⟩
    · rw [DM.may_snoc] at hno
      by_cases h1 : q.length ≤ 1048576
      · exact .inr (.inr ⟨rfl, h1, fun h2 => hno ⟨h2, hm.2, by simpa [DM.more] using h1⟩⟩)
      · exact .inr (.inl ⟨rfl, h1⟩)
    · rcases hs with ⟨_, _, rfl⟩ | ⟨hno, _⟩
      · rfl
      · exact absurd (by decide) hno
  · refine ⟨.inl ?_, ?_⟩
    · have h2 := DM.may_snoc.1 hyes
      refine ⟨rfl, by simpa [DM.more] using h2.2.2, h2.1, ?_⟩
      rcases hs with ⟨_, rfl, rfl⟩ | ⟨hno, _⟩
      · rw [DM.behind_snoc]; simp [DM.step]
      · exact absurd hyes hno
    · rcases hs with ⟨_, _, rfl⟩ | ⟨hno, _⟩
      · rfl
      · exact absurd hyes hno
theorem bytes_append (a b : List UInt8) : (⟨a.toArray⟩ : ByteArray) ++ ⟨b.toArray⟩ = ⟨(a ++ b).toArray⟩ := by
  apply ByteArray.ext
  simp

set_option maxRecDepth 100000 in
set_option maxHeartbeats 8000000 in
theorem diskSees_core (v : Value) (b : List UInt8) (ps : List DM.Wr) (Ap : Option Addr) (np cp : Nat) (q : List UInt8) (w : World) (HV : Hid (DiskArg w v b ps)) (HQ : Hid (Rd w Ap np (bc q))) (hnp : np ≤ cp) (HC : Hid (cp ≤ maxLen)) :
    Calls Try.prog 5 #[v, .slice Ap np cp] w fun e w' => e = .returned (.bool true) ∧ Below w.heap.size w w' := by
  obtain ⟨hv0, hb0, hp0⟩ := HV.out
  obtain ⟨A, n, c, B, m, d, rfl, h1, h2, h3, h4, h5, h6⟩ := hv0
  have hbl : b.length = n := by have := h5.1; rwa [bc_length] at this
  have hql : q.length = np := by have := HQ.out.1; rwa [bc_length] at this
  have HPL := Lib.hid h6.1
  have hst : Below w.heap.size w (w.alloc (.cells #[.slice A n c, .slice B m d] 25)) := (Below.refl _ _).alloc (Nat.le_refl _) _
  have HW := Lib.hid hst
  have Vd : Hid (Var (w.alloc (.cells #[.slice A n c, .slice B m d] 25)) w.heap.size A n c B m d b ps) := Lib.hid ⟨Box.new _ _ _, HV.out.1.below hst⟩
  have Rq := Lib.hid (HQ.out.below hst)
  have hm9 : m ≤ 9223372036854775807 := by unfold maxLen at h4; omega
  have hcp9 : cp ≤ 9223372036854775807 := by have := HC.out; unfold maxLen at this; omega
  have HB0 := Lib.hid hb0
  have HP0 := Lib.hid hp0
  have HBL := Lib.hid hbl
  have HQL := Lib.hid hql
  clear hst h1 h2 h3 h4 h5 h6 HV HQ hb0 hp0 hbl hql
  go_enter Try.func5, Try.ntmps5
  go_wp2_with fail
  generalize w.alloc (.cells #[.slice A n c, .slice B m d] 25) = u0 at Vd Rq HW ⊢
  have hgd : w.heap.size = w.heap.size := rfl
  clear hgd
  generalize hgd : w.heap.size = gd at Vd ⊢
  have HGD := Lib.hid hgd; clear hgd
  refine (alive_any _).mono ?_
  rintro e w1 ⟨rfl, hb⟩
  have Vd_ := Lib.hid (Vd.out.below hb)
  have Rq_ := Lib.hid (Rq.out.below hb)
  have HW_ := Lib.hid (bmore HW.out hb (Nat.le_refl _))
  clear HW Vd Rq
  have Vd := Vd_; clear Vd_
  have Rq := Rq_; clear Rq_
  have HW := HW_; clear HW_
  clear hb
  have k0d := Vd.out.c0
  have k1d := Vd.out.c1
  go_wp2_with fail
  clear k0d k1d
  obtain ⟨r0, x0, hse⟩ := seeIs_ex b ps
  obtain ⟨n0, hn0⟩ : ∃ n0, r0.length = n0 := ⟨_, rfl⟩
  have HN0 := Lib.hid hn0
  refine (see_s _ b r0 ps n0 x0 _ (Lib.hid Vd.out.2) (Lib.hid hse) HN0).mono ?_
  clear hn0
  rintro e w0 ⟨A0, c0, rfl, hown, hb⟩
  have Vd_ := Lib.hid (Vd.out.below hb)
  have Rq_ := Lib.hid (Rq.out.below hb)
  have HW_ := Lib.hid (bmore HW.out hb (Nat.le_refl _))
  clear HW Vd Rq
  have Vd := Vd_; clear Vd_
  have Rq := Rq_; clear Rq_
  have HW := HW_; clear HW_
  have R0 := Lib.hid (Rd.of_own hown)
  clear hown hb
  have k0d := Vd.out.c0
  have k1d := Vd.out.c1
  go_wp2_with fail
  clear k0d k1d
  refine (great_any _ b ps _ (Lib.hid Vd.out.2) HB0.out HP0).mono ?_
  rintro e w2 ⟨gr, rfl, _, hb⟩
  have Vd_ := Lib.hid (Vd.out.below hb)
  have Rq_ := Lib.hid (Rq.out.below hb)
  have R0_ := Lib.hid (R0.out.below hb)
  have HW_ := Lib.hid (bmore HW.out hb (Nat.le_refl _))
  clear HW Vd Rq R0
  have Vd := Vd_; clear Vd_
  have Rq := Rq_; clear Rq_
  have R0 := R0_; clear R0_
  have HW := HW_; clear HW_
  clear hb
  cases gr with
  | true =>
    clear hse
    go_wp2
    go_ret
    exact ⟨rfl, HW.out⟩
  | false =>
  by_cases hbig : 2000000 < np
  · clear hse
    go_wp2
    go_ret
    exact ⟨rfl, HW.out⟩
  rcases hse with ⟨hmay, hr0, rfl⟩ | ⟨hmay, hr0, rfl⟩
  rotate_left
  · clear hmay hr0
    go_wp2
    go_ret
    exact ⟨rfl, HW.out⟩
  have hn20 : n0 ≤ 1048576 := by rw [← HN0.out, hr0]; exact DM.fits_all hmay.2
  have hm1024 : m ≤ 1024 := by rw [← HPL.out]; exact hmay.1
  obtain ⟨b1, ps1, x1, hl1⟩ := lenIs_ex b ps (false, q)
  obtain ⟨b2, ps2, x2, hl2⟩ := lenIs_ex b ps (true, q)
  obtain ⟨r1, y1, hs1⟩ := seeIs_ex b1 ps1
  obtain ⟨r2, y2, hs2⟩ := seeIs_ex b2 ps2
  have hs0 : SeeIs b ps r0 0 := .inl ⟨hmay, hr0, rfl⟩
  have hs3 : SeeIs r0 [] r0 0 := .inl ⟨DM.may_nil.2 (by rw [HN0.out]; exact hn20), rfl, rfl⟩
  obtain ⟨nb1, hnb1⟩ : ∃ k, b1.length = k := ⟨_, rfl⟩
  obtain ⟨nb2, hnb2⟩ : ∃ k, b2.length = k := ⟨_, rfl⟩
  obtain ⟨np1, hnp1⟩ : ∃ k, ps1.length = k := ⟨_, rfl⟩
  obtain ⟨np2, hnp2⟩ : ∃ k, ps2.length = k := ⟨_, rfl⟩
  obtain ⟨nr1, hnr1⟩ : ∃ k, r1.length = k := ⟨_, rfl⟩
  obtain ⟨nr2, hnr2⟩ : ∃ k, r2.length = k := ⟨_, rfl⟩
  have HL1 := Lib.hid hl1
  have HL2 := Lib.hid hl2
  have HS0 := Lib.hid hs0
  have HS1 := Lib.hid hs1
  have HS2 := Lib.hid hs2
  have HS3 := Lib.hid hs3
  have HNB1 := Lib.hid hnb1
  have HNB2 := Lib.hid hnb2
  have HNP1 := Lib.hid hnp1
  have HNP2 := Lib.hid hnp2
  have HNR1 := Lib.hid hnr1
  have HNR2 := Lib.hid hnr2
  have HMay := Lib.hid hmay
  have HR0 := Lib.hid hr0
  clear hl1 hl2 hs0 hs1 hs2 hs3 hnb1 hnb2 hnp1 hnp2 hnr1 hnr2 hmay hr0
  have k0d := Vd.out.c0
  have k1d := Vd.out.c1
  go_wp2_with fail
  clear k0d k1d
  refine (append_s _ Ap np cp b q b1 ps ps1 x1 nb1 np1 _ (Lib.hid Vd.out.2) Rq hnp HC HL1 HNB1 HNP1).mono ?_
  rintro e wx ⟨Ax, cx, Bx, dx, rfl, hown, hb⟩
  obtain ⟨hst, vx⟩ := var_step hb hown
  have Vd_ := Lib.hid (Vd.out.below hst)
  have Rq_ := Lib.hid (Rq.out.below hst)
  have R0_ := Lib.hid (R0.out.below hst)
  have HW_ := Lib.hid (bmore HW.out hst (Nat.le_refl _))
  clear HW Vd Rq R0
  have Vd := Vd_; clear Vd_
  have Rq := Rq_; clear Rq_
  have R0 := R0_; clear R0_
  have HW := HW_; clear HW_
  have Vx := Lib.hid vx
  clear hown hb hst vx
  have k0d := Vd.out.c0
  have k1d := Vd.out.c1
  go_wp2_with fail
  clear k0d k1d
  generalize wx.alloc (.cells #[.slice Ax nb1 cx, .slice Bx np1 dx] 25) = ux at Vd Vx Rq R0 HW ⊢
  generalize wx.heap.size = gx at Vx ⊢
  refine (swap_s _ Ap np cp b q b2 ps ps2 x2 nb2 np2 _ (Lib.hid Vd.out.2) Rq hnp HC HL2 HNB2 HNP2).mono ?_
  rintro e wy ⟨Ay, cy, By, dy, rfl, hown, hb⟩
  obtain ⟨hst, vy⟩ := var_step hb hown
  have Vd_ := Lib.hid (Vd.out.below hst)
  have Vx_ := Lib.hid (Vx.out.below hst)
  have Rq_ := Lib.hid (Rq.out.below hst)
  have R0_ := Lib.hid (R0.out.below hst)
  have HW_ := Lib.hid (bmore HW.out hst (Nat.le_refl _))
  clear HW Vd Vx Rq R0
  have Vd := Vd_; clear Vd_
  have Vx := Vx_; clear Vx_
  have Rq := Rq_; clear Rq_
  have R0 := R0_; clear R0_
  have HW := HW_; clear HW_
  have Vy := Lib.hid vy
  clear hown hb hst vy
  have k0d := Vd.out.c0
  have k1d := Vd.out.c1
  go_wp2_with fail
  clear k0d k1d
  generalize wy.alloc (.cells #[.slice Ay nb2 cy, .slice By np2 dy] 25) = uy at Vd Vx Vy Rq R0 HW ⊢
  generalize wy.heap.size = gy at Vy ⊢
  refine (sync_s _ b r0 ps n0 0 _ (Lib.hid Vd.out.2) HS0 HN0).mono ?_
  rintro e wz ⟨Az, cz, Bz, dz, rfl, hown, hb⟩
  obtain ⟨hst, vz⟩ := var_step hb hown
  have Vd_ := Lib.hid (Vd.out.below hst)
  have Vx_ := Lib.hid (Vx.out.below hst)
  have Vy_ := Lib.hid (Vy.out.below hst)
  have Rq_ := Lib.hid (Rq.out.below hst)
  have R0_ := Lib.hid (R0.out.below hst)
  have HW_ := Lib.hid (bmore HW.out hst (Nat.le_refl _))
  clear HW Vd Vx Vy Rq R0
  have Vd := Vd_; clear Vd_
  have Vx := Vx_; clear Vx_
  have Vy := Vy_; clear Vy_
  have Rq := Rq_; clear Rq_
  have R0 := R0_; clear R0_
  have HW := HW_; clear HW_
  have Vz := Lib.hid vz
  clear hown hb hst vz
  have k0x := Vx.out.c0
  have k1x := Vx.out.c1
  go_wp2_with fail
  clear k0x k1x
  generalize wz.alloc (.cells #[.slice Az n0 cz, .slice Bz 0 dz] 25) = uz at Vd Vx Vy Vz Rq R0 HW ⊢
  generalize wz.heap.size = gz at Vz ⊢
  refine (see_s _ b1 r1 ps1 nr1 y1 _ (Lib.hid Vx.out.2) HS1 HNR1).mono ?_
  rintro e w1 ⟨A1, c1, rfl, hown, hb⟩
  have Vd_ := Lib.hid (Vd.out.below hb)
  have Vx_ := Lib.hid (Vx.out.below hb)
  have Vy_ := Lib.hid (Vy.out.below hb)
  have Vz_ := Lib.hid (Vz.out.below hb)
  have Rq_ := Lib.hid (Rq.out.below hb)
  have R0_ := Lib.hid (R0.out.below hb)
  have HW_ := Lib.hid (bmore HW.out hb (Nat.le_refl _))
  clear HW Vd Vx Vy Vz Rq R0
  have Vd := Vd_; clear Vd_
  have Vx := Vx_; clear Vx_
  have Vy := Vy_; clear Vy_
  have Vz := Vz_; clear Vz_
  have Rq := Rq_; clear Rq_
  have R0 := R0_; clear R0_
  have HW := HW_; clear HW_
  have R1 := Lib.hid (Rd.of_own hown)
  clear hown hb
  have k0y := Vy.out.c0
  have k1y := Vy.out.c1
  go_wp2_with fail
  clear k0y k1y
  refine (see_s _ b2 r2 ps2 nr2 y2 _ (Lib.hid Vy.out.2) HS2 HNR2).mono ?_
  rintro e w2 ⟨A2, c2, rfl, hown, hb⟩
  have Vd_ := Lib.hid (Vd.out.below hb)
  have Vx_ := Lib.hid (Vx.out.below hb)
  have Vy_ := Lib.hid (Vy.out.below hb)
  have Vz_ := Lib.hid (Vz.out.below hb)
  have Rq_ := Lib.hid (Rq.out.below hb)
  have R0_ := Lib.hid (R0.out.below hb)
  have R1_ := Lib.hid (R1.out.below hb)
  have HW_ := Lib.hid (bmore HW.out hb (Nat.le_refl _))
  clear HW Vd Vx Vy Vz Rq R0 R1
  have Vd := Vd_; clear Vd_
  have Vx := Vx_; clear Vx_
  have Vy := Vy_; clear Vy_
  have Vz := Vz_; clear Vz_
  have Rq := Rq_; clear Rq_
  have R0 := R0_; clear R0_
  have R1 := R1_; clear R1_
  have HW := HW_; clear HW_
  have R2 := Lib.hid (Rd.of_own hown)
  clear hown hb
  have k0z := Vz.out.c0
  have k1z := Vz.out.c1
  go_wp2_with fail
  clear k0z k1z
  refine (see_s _ r0 r0 [] n0 0 _ (Lib.hid Vz.out.2) HS3 HN0).mono ?_
  rintro e w3 ⟨A3, c3, rfl, hown, hb⟩
  have Vd_ := Lib.hid (Vd.out.below hb)
  have Vx_ := Lib.hid (Vx.out.below hb)
  have Vy_ := Lib.hid (Vy.out.below hb)
  have Vz_ := Lib.hid (Vz.out.below hb)
  have Rq_ := Lib.hid (Rq.out.below hb)
  have R0_ := Lib.hid (R0.out.below hb)
  have R1_ := Lib.hid (R1.out.below hb)
  have R2_ := Lib.hid (R2.out.below hb)
  have HW_ := Lib.hid (bmore HW.out hb (Nat.le_refl _))
  clear HW Vd Vx Vy Vz Rq R0 R1 R2
  have Vd := Vd_; clear Vd_
  have Vx := Vx_; clear Vx_
  have Vy := Vy_; clear Vy_
  have Vz := Vz_; clear Vz_
  have Rq := Rq_; clear Rq_
  have R0 := R0_; clear R0_
  have R1 := R1_; clear R1_
  have R2 := R2_; clear R2_
  have HW := HW_; clear HW_
  have R3 := Lib.hid (Rd.of_own hown)
  clear hown hb
  obtain ⟨e1, hy1⟩ := sees_append HMay.out HR0.out HL1.out HS1.out
  obtain ⟨e2, hy2⟩ := sees_swap HMay.out HR0.out HL2.out HS2.out
  rw [HN0.out, HPL.out, HQL.out, HNP1.out] at e1
  rw [HPL.out, HQL.out] at e2
  subst hy1
  subst hy2
  obtain ⟨rq, hrq⟩ : ∃ rq, r0 ++ q = rq := ⟨_, rfl⟩
  rw [hrq] at e1
  have sa : (⟨r0.toArray⟩ : ByteArray) ++ ⟨q.toArray⟩ = ⟨rq.toArray⟩ := by rw [← hrq]; exact bytes_append r0 q
  have hcat : ¬ 9223372036854775807 < r0.length + q.length := by rw [HN0.out, HQL.out]; omega
  clear hrq
  have kd := Vd.out.c1
  have kx := Vx.out.c1
  have kz := Vz.out.c1
  have s0 := rd_str (c := c0) R0.out
  have sq := rd_str (c := cp) Rq.out
  have s1 := rd_str (c := c1) R1.out
  have s2 := rd_str (c := c2) R2.out
  have s3 := rd_str (c := c3) R3.out
  clear HL1 HL2 HS0 HS1 HS2 HS3 Vd Vx Vy Vz R0 R1 R2 R3 Rq HMay HR0 HNB1 HNB2 HNP1 HNP2 HNR1 HNR2 HN0 HP0 HB0 HBL HC
  rcases e1 with ⟨rfl, t1, t2, rfl, em1⟩ | ⟨rfl, t1⟩ | ⟨rfl, t1, t2⟩ <;> rcases e2 with ⟨rfl, t3, t4, rfl⟩ | ⟨rfl, t3⟩ | ⟨rfl, t3, t4⟩
  · have q1 : decide ((n0 : Int) + (np : Int) ≤ 1048576) = true := by simp; omega
    have q1' : decide (n0 + np ≤ 1048576) = true := by simp; omega
    have q2 : decide ((m : Int) < 1024) = true := by simp; omega
    have q2' : decide (m < 1024) = true := by simp; omega
    have q3 : decide ((np : Int) ≤ 1048576) = true := by simp; omega
    have q3' : decide (np ≤ 1048576) = true := by simp; omega
    have q4 : ((np1 : Int) != (m : Int) + 1) = false := by simp; omega
    clear em1
    go_wp2
    go_ret
    exact ⟨rfl, HW.out⟩
  all_goals first
    | (exfalso; omega)
    | (have q1 : decide ((n0 : Int) + (np : Int) ≤ 1048576) = false := by simp; omega
       have q1' : decide (n0 + np ≤ 1048576) = false := by simp; omega
       have q2 : decide ((m : Int) < 1024) = true := by simp; omega
       have q2' : decide (m < 1024) = true := by simp; omega
       have q3 : decide ((np : Int) ≤ 1048576) = true := by simp; omega
       have q3' : decide (np ≤ 1048576) = true := by simp; omega
       go_wp2
       go_ret
       exact ⟨rfl, HW.out⟩)
    | (have q1 : decide ((n0 : Int) + (np : Int) ≤ 1048576) = false := by simp; omega
       have q1' : decide (n0 + np ≤ 1048576) = false := by simp; omega
       have q3 : decide ((np : Int) ≤ 1048576) = false := by simp; omega
       have q3' : decide (np ≤ 1048576) = false := by simp; omega
       go_wp2
       go_ret
       exact ⟨rfl, HW.out⟩)
    | (have q1 : decide ((n0 : Int) + (np : Int) ≤ 1048576) = false := by simp; omega
       have q1' : decide (n0 + np ≤ 1048576) = false := by simp; omega
       have q2 : decide ((m : Int) < 1024) = false := by simp; omega
       have q2' : decide (m < 1024) = false := by simp; omega
       have q3 : decide ((np : Int) ≤ 1048576) = true := by simp; omega
       have q3' : decide (np ≤ 1048576) = true := by simp; omega
       go_wp2
       go_ret
       exact ⟨rfl, HW.out⟩)
    | (have q1 : decide ((n0 : Int) + (np : Int) ≤ 1048576) = true := by simp; omega
       have q1' : decide (n0 + np ≤ 1048576) = true := by simp; omega
       have q2 : decide ((m : Int) < 1024) = false := by simp; omega
       have q2' : decide (m < 1024) = false := by simp; omega
       have q3 : decide ((np : Int) ≤ 1048576) = true := by simp; omega
       have q3' : decide (np ≤ 1048576) = true := by simp; omega
       go_wp2
       go_ret
       exact ⟨rfl, HW.out⟩)

theorem diskSees_walk (v : Value) (b : List UInt8) (ps : List DM.Wr) (a1 : Option Addr) (len1 cap1 : Nat) (z1 : List Int) (w : World) (w0 : DiskArg w v b ps) (w1 : IsRow .u8 w a1 len1 cap1 z1) :
    Calls Try.prog 5 #[v, .slice a1 len1 cap1] w fun e w' => e = .returned (.bool true) ∧ Below w.heap.size w w' :=
  diskSees_core v b ps a1 len1 cap1 _ w (Lib.hid w0) (Lib.hid w1.bytes) w1.len_le.1 (Lib.hid w1.len_le.2.1)
end Go.Proofs.Ytnbnnnphepfkkaa
