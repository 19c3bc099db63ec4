/-
  The walk of DiskDoes: disks are checked, seen, written, and fail as the document says; what is handed in stays, and what is answered is new memory.
-/
import Derived.Test.YtnbnnnphepfkkaaDiskArg
import Derived.Test.YtnbnnnphepfkkaaDiskGr
import Derived.Test.YtnbnnnphepfkkaaRefW
import Derived.Test.YtnbnnnphepfkkaaRefC
import Derived.Test.YtnbnnnphepfkkaaRefS
import Derived.Test.YtnbnnnphepfkkaaLawTurn
import Derived.Deep.DeepCutAuto
import Derived.Deep.RegionHeld3
namespace Go.Proofs.Ytnbnnnphepfkkaa
open Go.RowKit
set_option linter.unusedVariables false

theorem does_may (b : List UInt8) (ps : List DM.Wr) : ∃ (xc : Int) (gm : Bool), MayIs b ps xc ∧ GIs gm b ps ∧ ((xc == 0) != gm) = false := by
  by_cases h : DM.may b ps
  · exact ⟨0, true, .inl ⟨h, rfl⟩, by simp [GIs, h], rfl⟩
  · exact ⟨30, false, .inr ⟨h, rfl⟩, by simp [GIs, h], rfl⟩

set_option maxRecDepth 100000 in
set_option maxHeartbeats 16000000 in
theorem diskDoes_core (v : Value) (b : List UInt8) (ps : List DM.Wr) (Ap : Option Addr) (np cp : Nat) (q : List UInt8) (keep many : Int) (w : World) (HV : Hid (DiskArg w v b ps)) (HQ : Hid (Rd w Ap np (bc q))) (hnp : np ≤ cp) (HC : Hid (cp ≤ maxLen))
    (hk1 : -9223372036854775808 ≤ keep) (hk2 : keep ≤ 9223372036854775807) (hm1 : -9223372036854775808 ≤ many) (hm2 : many ≤ 9223372036854775807) :
    Calls Try.prog 4 #[v, .slice Ap np cp, .int .i64 keep, .int .i64 many] w fun e w' => e = .returned (.bool true) ∧ Below w.heap.size w w' := by
  obtain ⟨i0, hi, hz0, hz1, hz2⟩ := info_parts info_u8
  obtain ⟨hv0, hb0, hp0⟩ := HV.out
  obtain ⟨A, n, c, B, m, d, rfl, h1, h2, h3, h4, h5, h6⟩ := hv0
  have hbl : b.length = n := by have := h5.1; rwa [bc_length] at this
  have hpl := h6.1
  have HBL := Lib.hid hbl
  have HPL := Lib.hid hpl
  have hst : Below w.heap.size w (w.alloc (.cells #[.slice A n c, .slice B m d] 25)) := (Below.refl _ _).alloc (Nat.le_refl _) _
  have HW := Lib.hid hst
  have Vd : Hid (Var (w.alloc (.cells #[.slice A n c, .slice B m d] 25)) w.heap.size A n c B m d b ps) := Lib.hid ⟨Box.new _ _ _, HV.out.1.below hst⟩
  have Rq := Lib.hid (HQ.out.below hst)
  have hcp9 : cp ≤ 9223372036854775807 := by have := HC.out; unfold maxLen at this; omega
  have HB0 := Lib.hid hb0
  have HP0 := Lib.hid hp0
  clear hst h1 h2 h3 h4 h5 h6 HV hb0 hp0 HQ hbl hpl
  go_enter Try.func4, Try.ntmps4
  go_wp2_with fail
  generalize w.alloc (.cells #[.slice A n c, .slice B m d] 25) = u0 at Vd Rq HW ⊢
  generalize hgd : w.heap.size = gd at Vd ⊢
  have HGD := Lib.hid hgd; clear hgd
  refine (great_any _ b ps _ (Lib.hid Vd.out.2) HB0.out HP0).mono ?_
  rintro e w2 ⟨gr, rfl, hsm, hb⟩
  have Vd_ := Lib.hid (Vd.out.below hb)
  have Rq_ := Lib.hid (Rq.out.below hb)
  have HW_ := Lib.hid (bmore HW.out hb (Nat.le_refl _))
  clear HW Vd Rq
  have Vd := Vd_; clear Vd_
  have Rq := Rq_; clear Rq_
  have HW := HW_; clear HW_
  clear hb
  cases gr with
  | true =>
    clear hsm
    go_wp2
    go_ret
    exact ⟨rfl, HW.out⟩
  | false =>
  have hsmall := hsm rfl
  clear hsm
  by_cases hbig : 2000000 < np
  · clear hsmall
    go_wp2
    go_ret
    exact ⟨rfl, HW.out⟩
  have HT : Hid (DM.total b ps ≤ 140737488355328) := Lib.hid (Nat.le_trans hsmall.1 (by omega))
  have hpsl : ps.length ≤ 100000 := Nat.le_trans hsmall.2 (by omega)
  clear hsmall
  obtain ⟨b1, ps1, x1, hl1⟩ := lenIs_ex b ps (false, q)
  obtain ⟨b2, ps2, x2, hl2⟩ := lenIs_ex b ps (true, q)
  obtain ⟨r3, x3, hs3⟩ := seeIs_ex b ps
  obtain ⟨r4, x4, hc4⟩ := crashIs_ex b ps keep many
  obtain ⟨n_b1, hn_b1⟩ : ∃ k, b1.length = k := ⟨_, rfl⟩
  have HNb1 := Lib.hid hn_b1; clear hn_b1
  obtain ⟨n_b2, hn_b2⟩ : ∃ k, b2.length = k := ⟨_, rfl⟩
  have HNb2 := Lib.hid hn_b2; clear hn_b2
  obtain ⟨n_r3, hn_r3⟩ : ∃ k, r3.length = k := ⟨_, rfl⟩
  have HNr3 := Lib.hid hn_r3; clear hn_r3
  obtain ⟨n_r4, hn_r4⟩ : ∃ k, r4.length = k := ⟨_, rfl⟩
  have HNr4 := Lib.hid hn_r4; clear hn_r4
  obtain ⟨n_ps1, hn_ps1⟩ : ∃ k, ps1.length = k := ⟨_, rfl⟩
  have HNps1 := Lib.hid hn_ps1; clear hn_ps1
  obtain ⟨n_ps2, hn_ps2⟩ : ∃ k, ps2.length = k := ⟨_, rfl⟩
  have HNps2 := Lib.hid hn_ps2; clear hn_ps2
  have HL1 := Lib.hid hl1; clear hl1
  have HL2 := Lib.hid hl2; clear hl2
  have HS3 := Lib.hid hs3; clear hs3
  have HC4 := Lib.hid hc4; clear hc4
  have htw := fun W (hW : DiskIs W (.agg #[.slice A n c, .slice B m d]) b ps) => twin_any (.agg #[.slice A n c, .slice B m d]) b ps W (Lib.hid hW) HT hpsl
  rw [HBL.out, HPL.out] at htw
  have HTw := Lib.hid htw; clear htw
  have k0d := Vd.out.c0
  have k1d := Vd.out.c1
  go_wp2_with fail
  clear k0d k1d
  refine (HTw.out _ Vd.out.2).mono ?_
  rintro e w3 ⟨A9, c9, B9, d9, rfl, hown, hb⟩
  obtain ⟨hst, v9⟩ := var_step hb hown
  have Vd_ := Lib.hid (Vd.out.below hst)
  have Rq_ := Lib.hid (Rq.out.below hst)
  have HW_ := Lib.hid (bmore HW.out hst (Nat.le_refl _))
  clear HW Vd Rq
  have Vd := Vd_; clear Vd_
  have Rq := Rq_; clear Rq_
  have HW := HW_; clear HW_
  have V9 := Lib.hid v9
  clear hown hb hst v9 HTw
  go_upto_region 4 with (fail)
  generalize w3.alloc (.cells #[.slice A9 n c9, .slice B9 m d9] 25) = u3 at Vd V9 Rq HW ⊢
  generalize w3.heap.size = g9 at V9 ⊢
  have k09 := V9.out.c0
  have k19 := V9.out.c1
  go_wp2_with (at_builtin; refine wpList_append_rd _ rfl _ _ 22 rfl u3.heap.size 5 i0 (.int .u8 0) 1 Try.underlying22 hi hz0 hz1 hz2 rfl (.slice none 0 0) 0 [] rfl (World.ownsRow_nil _ _ _ _) Ap np cp (bc q) rfl Rq.out (bc_one q) (by unfold maxLen; omega) (by omega) (Nat.le_refl _) ?_; intro v4 w4 hown4 hg4 hob4; simp only [Nat.zero_add, List.nil_append] at hown4; obtain ⟨Ai, ci, hv4, hci1, hci2⟩ := own_slice hown4; subst hv4; have hb4 : Below u3.heap.size u3 w4 := below_of_grown hg4 (by simp [Value.ownBlock]); have j09 := (V9.out.below hb4).c0; have j19 := (V9.out.below hb4).c1; clear hg4 hob4)
  clear k09 k19 j09 j19 hi hz0 hz1 hz2
  have Vd_ := Lib.hid (Vd.out.below hb4)
  have V9_ := Lib.hid (V9.out.below hb4)
  have Rq_ := Lib.hid (Rq.out.below hb4)
  have HW_ := Lib.hid (bmore HW.out hb4 (Nat.le_refl _))
  clear HW Vd V9 Rq
  have Vd := Vd_; clear Vd_
  have V9 := V9_; clear V9_
  have Rq := Rq_; clear Rq_
  have HW := HW_; clear HW_
  have Ri := Lib.hid (Rd.of_own hown4)
  have HCi := Lib.hid hci2
  clear hown4 hb4 hci2
  have V9f := V9
  have Vdf := Vd
  have Rif := Ri
  have Rqf := Rq
  have HB5 : Hid (Below w4.heap.size w4 w4) := Lib.hid (Below.refl _ _)
  refine (append_s _ Ai np ci b q b1 ps ps1 x1 n_b1 n_ps1 _ (Lib.hid V9.out.2) Ri hci1 HCi HL1 HNb1 HNps1).mono ?_
  have ltx : gd < w4.heap.size := Vd.out.lt
  rintro e wx ⟨Ax, cx, Bx, dx, rfl, hown, hb⟩
  obtain ⟨hst, vx⟩ := var_step hb hown
  have OWx := Lib.hid hown
  have lex := hb.size
  have SMn : Hid (Below wx.heap.size wx (wx.alloc (.cells #[.slice Ax n_b1 cx, .slice Bx n_ps1 dx] 25))) := Lib.hid ((Below.refl _ _).alloc (Nat.le_refl _) _)
  have HB5_ := Lib.hid (bmore HB5.out hst (Nat.le_refl _))
  have Vd_ := Lib.hid (Vd.out.below hst)
  have V9_ := Lib.hid (V9.out.below hst)
  have Rq_ := Lib.hid (Rq.out.below hst)
  have Ri_ := Lib.hid (Ri.out.below hst)
  have HW_ := Lib.hid (bmore HW.out hst (Nat.le_refl _))
  clear HW Vd V9 Rq Ri
  have Vd := Vd_; clear Vd_
  have V9 := V9_; clear V9_
  have Rq := Rq_; clear Rq_
  have Ri := Ri_; clear Ri_
  have HW := HW_; clear HW_
  clear HB5; have HB5 := HB5_; clear HB5_
  have Vx := Lib.hid vx
  clear hown hb hst vx
  have SMx := SMn; clear SMn
  have k0d := Vd.out.c0
  have k1d := Vd.out.c1
  go_wp2_with fail
  clear k0d k1d
  generalize wx.alloc (.cells #[.slice Ax n_b1 cx, .slice Bx n_ps1 dx] 25) = ux at Vd V9 Vx Rq Ri HW SMx HB5 ⊢
  generalize hgx : wx.heap.size = gx at Vx lex ⊢
  have HGx := Lib.hid hgx; clear hgx
  generalize hbx : w4.heap.size = bsx at OWx lex ltx
  have HBsx := Lib.hid hbx; clear hbx
  refine (refWrite_any _ false Ap np cp b q b1 ps ps1 x1 n_b1 n_ps1 _ (Lib.hid Vd.out.2) HT Rq (by omega) HL1 HNb1 HNps1).mono ?_
  rintro e wy ⟨Ay, cy, By, dy, rfl, hown, hb⟩
  obtain ⟨hst, vy⟩ := var_step hb hown
  have SMx_ := Lib.hid (bmore SMx.out hst (Nat.le_refl _))
  have HB5_ := Lib.hid (bmore HB5.out hst (Nat.le_refl _))
  have Vd_ := Lib.hid (Vd.out.below hst)
  have V9_ := Lib.hid (V9.out.below hst)
  have Vx_ := Lib.hid (Vx.out.below hst)
  have Rq_ := Lib.hid (Rq.out.below hst)
  have Ri_ := Lib.hid (Ri.out.below hst)
  have HW_ := Lib.hid (bmore HW.out hst (Nat.le_refl _))
  clear HW Vd V9 Vx Rq Ri
  have Vd := Vd_; clear Vd_
  have V9 := V9_; clear V9_
  have Vx := Vx_; clear Vx_
  have Rq := Rq_; clear Rq_
  have Ri := Ri_; clear Ri_
  have HW := HW_; clear HW_
  clear SMx; have SMx := SMx_; clear SMx_
  clear HB5; have HB5 := HB5_; clear HB5_
  have Vy := Lib.hid vy
  clear hown hb hst vy
  have k09 := V9.out.c0
  have k19 := V9.out.c1
  go_wp2_with fail
  clear k09 k19
  generalize wy.alloc (.cells #[.slice Ay n_b1 cy, .slice By n_ps1 dy] 25) = uy at Vd V9 Vx Vy Rq Ri HW SMx HB5 ⊢
  generalize wy.heap.size = gy at Vy ⊢
  refine (swap_s _ Ai np ci b q b2 ps ps2 x2 n_b2 n_ps2 _ (Lib.hid V9.out.2) Ri hci1 HCi HL2 HNb2 HNps2).mono ?_
  have ltj : gx < uy.heap.size := Vx.out.lt
  rintro e wj ⟨Aj, cj, Bj, dj, rfl, hown, hb⟩
  obtain ⟨hst, vj⟩ := var_step hb hown
  have OWj := Lib.hid hown
  have lej := hb.size
  have SMn : Hid (Below wj.heap.size wj (wj.alloc (.cells #[.slice Aj n_b2 cj, .slice Bj n_ps2 dj] 25))) := Lib.hid ((Below.refl _ _).alloc (Nat.le_refl _) _)
  have SMx_ := Lib.hid (bmore SMx.out hst (Nat.le_refl _))
  have HB5_ := Lib.hid (bmore HB5.out hst (Nat.le_refl _))
  have Vd_ := Lib.hid (Vd.out.below hst)
  have V9_ := Lib.hid (V9.out.below hst)
  have Vx_ := Lib.hid (Vx.out.below hst)
  have Vy_ := Lib.hid (Vy.out.below hst)
  have Rq_ := Lib.hid (Rq.out.below hst)
  have Ri_ := Lib.hid (Ri.out.below hst)
  have HW_ := Lib.hid (bmore HW.out hst (Nat.le_refl _))
  clear HW Vd V9 Vx Vy Rq Ri
  have Vd := Vd_; clear Vd_
  have V9 := V9_; clear V9_
  have Vx := Vx_; clear Vx_
  have Vy := Vy_; clear Vy_
  have Rq := Rq_; clear Rq_
  have Ri := Ri_; clear Ri_
  have HW := HW_; clear HW_
  clear SMx; have SMx := SMx_; clear SMx_
  clear HB5; have HB5 := HB5_; clear HB5_
  have Vj := Lib.hid vj
  clear hown hb hst vj
  have SMj := SMn; clear SMn
  have k0d := Vd.out.c0
  have k1d := Vd.out.c1
  go_wp2_with fail
  clear k0d k1d
  generalize wj.alloc (.cells #[.slice Aj n_b2 cj, .slice Bj n_ps2 dj] 25) = uj at Vd V9 Vx Vy Vj Rq Ri HW SMx SMj HB5 ⊢
  generalize hgj : wj.heap.size = gj at Vj lej ⊢
  have HGj := Lib.hid hgj; clear hgj
  generalize hbj : uy.heap.size = bsj at OWj lej ltj
  have HBsj := Lib.hid hbj; clear hbj
  refine (refWrite_any _ true Ap np cp b q b2 ps ps2 x2 n_b2 n_ps2 _ (Lib.hid Vd.out.2) HT Rq (by omega) HL2 HNb2 HNps2).mono ?_
  rintro e wh ⟨Ah, ch, Bh, dh, rfl, hown, hb⟩
  obtain ⟨hst, vh⟩ := var_step hb hown
  have SMx_ := Lib.hid (bmore SMx.out hst (Nat.le_refl _))
  have SMj_ := Lib.hid (bmore SMj.out hst (Nat.le_refl _))
  have HB5_ := Lib.hid (bmore HB5.out hst (Nat.le_refl _))
  have Vd_ := Lib.hid (Vd.out.below hst)
  have V9_ := Lib.hid (V9.out.below hst)
  have Vx_ := Lib.hid (Vx.out.below hst)
  have Vy_ := Lib.hid (Vy.out.below hst)
  have Vj_ := Lib.hid (Vj.out.below hst)
  have Rq_ := Lib.hid (Rq.out.below hst)
  have Ri_ := Lib.hid (Ri.out.below hst)
  have HW_ := Lib.hid (bmore HW.out hst (Nat.le_refl _))
  clear HW Vd V9 Vx Vy Vj Rq Ri
  have Vd := Vd_; clear Vd_
  have V9 := V9_; clear V9_
  have Vx := Vx_; clear Vx_
  have Vy := Vy_; clear Vy_
  have Vj := Vj_; clear Vj_
  have Rq := Rq_; clear Rq_
  have Ri := Ri_; clear Ri_
  have HW := HW_; clear HW_
  clear SMx; have SMx := SMx_; clear SMx_
  clear SMj; have SMj := SMj_; clear SMj_
  clear HB5; have HB5 := HB5_; clear HB5_
  have Vh := Lib.hid vh
  clear hown hb hst vh
  have k09 := V9.out.c0
  have k19 := V9.out.c1
  go_wp2_with fail
  clear k09 k19
  generalize wh.alloc (.cells #[.slice Ah n_b2 ch, .slice Bh n_ps2 dh] 25) = uh at Vd V9 Vx Vy Vj Vh Rq Ri HW SMx SMj HB5 ⊢
  generalize wh.heap.size = gh at Vh ⊢
  refine (sync_s _ b r3 ps n_r3 x3 _ (Lib.hid V9.out.2) HS3 HNr3).mono ?_
  have lts : gj < uh.heap.size := Vj.out.lt
  rintro e ws ⟨As, cs, Bs, ds, rfl, hown, hb⟩
  obtain ⟨hst, vs⟩ := var_step hb hown
  have OWs := Lib.hid hown
  have les := hb.size
  have SMn : Hid (Below ws.heap.size ws (ws.alloc (.cells #[.slice As n_r3 cs, .slice Bs 0 ds] 25))) := Lib.hid ((Below.refl _ _).alloc (Nat.le_refl _) _)
  have SMx_ := Lib.hid (bmore SMx.out hst (Nat.le_refl _))
  have SMj_ := Lib.hid (bmore SMj.out hst (Nat.le_refl _))
  have HB5_ := Lib.hid (bmore HB5.out hst (Nat.le_refl _))
  have Vd_ := Lib.hid (Vd.out.below hst)
  have V9_ := Lib.hid (V9.out.below hst)
  have Vx_ := Lib.hid (Vx.out.below hst)
  have Vy_ := Lib.hid (Vy.out.below hst)
  have Vj_ := Lib.hid (Vj.out.below hst)
  have Vh_ := Lib.hid (Vh.out.below hst)
  have Rq_ := Lib.hid (Rq.out.below hst)
  have Ri_ := Lib.hid (Ri.out.below hst)
  have HW_ := Lib.hid (bmore HW.out hst (Nat.le_refl _))
  clear HW Vd V9 Vx Vy Vj Vh Rq Ri
  have Vd := Vd_; clear Vd_
  have V9 := V9_; clear V9_
  have Vx := Vx_; clear Vx_
  have Vy := Vy_; clear Vy_
  have Vj := Vj_; clear Vj_
  have Vh := Vh_; clear Vh_
  have Rq := Rq_; clear Rq_
  have Ri := Ri_; clear Ri_
  have HW := HW_; clear HW_
  clear SMx; have SMx := SMx_; clear SMx_
  clear SMj; have SMj := SMj_; clear SMj_
  clear HB5; have HB5 := HB5_; clear HB5_
  have Vs := Lib.hid vs
  clear hown hb hst vs
  have SMs := SMn; clear SMn
  have k0d := Vd.out.c0
  have k1d := Vd.out.c1
  go_wp2_with fail
  clear k0d k1d
  generalize ws.alloc (.cells #[.slice As n_r3 cs, .slice Bs 0 ds] 25) = us at Vd V9 Vx Vy Vj Vh Vs Rq Ri HW SMx SMj SMs HB5 ⊢
  generalize hgs : ws.heap.size = gs at Vs les ⊢
  have HGs := Lib.hid hgs; clear hgs
  generalize hbs : uh.heap.size = bss at OWs les lts
  have HBss := Lib.hid hbs; clear hbs
  refine (refSync_any _ b r3 ps n_r3 x3 _ (Lib.hid Vd.out.2) HT HS3 HNr3).mono ?_
  rintro e wt ⟨At, ct, Bt, dt, rfl, hown, hb⟩
  obtain ⟨hst, vt⟩ := var_step hb hown
  have SMx_ := Lib.hid (bmore SMx.out hst (Nat.le_refl _))
  have SMj_ := Lib.hid (bmore SMj.out hst (Nat.le_refl _))
  have SMs_ := Lib.hid (bmore SMs.out hst (Nat.le_refl _))
  have HB5_ := Lib.hid (bmore HB5.out hst (Nat.le_refl _))
  have Vd_ := Lib.hid (Vd.out.below hst)
  have V9_ := Lib.hid (V9.out.below hst)
  have Vx_ := Lib.hid (Vx.out.below hst)
  have Vy_ := Lib.hid (Vy.out.below hst)
  have Vj_ := Lib.hid (Vj.out.below hst)
  have Vh_ := Lib.hid (Vh.out.below hst)
  have Vs_ := Lib.hid (Vs.out.below hst)
  have Rq_ := Lib.hid (Rq.out.below hst)
  have Ri_ := Lib.hid (Ri.out.below hst)
  have HW_ := Lib.hid (bmore HW.out hst (Nat.le_refl _))
  clear HW Vd V9 Vx Vy Vj Vh Vs Rq Ri
  have Vd := Vd_; clear Vd_
  have V9 := V9_; clear V9_
  have Vx := Vx_; clear Vx_
  have Vy := Vy_; clear Vy_
  have Vj := Vj_; clear Vj_
  have Vh := Vh_; clear Vh_
  have Vs := Vs_; clear Vs_
  have Rq := Rq_; clear Rq_
  have Ri := Ri_; clear Ri_
  have HW := HW_; clear HW_
  clear SMx; have SMx := SMx_; clear SMx_
  clear SMj; have SMj := SMj_; clear SMj_
  clear SMs; have SMs := SMs_; clear SMs_
  clear HB5; have HB5 := HB5_; clear HB5_
  have Vt := Lib.hid vt
  clear hown hb hst vt
  have k09 := V9.out.c0
  have k19 := V9.out.c1
  go_wp2_with fail
  clear k09 k19
  generalize wt.alloc (.cells #[.slice At n_r3 ct, .slice Bt 0 dt] 25) = ut at Vd V9 Vx Vy Vj Vh Vs Vt Rq Ri HW SMx SMj SMs HB5 ⊢
  generalize wt.heap.size = gt at Vt ⊢
  refine (crash_s _ b r4 ps keep many x4 n_r4 _ (Lib.hid V9.out.2) HC4 hk1 hk2 hm1 hm2 HNr4).mono ?_
  have ltu : gs < ut.heap.size := Vs.out.lt
  rintro e wu ⟨Au, cu, Bu, du, rfl, hown, hb⟩
  obtain ⟨hst, vu⟩ := var_step hb hown
  have OWu := Lib.hid hown
  have leu := hb.size
  have SMn : Hid (Below wu.heap.size wu (wu.alloc (.cells #[.slice Au n_r4 cu, .slice Bu 0 du] 25))) := Lib.hid ((Below.refl _ _).alloc (Nat.le_refl _) _)
  have SMx_ := Lib.hid (bmore SMx.out hst (Nat.le_refl _))
  have SMj_ := Lib.hid (bmore SMj.out hst (Nat.le_refl _))
  have SMs_ := Lib.hid (bmore SMs.out hst (Nat.le_refl _))
  have HB5_ := Lib.hid (bmore HB5.out hst (Nat.le_refl _))
  have Vd_ := Lib.hid (Vd.out.below hst)
  have V9_ := Lib.hid (V9.out.below hst)
  have Vx_ := Lib.hid (Vx.out.below hst)
  have Vy_ := Lib.hid (Vy.out.below hst)
  have Vj_ := Lib.hid (Vj.out.below hst)
  have Vh_ := Lib.hid (Vh.out.below hst)
  have Vs_ := Lib.hid (Vs.out.below hst)
  have Vt_ := Lib.hid (Vt.out.below hst)
  have Rq_ := Lib.hid (Rq.out.below hst)
  have Ri_ := Lib.hid (Ri.out.below hst)
  have HW_ := Lib.hid (bmore HW.out hst (Nat.le_refl _))
  clear HW Vd V9 Vx Vy Vj Vh Vs Vt Rq Ri
  have Vd := Vd_; clear Vd_
  have V9 := V9_; clear V9_
  have Vx := Vx_; clear Vx_
  have Vy := Vy_; clear Vy_
  have Vj := Vj_; clear Vj_
  have Vh := Vh_; clear Vh_
  have Vs := Vs_; clear Vs_
  have Vt := Vt_; clear Vt_
  have Rq := Rq_; clear Rq_
  have Ri := Ri_; clear Ri_
  have HW := HW_; clear HW_
  clear SMx; have SMx := SMx_; clear SMx_
  clear SMj; have SMj := SMj_; clear SMj_
  clear SMs; have SMs := SMs_; clear SMs_
  clear HB5; have HB5 := HB5_; clear HB5_
  have Vu := Lib.hid vu
  clear hown hb hst vu
  have SMu := SMn; clear SMn
  have k0d := Vd.out.c0
  have k1d := Vd.out.c1
  go_wp2_with fail
  clear k0d k1d
  generalize wu.alloc (.cells #[.slice Au n_r4 cu, .slice Bu 0 du] 25) = uu at Vd V9 Vx Vy Vj Vh Vs Vt Vu Rq Ri HW SMx SMj SMs SMu HB5 ⊢
  generalize hgu : wu.heap.size = gu at Vu leu ⊢
  have HGu := Lib.hid hgu; clear hgu
  generalize hbu : ut.heap.size = bsu at OWu leu ltu
  have HBsu := Lib.hid hbu; clear hbu
  refine (refCrash_any _ b r4 ps keep many x4 n_r4 _ (Lib.hid Vd.out.2) HT HC4 hk1 hk2 hm1 hm2 HNr4).mono ?_
  rintro e wv ⟨Av, cv, Bv, dv, rfl, hown, hb⟩
  obtain ⟨hst, vv⟩ := var_step hb hown
  have SMx_ := Lib.hid (bmore SMx.out hst (Nat.le_refl _))
  have SMj_ := Lib.hid (bmore SMj.out hst (Nat.le_refl _))
  have SMs_ := Lib.hid (bmore SMs.out hst (Nat.le_refl _))
  have SMu_ := Lib.hid (bmore SMu.out hst (Nat.le_refl _))
  have HB5_ := Lib.hid (bmore HB5.out hst (Nat.le_refl _))
  have Vd_ := Lib.hid (Vd.out.below hst)
  have V9_ := Lib.hid (V9.out.below hst)
  have Vx_ := Lib.hid (Vx.out.below hst)
  have Vy_ := Lib.hid (Vy.out.below hst)
  have Vj_ := Lib.hid (Vj.out.below hst)
  have Vh_ := Lib.hid (Vh.out.below hst)
  have Vs_ := Lib.hid (Vs.out.below hst)
  have Vt_ := Lib.hid (Vt.out.below hst)
  have Vu_ := Lib.hid (Vu.out.below hst)
  have Rq_ := Lib.hid (Rq.out.below hst)
  have Ri_ := Lib.hid (Ri.out.below hst)
  have HW_ := Lib.hid (bmore HW.out hst (Nat.le_refl _))
  clear HW Vd V9 Vx Vy Vj Vh Vs Vt Vu Rq Ri
  have Vd := Vd_; clear Vd_
  have V9 := V9_; clear V9_
  have Vx := Vx_; clear Vx_
  have Vy := Vy_; clear Vy_
  have Vj := Vj_; clear Vj_
  have Vh := Vh_; clear Vh_
  have Vs := Vs_; clear Vs_
  have Vt := Vt_; clear Vt_
  have Vu := Vu_; clear Vu_
  have Rq := Rq_; clear Rq_
  have Ri := Ri_; clear Ri_
  have HW := HW_; clear HW_
  clear SMx; have SMx := SMx_; clear SMx_
  clear SMj; have SMj := SMj_; clear SMj_
  clear SMs; have SMs := SMs_; clear SMs_
  clear SMu; have SMu := SMu_; clear SMu_
  clear HB5; have HB5 := HB5_; clear HB5_
  have Vv := Lib.hid vv
  clear hown hb hst vv
  have k09 := V9.out.c0
  have k19 := V9.out.c1
  go_wp2_with fail
  clear k09 k19
  generalize wv.alloc (.cells #[.slice Av n_r4 cv, .slice Bv 0 dv] 25) = uv at Vd V9 Vx Vy Vj Vh Vs Vt Vu Vv Rq Ri HW SMx SMj SMs SMu HB5 ⊢
  generalize wv.heap.size = gv at Vv ⊢
  refine (see_s _ b r3 ps n_r3 x3 _ (Lib.hid V9.out.2) HS3 HNr3).mono ?_
  rintro e wz ⟨Az, cz, rfl, hown, hb⟩
  have SMx_ := Lib.hid (bmore SMx.out hb (Nat.le_refl _))
  have SMj_ := Lib.hid (bmore SMj.out hb (Nat.le_refl _))
  have SMs_ := Lib.hid (bmore SMs.out hb (Nat.le_refl _))
  have SMu_ := Lib.hid (bmore SMu.out hb (Nat.le_refl _))
  have HB5_ := Lib.hid (bmore HB5.out hb (Nat.le_refl _))
  have Vd_ := Lib.hid (Vd.out.below hb)
  have V9_ := Lib.hid (V9.out.below hb)
  have Vx_ := Lib.hid (Vx.out.below hb)
  have Vy_ := Lib.hid (Vy.out.below hb)
  have Vj_ := Lib.hid (Vj.out.below hb)
  have Vh_ := Lib.hid (Vh.out.below hb)
  have Vs_ := Lib.hid (Vs.out.below hb)
  have Vt_ := Lib.hid (Vt.out.below hb)
  have Vu_ := Lib.hid (Vu.out.below hb)
  have Vv_ := Lib.hid (Vv.out.below hb)
  have Rq_ := Lib.hid (Rq.out.below hb)
  have Ri_ := Lib.hid (Ri.out.below hb)
  have HW_ := Lib.hid (bmore HW.out hb (Nat.le_refl _))
  clear HW Vd V9 Vx Vy Vj Vh Vs Vt Vu Vv Rq Ri
  have Vd := Vd_; clear Vd_
  have V9 := V9_; clear V9_
  have Vx := Vx_; clear Vx_
  have Vy := Vy_; clear Vy_
  have Vj := Vj_; clear Vj_
  have Vh := Vh_; clear Vh_
  have Vs := Vs_; clear Vs_
  have Vt := Vt_; clear Vt_
  have Vu := Vu_; clear Vu_
  have Vv := Vv_; clear Vv_
  have Rq := Rq_; clear Rq_
  have Ri := Ri_; clear Ri_
  have HW := HW_; clear HW_
  clear SMx; have SMx := SMx_; clear SMx_
  clear SMj; have SMj := SMj_; clear SMj_
  clear SMs; have SMs := SMs_; clear SMs_
  clear SMu; have SMu := SMu_; clear SMu_
  clear HB5; have HB5 := HB5_; clear HB5_
  have Rz := Lib.hid (Rd.of_own hown)
  clear hown hb
  have k0d := Vd.out.c0
  have k1d := Vd.out.c1
  go_wp2_with fail
  clear k0d k1d
  refine (refSee_any _ b r3 ps n_r3 x3 _ (Lib.hid Vd.out.2) HT HS3 HNr3).mono ?_
  rintro e wk ⟨Ak, ck, rfl, hown, hb⟩
  have SMx_ := Lib.hid (bmore SMx.out hb (Nat.le_refl _))
  have SMj_ := Lib.hid (bmore SMj.out hb (Nat.le_refl _))
  have SMs_ := Lib.hid (bmore SMs.out hb (Nat.le_refl _))
  have SMu_ := Lib.hid (bmore SMu.out hb (Nat.le_refl _))
  have HB5_ := Lib.hid (bmore HB5.out hb (Nat.le_refl _))
  have Vd_ := Lib.hid (Vd.out.below hb)
  have V9_ := Lib.hid (V9.out.below hb)
  have Vx_ := Lib.hid (Vx.out.below hb)
  have Vy_ := Lib.hid (Vy.out.below hb)
  have Vj_ := Lib.hid (Vj.out.below hb)
  have Vh_ := Lib.hid (Vh.out.below hb)
  have Vs_ := Lib.hid (Vs.out.below hb)
  have Vt_ := Lib.hid (Vt.out.below hb)
  have Vu_ := Lib.hid (Vu.out.below hb)
  have Vv_ := Lib.hid (Vv.out.below hb)
  have Rq_ := Lib.hid (Rq.out.below hb)
  have Ri_ := Lib.hid (Ri.out.below hb)
  have Rz_ := Lib.hid (Rz.out.below hb)
  have HW_ := Lib.hid (bmore HW.out hb (Nat.le_refl _))
  clear HW Vd V9 Vx Vy Vj Vh Vs Vt Vu Vv Rq Ri Rz
  have Vd := Vd_; clear Vd_
  have V9 := V9_; clear V9_
  have Vx := Vx_; clear Vx_
  have Vy := Vy_; clear Vy_
  have Vj := Vj_; clear Vj_
  have Vh := Vh_; clear Vh_
  have Vs := Vs_; clear Vs_
  have Vt := Vt_; clear Vt_
  have Vu := Vu_; clear Vu_
  have Vv := Vv_; clear Vv_
  have Rq := Rq_; clear Rq_
  have Ri := Ri_; clear Ri_
  have Rz := Rz_; clear Rz_
  have HW := HW_; clear HW_
  clear SMx; have SMx := SMx_; clear SMx_
  clear SMj; have SMj := SMj_; clear SMj_
  clear SMs; have SMs := SMs_; clear SMs_
  clear SMu; have SMu := SMu_; clear SMu_
  clear HB5; have HB5 := HB5_; clear HB5_
  have Rk := Lib.hid (Rd.of_own hown)
  clear hown hb
  go_upto_region 15 with (fail)
  have hS : ∀ w', Below wk.heap.size wk w' → w'.cell? ⟨gx, 0, none⟩ = some (.slice Ax n_b1 cx) ∧ w'.cell? ⟨gx, 1, none⟩ = some (.slice Bx n_ps1 dx) ∧ w'.cell? ⟨gy, 0, none⟩ = some (.slice Ay n_b1 cy) ∧ w'.cell? ⟨gy, 1, none⟩ = some (.slice By n_ps1 dy) ∧ w'.cell? ⟨gj, 0, none⟩ = some (.slice Aj n_b2 cj) ∧ w'.cell? ⟨gj, 1, none⟩ = some (.slice Bj n_ps2 dj) ∧ w'.cell? ⟨gh, 0, none⟩ = some (.slice Ah n_b2 ch) ∧ w'.cell? ⟨gh, 1, none⟩ = some (.slice Bh n_ps2 dh) ∧ w'.cell? ⟨gs, 0, none⟩ = some (.slice As n_r3 cs) ∧ w'.cell? ⟨gs, 1, none⟩ = some (.slice Bs 0 ds) ∧ w'.cell? ⟨gt, 0, none⟩ = some (.slice At n_r3 ct) ∧ w'.cell? ⟨gt, 1, none⟩ = some (.slice Bt 0 dt) ∧ w'.cell? ⟨gu, 0, none⟩ = some (.slice Au n_r4 cu) ∧ w'.cell? ⟨gu, 1, none⟩ = some (.slice Bu 0 du) ∧ w'.cell? ⟨gv, 0, none⟩ = some (.slice Av n_r4 cv) ∧ w'.cell? ⟨gv, 1, none⟩ = some (.slice Bv 0 dv) ∧ w'.cell? ⟨g9, 0, none⟩ = some (.slice A9 n c9) ∧ w'.cell? ⟨g9, 1, none⟩ = some (.slice B9 m d9) ∧ w'.cell? ⟨gd, 0, none⟩ = some (.slice A n c) ∧ w'.cell? ⟨gd, 1, none⟩ = some (.slice B m d) ∧ (convert 22 9 (.slice Az n_r3 cz)).run Try.prog w' = .ok (.string ⟨r3.toArray⟩) w' ∧ (convert 22 9 (.slice Ak n_r3 ck)).run Try.prog w' = .ok (.string ⟨r3.toArray⟩) w' := fun w' hb => ⟨(Vx.out.below hb).c0, (Vx.out.below hb).c1, (Vy.out.below hb).c0, (Vy.out.below hb).c1, (Vj.out.below hb).c0, (Vj.out.below hb).c1, (Vh.out.below hb).c0, (Vh.out.below hb).c1, (Vs.out.below hb).c0, (Vs.out.below hb).c1, (Vt.out.below hb).c0, (Vt.out.below hb).c1, (Vu.out.below hb).c0, (Vu.out.below hb).c1, (Vv.out.below hb).c0, (Vv.out.below hb).c1, (V9.out.below hb).c0, (V9.out.below hb).c1, (Vd.out.below hb).c0, (Vd.out.below hb).c1, rd_str (Rz.out.below hb), rd_str (Rk.out.below hb)⟩
  have HSS := Lib.hid hS; clear hS
  obtain ⟨xc, gm, hcm, hgm, hxg⟩ : ∃ (xc : Int) (gm : Bool), MayIs b ps xc ∧ GIs gm b ps ∧ ((xc == 0) != gm) = false := does_may b ps
  have HCM := Lib.hid hcm; have HGM := Lib.hid hgm; clear hcm hgm
  have HXE : Hid ((xc == 0) = gm) := Lib.hid (by simpa using hxg)
  have bb1 : Below wk.heap.size wk wk.drew := (Below.refl _ _).drew
  have Dx := Lib.hid Vx.out.2
  have Dy := Lib.hid Vy.out.2
  have Dj := Lib.hid Vj.out.2
  have Dh := Lib.hid Vh.out.2
  have Ds := Lib.hid Vs.out.2
  have Dt := Lib.hid Vt.out.2
  have Du := Lib.hid Vu.out.2
  have Dv := Lib.hid Vv.out.2
  have D9 := Lib.hid V9.out.2
  have Dd := Lib.hid Vd.out.2
  have hk0 := HSS.out wk (Below.refl _ _)
  obtain ⟨q0, q1, q2, q3, q4, q5, q6, q7, q8, q9, q10, q11, q12, q13, q14, q15, q16, q17, q18, q19, q20, q21⟩ := hk0
  go_cut [163] (fun u wx => u = .bool false ∧ Below wk.heap.size wk wx)
  case first =>
    go_region_held3 (fun w' => w'.cell? ⟨gx, 0, none⟩ = some (.slice Ax n_b1 cx) ∧ w'.cell? ⟨gx, 1, none⟩ = some (.slice Bx n_ps1 dx) ∧ w'.cell? ⟨gy, 0, none⟩ = some (.slice Ay n_b1 cy) ∧ w'.cell? ⟨gy, 1, none⟩ = some (.slice By n_ps1 dy) ∧ w'.cell? ⟨gj, 0, none⟩ = some (.slice Aj n_b2 cj) ∧ w'.cell? ⟨gj, 1, none⟩ = some (.slice Bj n_ps2 dj) ∧ w'.cell? ⟨gh, 0, none⟩ = some (.slice Ah n_b2 ch) ∧ w'.cell? ⟨gh, 1, none⟩ = some (.slice Bh n_ps2 dh) ∧ w'.cell? ⟨gs, 0, none⟩ = some (.slice As n_r3 cs) ∧ w'.cell? ⟨gs, 1, none⟩ = some (.slice Bs 0 ds) ∧ w'.cell? ⟨gt, 0, none⟩ = some (.slice At n_r3 ct) ∧ w'.cell? ⟨gt, 1, none⟩ = some (.slice Bt 0 dt) ∧ w'.cell? ⟨gu, 0, none⟩ = some (.slice Au n_r4 cu) ∧ w'.cell? ⟨gu, 1, none⟩ = some (.slice Bu 0 du) ∧ w'.cell? ⟨gv, 0, none⟩ = some (.slice Av n_r4 cv) ∧ w'.cell? ⟨gv, 1, none⟩ = some (.slice Bv 0 dv) ∧ w'.cell? ⟨g9, 0, none⟩ = some (.slice A9 n c9) ∧ w'.cell? ⟨g9, 1, none⟩ = some (.slice B9 m d9) ∧ w'.cell? ⟨gd, 0, none⟩ = some (.slice A n c) ∧ w'.cell? ⟨gd, 1, none⟩ = some (.slice B m d) ∧ (convert 22 9 (.slice Az n_r3 cz)).run Try.prog w' = .ok (.string ⟨r3.toArray⟩) w' ∧ (convert 22 9 (.slice Ak n_r3 ck)).run Try.prog w' = .ok (.string ⟨r3.toArray⟩) w')
      (first | exact HSS.out _ bb9 | exact HSS.out _ bb8 | exact HSS.out _ bb7 | exact HSS.out _ bb6 | exact HSS.out _ bb5 | exact HSS.out _ bb4 | exact HSS.out _ bb3 | exact HSS.out _ bb2 | exact HSS.out _ bb1 | go_keep)
      (first
        | (go_at_call 22; ((with_reducible refine (same_any (.agg #[.slice Ax n_b1 cx, .slice Bx n_ps1 dx]) (.agg #[.slice Ay n_b1 cy, .slice By n_ps1 dy]) b1 ps1 _ (Lib.hid (Dx.out.below bb1)) (Lib.hid (Dy.out.below bb1))).mono ?_); rintro e wa1 ⟨rfl, ha1⟩; have bb2 : Below wk.heap.size wk wa1 := bb1.trans (ha1.mono bb1.size)))
        | (go_at_call 22; ((with_reducible refine (same_any (.agg #[.slice Aj n_b2 cj, .slice Bj n_ps2 dj]) (.agg #[.slice Ah n_b2 ch, .slice Bh n_ps2 dh]) b2 ps2 _ (Lib.hid (Dj.out.below bb2)) (Lib.hid (Dh.out.below bb2))).mono ?_); rintro e wa2 ⟨rfl, ha2⟩; have bb3 : Below wk.heap.size wk wa2 := bb2.trans (ha2.mono bb2.size)))
        | (go_at_call 22; ((with_reducible refine (same_any (.agg #[.slice As n_r3 cs, .slice Bs 0 ds]) (.agg #[.slice At n_r3 ct, .slice Bt 0 dt]) r3 [] _ (Lib.hid (Ds.out.below bb3)) (Lib.hid (Dt.out.below bb3))).mono ?_); rintro e wa3 ⟨rfl, ha3⟩; have bb4 : Below wk.heap.size wk wa3 := bb3.trans (ha3.mono bb3.size)))
        | (go_at_call 22; ((with_reducible refine (same_any (.agg #[.slice Au n_r4 cu, .slice Bu 0 du]) (.agg #[.slice Av n_r4 cv, .slice Bv 0 dv]) r4 [] _ (Lib.hid (Du.out.below bb4)) (Lib.hid (Dv.out.below bb4))).mono ?_); rintro e wa4 ⟨rfl, ha4⟩; have bb5 : Below wk.heap.size wk wa4 := bb4.trans (ha4.mono bb4.size)))
        | (go_at_call 13; ((with_reducible refine (check_v A9 B9 n c9 m d9 b ps xc _ (Lib.hid (D9.out.below bb5)) HCM).mono ?_); rintro e wb1 ⟨rfl, hc1⟩; have bb6 : Below wk.heap.size wk wb1 := bb5.trans (hc1.mono bb5.size)))
        | (go_at_call 23; ((with_reducible refine (may_any (.agg #[.slice A n c, .slice B m d]) b ps gm _ (Lib.hid (Dd.out.below bb6)) HT HGM).mono ?_); rintro e wb2 ⟨rfl, hc2⟩; have bb7 : Below wk.heap.size wk wb2 := bb6.trans (hc2.mono bb6.size)))
        | (go_at_call 23; ((with_reducible refine (may_any (.agg #[.slice A n c, .slice B m d]) b ps gm _ (Lib.hid (Dd.out.below bb5)) HT HGM).mono ?_); rintro e wb3 ⟨rfl, hc3⟩; have bb8 : Below wk.heap.size wk wb3 := bb5.trans (hc3.mono bb5.size)))
        | (go_at_call 13; ((with_reducible refine (check_v A9 B9 n c9 m d9 b ps xc _ (Lib.hid (D9.out.below bb8)) HCM).mono ?_); rintro e wb4 ⟨rfl, hc4⟩; have bb9 : Below wk.heap.size wk wb4 := bb8.trans (hc4.mono bb8.size)))
      )
    all_goals (go_wp2_with fail; go_meet; case rel => exact ⟨by first | rfl | (simp; exact HXE.out), by first | exact bb7 | exact bb9⟩)
  case rest =>
    obtain ⟨rfl, hbc⟩ := hcut
    clear q0 q1 q2 q3 q4 q5 q6 q7 q8 q9 q10 q11 q12 q13 q14 q15 q16 q17 q18 q19 q20 q21 bb1 HSS HCM HGM hxg Dx Dy Dj Dh Ds Dt Du Dv D9 Dd
    have SMx_ := Lib.hid (bmore SMx.out hbc (Nat.le_refl _))
    have SMj_ := Lib.hid (bmore SMj.out hbc (Nat.le_refl _))
    have SMs_ := Lib.hid (bmore SMs.out hbc (Nat.le_refl _))
    have SMu_ := Lib.hid (bmore SMu.out hbc (Nat.le_refl _))
    have HB5_ := Lib.hid (bmore HB5.out hbc (Nat.le_refl _))
    have Vd_ := Lib.hid (Vd.out.below hbc)
    have V9_ := Lib.hid (V9.out.below hbc)
    have Vx_ := Lib.hid (Vx.out.below hbc)
    have Vy_ := Lib.hid (Vy.out.below hbc)
    have Vj_ := Lib.hid (Vj.out.below hbc)
    have Vh_ := Lib.hid (Vh.out.below hbc)
    have Vs_ := Lib.hid (Vs.out.below hbc)
    have Vt_ := Lib.hid (Vt.out.below hbc)
    have Vu_ := Lib.hid (Vu.out.below hbc)
    have Vv_ := Lib.hid (Vv.out.below hbc)
    have Rq_ := Lib.hid (Rq.out.below hbc)
    have Ri_ := Lib.hid (Ri.out.below hbc)
    have Rz_ := Lib.hid (Rz.out.below hbc)
    have Rk_ := Lib.hid (Rk.out.below hbc)
    have HW_ := Lib.hid (bmore HW.out hbc (Nat.le_refl _))
    clear HW Vd V9 Vx Vy Vj Vh Vs Vt Vu Vv Rq Ri Rz Rk
    have Vd := Vd_; clear Vd_
    have V9 := V9_; clear V9_
    have Vx := Vx_; clear Vx_
    have Vy := Vy_; clear Vy_
    have Vj := Vj_; clear Vj_
    have Vh := Vh_; clear Vh_
    have Vs := Vs_; clear Vs_
    have Vt := Vt_; clear Vt_
    have Vu := Vu_; clear Vu_
    have Vv := Vv_; clear Vv_
    have Rq := Rq_; clear Rq_
    have Ri := Ri_; clear Ri_
    have Rz := Rz_; clear Rz_
    have Rk := Rk_; clear Rk_
    have HW := HW_; clear HW_
    clear SMx; have SMx := SMx_; clear SMx_
    clear SMj; have SMj := SMj_; clear SMj_
    clear SMs; have SMs := SMs_; clear SMs_
    clear SMu; have SMu := SMu_; clear SMu_
    clear HB5; have HB5 := HB5_; clear HB5_
    clear hbc
    have Xx := Lib.hid Vx.out.1
    have Xj := Lib.hid Vj.out.1
    have Xs := Lib.hid Vs.out.1
    have Xu := Lib.hid Vu.out.1
    have hwb : w.heap.size ≤ bsx := by have := HGD.out; omega
    have h5b : w4.heap.size ≤ bsx := by have := HBsx.out; omega
    have SSx : Hid (∀ k, bsx ≤ k → k < wx.heap.size → wc.heap[k]? = wx.heap[k]?) := Lib.hid fun k _ h2 => SMx.out.block k h2
    have SZx : Hid (wx.heap.size ≤ wc.heap.size) := Lib.hid SMx.out.size
    have SSj : Hid (∀ k, bsj ≤ k → k < wj.heap.size → wc.heap[k]? = wj.heap[k]?) := Lib.hid fun k _ h2 => SMj.out.block k h2
    have SZj : Hid (wj.heap.size ≤ wc.heap.size) := Lib.hid SMj.out.size
    have SSs : Hid (∀ k, bss ≤ k → k < ws.heap.size → wc.heap[k]? = ws.heap[k]?) := Lib.hid fun k _ h2 => SMs.out.block k h2
    have SZs : Hid (ws.heap.size ≤ wc.heap.size) := Lib.hid SMs.out.size
    have SSu : Hid (∀ k, bsu ≤ k → k < wu.heap.size → wc.heap[k]? = wu.heap[k]?) := Lib.hid fun k _ h2 => SMu.out.block k h2
    have SZu : Hid (wu.heap.size ≤ wc.heap.size) := Lib.hid SMu.out.size
    clear SMx SMj SMs SMu Vd V9 Vx Vy Vj Vh Vs Vt Vu Vv Rq Ri Rz Rk
    have k0 : wc.cell? ⟨gx, 0, none⟩ = some (.slice Ax n_b1 cx) := Xx.out.cell 0
    have k1 : wc.cell? ⟨gx, 1, none⟩ = some (.slice Bx n_ps1 dx) := Xx.out.cell 1
    go_wp2_with fail
    clear k0 k1
    refine (turn_any bsx Ax n_b1 cx Bx n_ps1 dx b1 ps1 _ wx OWx SSx SZx.out).mono ?_
    rintro e wt1 ⟨rfl, hwi⟩
    rw [HGx.out] at hwi
    have HB5_ := Lib.hid (HB5.out.trans (hwi.below (by omega) HB5.out.size))
    have HW_ := Lib.hid (HW.out.trans (hwi.below (by omega) HW.out.size))
    have Xj_ : Hid (Box wt1 gj _ _) := Lib.hid ((hwi.block gj Xj.out.lt (.inr (by omega))).trans Xj.out)
    have SSj_ : Hid (∀ k, bsj ≤ k → k < wj.heap.size → wt1.heap[k]? = wj.heap[k]?) := Lib.hid fun k h1 h2 => (hwi.block k (Nat.lt_of_lt_of_le h2 SZj.out) (.inr (by omega))).trans (SSj.out k h1 h2)
    have SZj_ : Hid (wj.heap.size ≤ wt1.heap.size) := Lib.hid (Nat.le_trans SZj.out hwi.size)
    have Xs_ : Hid (Box wt1 gs _ _) := Lib.hid ((hwi.block gs Xs.out.lt (.inr (by omega))).trans Xs.out)
    have SSs_ : Hid (∀ k, bss ≤ k → k < ws.heap.size → wt1.heap[k]? = ws.heap[k]?) := Lib.hid fun k h1 h2 => (hwi.block k (Nat.lt_of_lt_of_le h2 SZs.out) (.inr (by omega))).trans (SSs.out k h1 h2)
    have SZs_ : Hid (ws.heap.size ≤ wt1.heap.size) := Lib.hid (Nat.le_trans SZs.out hwi.size)
    have Xu_ : Hid (Box wt1 gu _ _) := Lib.hid ((hwi.block gu Xu.out.lt (.inr (by omega))).trans Xu.out)
    have SSu_ : Hid (∀ k, bsu ≤ k → k < wu.heap.size → wt1.heap[k]? = wu.heap[k]?) := Lib.hid fun k h1 h2 => (hwi.block k (Nat.lt_of_lt_of_le h2 SZu.out) (.inr (by omega))).trans (SSu.out k h1 h2)
    have SZu_ : Hid (wu.heap.size ≤ wt1.heap.size) := Lib.hid (Nat.le_trans SZu.out hwi.size)
    clear hwi HB5 HW Xx SSx SZx Xj SSj SZj Xs SSs SZs Xu SSu SZu
    have HB5 := HB5_; clear HB5_
    have HW := HW_; clear HW_
    have Xj := Xj_; clear Xj_
    have SSj := SSj_; clear SSj_
    have SZj := SZj_; clear SZj_
    have Xs := Xs_; clear Xs_
    have SSs := SSs_; clear SSs_
    have SZs := SZs_; clear SZs_
    have Xu := Xu_; clear Xu_
    have SSu := SSu_; clear SSu_
    have SZu := SZu_; clear SZu_
    have k0 : wt1.cell? ⟨gj, 0, none⟩ = some (.slice Aj n_b2 cj) := Xj.out.cell 0
    have k1 : wt1.cell? ⟨gj, 1, none⟩ = some (.slice Bj n_ps2 dj) := Xj.out.cell 1
    go_wp2_with fail
    clear k0 k1
    refine (turn_any bsj Aj n_b2 cj Bj n_ps2 dj b2 ps2 _ wj OWj SSj SZj.out).mono ?_
    rintro e wt2 ⟨rfl, hwi⟩
    rw [HGj.out] at hwi
    have HB5_ := Lib.hid (HB5.out.trans (hwi.below (by omega) HB5.out.size))
    have HW_ := Lib.hid (HW.out.trans (hwi.below (by omega) HW.out.size))
    have Xs_ : Hid (Box wt2 gs _ _) := Lib.hid ((hwi.block gs Xs.out.lt (.inr (by omega))).trans Xs.out)
    have SSs_ : Hid (∀ k, bss ≤ k → k < ws.heap.size → wt2.heap[k]? = ws.heap[k]?) := Lib.hid fun k h1 h2 => (hwi.block k (Nat.lt_of_lt_of_le h2 SZs.out) (.inr (by omega))).trans (SSs.out k h1 h2)
    have SZs_ : Hid (ws.heap.size ≤ wt2.heap.size) := Lib.hid (Nat.le_trans SZs.out hwi.size)
    have Xu_ : Hid (Box wt2 gu _ _) := Lib.hid ((hwi.block gu Xu.out.lt (.inr (by omega))).trans Xu.out)
    have SSu_ : Hid (∀ k, bsu ≤ k → k < wu.heap.size → wt2.heap[k]? = wu.heap[k]?) := Lib.hid fun k h1 h2 => (hwi.block k (Nat.lt_of_lt_of_le h2 SZu.out) (.inr (by omega))).trans (SSu.out k h1 h2)
    have SZu_ : Hid (wu.heap.size ≤ wt2.heap.size) := Lib.hid (Nat.le_trans SZu.out hwi.size)
    clear hwi HB5 HW Xj SSj SZj Xs SSs SZs Xu SSu SZu
    have HB5 := HB5_; clear HB5_
    have HW := HW_; clear HW_
    have Xs := Xs_; clear Xs_
    have SSs := SSs_; clear SSs_
    have SZs := SZs_; clear SZs_
    have Xu := Xu_; clear Xu_
    have SSu := SSu_; clear SSu_
    have SZu := SZu_; clear SZu_
    have k0 : wt2.cell? ⟨gs, 0, none⟩ = some (.slice As n_r3 cs) := Xs.out.cell 0
    have k1 : wt2.cell? ⟨gs, 1, none⟩ = some (.slice Bs 0 ds) := Xs.out.cell 1
    go_wp2_with fail
    clear k0 k1
    refine (turn_any bss As n_r3 cs Bs 0 ds r3 [] _ ws OWs SSs SZs.out).mono ?_
    rintro e wt3 ⟨rfl, hwi⟩
    rw [HGs.out] at hwi
    have HB5_ := Lib.hid (HB5.out.trans (hwi.below (by omega) HB5.out.size))
    have HW_ := Lib.hid (HW.out.trans (hwi.below (by omega) HW.out.size))
    have Xu_ : Hid (Box wt3 gu _ _) := Lib.hid ((hwi.block gu Xu.out.lt (.inr (by omega))).trans Xu.out)
    have SSu_ : Hid (∀ k, bsu ≤ k → k < wu.heap.size → wt3.heap[k]? = wu.heap[k]?) := Lib.hid fun k h1 h2 => (hwi.block k (Nat.lt_of_lt_of_le h2 SZu.out) (.inr (by omega))).trans (SSu.out k h1 h2)
    have SZu_ : Hid (wu.heap.size ≤ wt3.heap.size) := Lib.hid (Nat.le_trans SZu.out hwi.size)
    clear hwi HB5 HW Xs SSs SZs Xu SSu SZu
    have HB5 := HB5_; clear HB5_
    have HW := HW_; clear HW_
    have Xu := Xu_; clear Xu_
    have SSu := SSu_; clear SSu_
    have SZu := SZu_; clear SZu_
    have k0 : wt3.cell? ⟨gu, 0, none⟩ = some (.slice Au n_r4 cu) := Xu.out.cell 0
    have k1 : wt3.cell? ⟨gu, 1, none⟩ = some (.slice Bu 0 du) := Xu.out.cell 1
    go_wp2_with fail
    clear k0 k1
    refine (turn_any bsu Au n_r4 cu Bu 0 du r4 [] _ wu OWu SSu SZu.out).mono ?_
    rintro e wt4 ⟨rfl, hwi⟩
    rw [HGu.out] at hwi
    have HB5_ := Lib.hid (HB5.out.trans (hwi.below (by omega) HB5.out.size))
    have HW_ := Lib.hid (HW.out.trans (hwi.below (by omega) HW.out.size))
    clear hwi HB5 HW Xu SSu SZu
    have HB5 := HB5_; clear HB5_
    have HW := HW_; clear HW_
    have V9 := Lib.hid (V9f.out.below HB5.out)
    have Vd := Lib.hid (Vdf.out.below HB5.out)
    have Ri := Lib.hid (Rif.out.below HB5.out)
    have Rq := Lib.hid (Rqf.out.below HB5.out)
    have k0 := V9.out.c0
    have k1 := V9.out.c1
    have l0 := Vd.out.c0
    have l1 := Vd.out.c1
    go_wp2_with fail
    clear k0 k1 l0 l1
    refine (same_any _ _ b ps _ (Lib.hid V9.out.2) (Lib.hid Vd.out.2)).mono ?_
    rintro e wz ⟨rfl, hb⟩
    have si := rd_str (c := ci) (Ri.out.below hb)
    have sq := rd_str (c := cp) (Rq.out.below hb)
    have HWz := Lib.hid (bmore HW.out hb (Nat.le_refl _))
    clear hb
    go_wp2
    go_ret
    exact ⟨rfl, HWz.out⟩

theorem diskDoes_walk (v : Value) (b : List UInt8) (ps : List DM.Wr) (a1 : Option Addr) (len1 cap1 : Nat) (z1 : List Int) (a2 a3 : Int) (w : World) (w0 : DiskArg w v b ps) (w1 : IsRow .u8 w a1 len1 cap1 z1) (w2 : (Lit.int .i64 a2).wf = true) (w3 : (Lit.int .i64 a3).wf = true) :
    Calls Try.prog 4 #[v, .slice a1 len1 cap1, .int .i64 a2, .int .i64 a3] w fun e w' => e = .returned (.bool true) ∧ Below w.heap.size w w' := by
  have h4 : -9223372036854775808 ≤ a2 ∧ a2 ≤ 9223372036854775807 := by simpa [Lit.wf, IntKind.min, IntKind.max, IntKind.signed, IntKind.bits] using w2
  have h5 : -9223372036854775808 ≤ a3 ∧ a3 ≤ 9223372036854775807 := by simpa [Lit.wf, IntKind.min, IntKind.max, IntKind.signed, IntKind.bits] using w3
  exact diskDoes_core v b ps a1 len1 cap1 _ a2 a3 w (Lib.hid w0) (Lib.hid w1.bytes) w1.len_le.1 (Lib.hid w1.len_le.2.1) h4.1 h4.2 h5.1 h5.2
end Go.Proofs.Ytnbnnnphepfkkaa
