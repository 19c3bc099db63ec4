/-
  Package order: finalTime. Conditions: what logs that may be gave times; a message whose groups are not below 0.
  Package order: areOne. Conditions: what logs that may be gave times.
  What laws of layer 16 ask of beginnings of rows, of logs. No walk.
  The example that the statements of layer 16 begin with holds. Conditions: none.
  The example that the statements of layer 16 begin with holds: what its second log delivers. Conditions: none.
-/
import Derived.Test.YteebeiaokfenmaaGreatK01
import Derived.Test.YteebeiaokfenmaaGreatK37
import Derived.Test.YteebeiaokfenmaaGreatK13
import Derived.Deep.RegionHeld3
import Derived.Lib.MinMax
import Derived.Test.YteebeiaokfenmaaGreatK15
import Derived.Test.YteebeiaokfenmaaGreatK08
import Derived.Test.YteebeiaokfenmaaGreatK38
namespace Go.Proofs.YteebeiaokfenmaaGreat.KP
open Go.RowKit CP TP LP
open CM (Mg Cm)
open TM (Sp)
open KM (Wt Sk)
set_option linter.unusedVariables false
set_option linter.unusedSimpArgs false
set_option maxRecDepth 100000
def FtMid (T : List (Int × Mg)) (id : Int) (wr : World) (u8 u9 : Value) (wx : World) : Prop :=
 ∃ (q : Nat) (A : Option Addr) (c : Nat) (y : Wt) (b : Bool), u8 = .pointer (some ⟨q, 0, none⟩) ∧ u9 = .bool b ∧ Below wr.heap.size wr wx ∧ wr.heap.size ≤ q ∧ Box wx q 78 (wcs A c y) ∧ RowIs wr A c y.m.gs ∧
  ((b = true ∧ ∃ p, OM.fd T id = some p ∧ y = toWt p) ∨ (b = false ∧ OM.fd T id = none ∧ y = ⟨CM.mz, 0, false⟩))
section
variable {T : List (Int × Mg)} {id : Int} {wr w4 : World} {A : Option Addr} {c : Nat} {y : Wt} {b : Bool}
end
set_option maxHeartbeats 4000000 in
theorem finalTime_any (A : Option Addr) (c : Nat) (L : List (List Cm)) (vm : Value) (m : Mg) (w : World) (h : AlIs w A L) (hL : OM.Logs L) (hm : MgIs w vm m) (hg : ∀ g ∈ m.gs, 0 ≤ g) (hid : i64In m.id) :
  Calls Tryz.prog 36 #[.slice A L.length c, vm] w fun e w' => e = .returned (.tuple #[.int .i64 (OM.lastF L m).1, .bool (OM.lastF L m).2]) ∧ Below w.heap.size w w' := by
 obtain ⟨A1, c1, rfl, hrow⟩ := hm
 obtain ⟨n, hn⟩ : ∃ n, n = L.length := ⟨_, rfl⟩
 rw [← hn]
 obtain ⟨mm, hmm⟩ : ∃ mm, mm = m := ⟨_, rfl⟩
 obtain ⟨R, hR⟩ : ∃ R, R = OM.lastF L m := ⟨_, rfl⟩
 rw [← hR]
 have HR0 := h! (show OM.lastG L mm (m.gs.drop 0) 0 = R by rw [hmm, hR]; rfl)
 have HMM := h! hmm
 have HN := h! hn
 have H := h! h
 have HL := h! hL
 have HG := h! hg
 have HROW := h! hrow
 have hg63 : m.gs.length ≤ 9223372036854775807 := by have := hrow.2; unfold maxLen at this; omega
 have hn4 : n ≤ 4 := by have := hL.1; omega
 rw [← hmm] at hid
 clear h hL hg hrow hmm hR hn
 obtain ⟨ai, ag, at_, ak, ab⟩ := m
 unfold mcells
 simp only at HR0 HG HROW hg63 ⊢
 obtain ⟨p3, hp3⟩ : ∃ p3, w.heap.size = p3 := ⟨_, rfl⟩
 have HB := h! (show Below w.heap.size w (w.alloc (.cells #[.int .i64 ai, .slice A1 ag.length c1, .int .i64 at_, .string ak, .string ab] 33)) from (Below.refl _ _).alloc n! _)
 have X := h! (Box.new_at (w := w) (t := 33) (cs := #[.int .i64 ai, .slice A1 ag.length c1, .int .i64 at_, .string ak, .string ab]) p3 hp3)
 go_enter Tryz.func36, Tryz.ntmps36
 go_upto_region 1 with (fail)
 generalize w.alloc (.cells #[.int .i64 ai, .slice A1 ag.length c1, .int .i64 at_, .string ak, .string ab] 33) = w1 at HB X ⊢
 clear hp3
 have x1 := X.out.cell 1
 simp at x1
 go_wp2_with fail
 clear x1
 go_loopw [4, 13] (fun t i wr => ∃ (k : Nat) (most : Int), k ≤ ag.length ∧ t = .int .i64 most ∧ i = .int .i64 k ∧ Below w1.heap.size w1 wr ∧ Hid (OM.lastG L mm (ag.drop k) most = R)) (fun _ i _ => ag.length - (intOf i).toNat)
 case atStart => exact ⟨0, 0, by omega, rfl, rfl, Below.refl _ _, HR0⟩
 case round =>
  clear HR0
  obtain ⟨k, most, hk, rfl, rfl, hbr, HR⟩ := hrel
  have HBR := h! hbr
  have HBW := h! (bmore HB.out hbr n!)
  clear hbr
  by_cases hlt : k < ag.length
  ·obtain ⟨g, hgk⟩ : ∃ g, ag[k]? = some g := ⟨_, List.getElem?_eq_getElem hlt⟩
   have hd : ag.drop k = g :: ag.drop (k + 1) := by
    have := List.getElem?_eq_some_iff.1 hgk
    rw [List.drop_eq_getElem_cons this.1, this.2]
   have HD := h! (show (if (L.length : Int) ≤ g then (0, false) else if OM.tOf (OM.tg L g) mm = 0 then (0, false) else OM.lastG L mm (ag.drop (k + 1)) (max most (OM.tOf (OM.tg L g) mm))) = R by have := HR.out; rw [hd, OM.lastG] at this; exact this)
   have hg0 : 0 ≤ g := HG.out g (List.mem_of_getElem? hgk)
   obtain ⟨ad, u, rfl, _, hu, hcell⟩ := ((HROW.out.below HBW.out).1.at_ (k := k) hlt)
   have hu2 : u = .int .i64 g := by
    have : (ic ag)[k]? = some (.int .i64 g) := by unfold ic; rw [List.getElem?_map, hgk]; rfl
    rw [this] at hu
    injection hu with hu
    exact hu.symm
   subst hu2
   clear hgk hd hu
   have hk0 : (0 : Int) ≤ (k : Int) := by omega
   have hkn : (k : Int) < (ag.length : Int) := by omega
   by_cases hgl : (n : Int) ≤ g
   ·have HF := h! (show R = (0, false) by have := HD.out; rw [if_pos (by rw [← HN.out]; exact hgl)] at this; exact this.symm)
    go_wp2_with fail
    go_ret2
    exact ⟨by rw [HF.out]; rfl, HBW.out⟩
   ·obtain ⟨gn, rfl⟩ : ∃ gn : Nat, g = (gn : Int) := ⟨g.toNat, by omega⟩
    have hgn : gn < L.length := by have := HN.out; omega
    obtain ⟨bl, o, A', n', c', b', B', m', d', rfl, hbl, z0, z1, z2, hto⟩ := H.out gn hgn
    obtain ⟨T, hT⟩ : ∃ T, T = OM.tg L gn := ⟨_, rfl⟩
    have HNL := h! (show ¬ (L.length : Int) ≤ (gn : Int) by omega)
    have HD2 := h! (show (if OM.tOf T mm = 0 then (0, false) else OM.lastG L mm (ag.drop (k + 1)) (max most (OM.tOf T mm))) = R by have := HD.out; rw [if_neg HNL.out, ← hT] at this; exact this)
    have hI := HL.out.inv2 hgn
    have HND := h! (show (T.map fun p => p.2.id).Nodup by rw [hT]; exact hI.nd)
    have HT1 := h! (show ∀ p ∈ T, 1 ≤ p.1 by rw [hT]; exact fun p hp => (hI.tm p hp).1)
    have hai : mm.id = ai := by rw [HMM.out]
    rw [← hT] at hto
    have KF := h! (fun W (hb : Below wr.heap.size wr W) => pfind_any _ T _ ai wr W (hto.below HBW.out) hb HND.out (by rw [← hai]; exact hid))
    have X2 := h! (X.out.below HBR.out X.out.lt)
    have HSS := h! (fun (w' : World) (h : Below wr.heap.size wr w') => show w'.cell? ⟨bl, o + gn * 3, none⟩ = some (.slice A' n' c') ∧ w'.cell? ⟨bl, o + gn * 3 + 1, none⟩ = some (.map (some b')) ∧ w'.cell? ⟨bl, o + gn * 3 + 2, none⟩ = some (.slice B' m' d') ∧ w'.cell? ⟨p3, 0, none⟩ = some (.int .i64 ai) from by
     have hb2 := bmore HBW.out h n!
     exact ⟨(hb2.cell (p := ⟨bl, o + gn * 3, none⟩) hbl).trans z0, (hb2.cell (p := ⟨bl, o + gn * 3 + 1, none⟩) hbl).trans z1, (hb2.cell (p := ⟨bl, o + gn * 3 + 2, none⟩) hbl).trans z2, by have := (X2.out.below h X2.out.lt).cell 0; simpa using this⟩)
    have hgk1 : (gn : Int) < (n : Int) := by omega
    clear hT hI hto z0 z1 z2 hbl HD
    obtain ⟨s0, s1, s2, s3⟩ := HSS.out wr (Below.refl _ _)
    go_upto_region 6 with (fail)
    clear s0 s1 s2 s3 hcell
    go_cut [8, 9] (fun u8 u9 wx => FtMid T ai wr u8 u9 wx)
    case first =>
     have bb1 : Below wr.heap.size wr wr.drew := (Below.refl _ _).drew
     obtain ⟨ud, hud⟩ : ∃ ud, ud = wr.drew := ⟨_, rfl⟩
     refine wp_region_held_drew (S := fun w' => w'.cell? ⟨bl, o + gn * 3, none⟩ = some (.slice A' n' c') ∧ w'.cell? ⟨bl, o + gn * 3 + 1, none⟩ = some (.map (some b')) ∧ w'.cell? ⟨bl, o + gn * 3 + 2, none⟩ = some (.slice B' m' d') ∧ w'.cell? ⟨p3, 0, none⟩ = some (.int .i64 ai)) (by kernel_rfl) (HSS.out _ bb1) (fun hHeld => ?_)
     rw [← hud] at bb1 hHeld ⊢
     clear hud
     refine qT 0 ?_; try simp only [Act.put, qq]
     refine qT 1 ?_; try simp only [Act.put, qq]
     refine qT 2 ?_; try simp only [Act.put, qq]
     refine qT 3 ?_; try simp only [Act.put, qq]
     refine qT 4 ?_; try simp only [Act.put, qq]
     refine qT 5 ?_; try simp only [Act.put, qq]
     refine wpAnyH_ready (rs := [6, 10]) (by kernel_rfl) (by simp) ?_
     refine AllReadyH.cons rfl (fun K hK => ?_) (AllReadyH.cons rfl (fun K hK => ?_) AllReadyH.nil)
     ·go_simp
      refine (KF.out ud bb1).mono ?_
      rintro e w4 ⟨bz, A8, c8, y, rfl, ha, hrw, hcd⟩
      unfold vwt
      have bb4 := bmore bb1 ha n!
      have HRW := h! hrw
      have HCD := h! hcd
      clear ha hrw hcd
      refine hK.out _ _ (HSS.out _ bb4) (fun hHeld => ?_)
      clear hK
      try simp only [Act.put, qq]
      refine qT 7 ?_; try simp only [Act.put, qq]
      refine qT 8 ?_; try simp only [Act.put, qq]
      refine qT 9 ?_; try simp only [Act.put, qq]
      refine qR 10 fun K hK => ?_
      go_simp
      have bb5 : Below wr.heap.size wr (w4.alloc (.cells #[.int .i64 0, .slice none 0 0, .int .i64 0, .string ⟨#[]⟩, .string ⟨#[]⟩, .int .i64 0, .bool false] 78)) := bmore bb4 ((Below.refl _ _).alloc n! _) n!
      have V := h! (Box.new w4 78 #[.int .i64 0, .slice none 0 0, .int .i64 0, .string ⟨#[]⟩, .string ⟨#[]⟩, .int .i64 0, .bool false])
      have HV9 := h! bb4.size
      refine hK.out _ _ (HSS.out _ bb5) (fun hHeld => ?_)
      clear hK
      try simp only [Act.put, qq]
      generalize w4.alloc (.cells #[.int .i64 0, .slice none 0 0, .int .i64 0, .string ⟨#[]⟩, .string ⟨#[]⟩, .int .i64 0, .bool false] 78) = w5 at V bb5 hHeld ⊢
      obtain ⟨p9, hp9⟩ : ∃ p9, w4.heap.size = p9 := ⟨_, rfl⟩
      rw [hp9] at V HV9
      simp only [hp9]
      clear hp9
      obtain ⟨⟨q0, q1, q2, q3, q4, q5, q6⟩, r0, r1, r2, r3, r4, r5, r6⟩ := box_wtf V.out
      refine qR 11 fun K hK => ?_
      go_simp
      have bbE := pt7_below bb5 HV9.out (.int .i64 y.m.id) (.slice A8 y.m.gs.length c8) (.int .i64 y.m.tp) (.string y.m.key) (.string y.m.body) (.int .i64 y.t) (.bool y.f)
      have VE := h! (pt7_box V.out (.int .i64 y.m.id) (.slice A8 y.m.gs.length c8) (.int .i64 y.m.tp) (.string y.m.key) (.string y.m.body) (.int .i64 y.t) (.bool y.f))
      unfold pt7 at bbE VE
      refine hK.out _ _ (HSS.out _ bbE) (fun hHeld => ?_)
      clear hK
      try simp only [Act.put, qq]
      refine qT 12 ?_; try simp only [Act.put, qq]
      refine wpAnyH_done (by kernel_rfl) ?_ _
      go_wp2_with fail
      go_meet
      case rel => exact ⟨p9, A8, c8, y, bz, rfl, rfl, bbE, HV9.out, VE.out, HRW.out, HCD.out⟩
     ·go_simp
      have bb2 : Below wr.heap.size wr (ud.alloc (.cells #[.int .i64 0, .slice none 0 0, .int .i64 0, .string ⟨#[]⟩, .string ⟨#[]⟩, .int .i64 0, .bool false] 78)) := bmore bb1 ((Below.refl _ _).alloc n! _) n!
      have V := h! (Box.new ud 78 #[.int .i64 0, .slice none 0 0, .int .i64 0, .string ⟨#[]⟩, .string ⟨#[]⟩, .int .i64 0, .bool false])
      have HV9 := h! bb1.size
      refine hK.out _ _ (HSS.out _ bb2) (fun hHeld => ?_)
      clear hK
      try simp only [Act.put, qq]
      generalize ud.alloc (.cells #[.int .i64 0, .slice none 0 0, .int .i64 0, .string ⟨#[]⟩, .string ⟨#[]⟩, .int .i64 0, .bool false] 78) = w4 at V bb2 hHeld ⊢
      obtain ⟨p9, hp9⟩ : ∃ p9, ud.heap.size = p9 := ⟨_, rfl⟩
      rw [hp9] at V HV9
      simp only [hp9]
      clear hp9
      refine qR 6 fun K hK => ?_
      go_simp
      refine (KF.out w4 bb2).mono ?_
      rintro e w5 ⟨bz, A8, c8, y, rfl, ha, hrw, hcd⟩
      unfold vwt
      have bb5 := bmore bb2 ha n!
      replace V := h! (V.out.below ha V.out.lt)
      have HRW := h! hrw
      have HCD := h! hcd
      clear ha hrw hcd
      refine hK.out _ _ (HSS.out _ bb5) (fun hHeld => ?_)
      clear hK
      try simp only [Act.put, qq]
      refine qT 7 ?_; try simp only [Act.put, qq]
      refine qT 8 ?_; try simp only [Act.put, qq]
      refine qT 9 ?_; try simp only [Act.put, qq]
      obtain ⟨⟨q0, q1, q2, q3, q4, q5, q6⟩, r0, r1, r2, r3, r4, r5, r6⟩ := box_wtf V.out
      refine qR 11 fun K hK => ?_
      go_simp
      have bbE := pt7_below bb5 HV9.out (.int .i64 y.m.id) (.slice A8 y.m.gs.length c8) (.int .i64 y.m.tp) (.string y.m.key) (.string y.m.body) (.int .i64 y.t) (.bool y.f)
      have VE := h! (pt7_box V.out (.int .i64 y.m.id) (.slice A8 y.m.gs.length c8) (.int .i64 y.m.tp) (.string y.m.key) (.string y.m.body) (.int .i64 y.t) (.bool y.f))
      unfold pt7 at bbE VE
      refine hK.out _ _ (HSS.out _ bbE) (fun hHeld => ?_)
      clear hK
      try simp only [Act.put, qq]
      refine qT 12 ?_; try simp only [Act.put, qq]
      refine wpAnyH_done (by kernel_rfl) ?_ _
      go_wp2_with fail
      go_meet
      case rel => exact ⟨p9, A8, c8, y, bz, rfl, rfl, bbE, HV9.out, VE.out, HRW.out, HCD.out⟩
    case rest =>
     obtain ⟨q, A8, c8, y, b8, rfl, rfl, hb8, hq8, hbox, hrow8, hcond⟩ := hcut
     have HB8 := h! hb8
     have HROW8 := h! (hrow8.below hb8)
     have X8 := h! (X2.out.below hb8 X2.out.lt)
     have HBX := h! hbox
     have HBR8 := h! (bmore HBR.out hb8 n!)
     have HBW8 := h! (bmore HBW.out hb8 n!)
     have HMG := h! (fun W (hb : Below wr.heap.size wr W) => show MgIs W (.agg #[.int .i64 ai, .slice (some ad) ag.length c1, .int .i64 at_, .string ak, .string ab]) mm from ⟨some ad, c1, by rw [HMM.out]; rfl, by rw [HMM.out]; exact (HROW.out.below HBW.out).below hb⟩)
     rcases hcond with ⟨rfl, pp, hfd, rfl⟩ | ⟨rfl, hfd, _⟩
     rotate_left
     ·have HF := h! (show R = (0, false) by have := HD2.out; rw [if_pos (OM.tOf_fd0 (by rw [HMM.out]; exact hfd))] at this; exact this.symm)
      clear hb8 hbox hrow8 hfd KF HSS
      go_wp2_with fail
      go_ret2
      exact ⟨by rw [HF.out]; rfl, HBW8.out⟩
     have htf := OM.tOf_fd HND.out (m := mm) (p := pp) (by rw [HMM.out]; exact hfd)
     have h1p := HT1.out pp (OM.fd_some hfd).1
     obtain ⟨bq, hbq⟩ : ∃ bq, bq = decide (pp.2 = mm) := ⟨_, rfl⟩
     have HE1 := h! (show bq = false → R = (0, false) from fun e => by
      rw [e] at hbq
      have := HD2.out
      rw [htf, if_neg (of_decide_eq_false hbq.symm), if_pos rfl] at this
      exact this.symm)
     have HE2 := h! (show bq = true → OM.lastG L mm (ag.drop (k + 1)) (max most pp.1) = R from fun e => by
      rw [e] at hbq
      have := HD2.out
      rw [htf, if_pos (of_decide_eq_true hbq.symm), if_neg (by omega)] at this
      exact this)
     obtain ⟨t, ⟨bi, bg, bt, bk, bb⟩⟩ := pp
     have KSM := h! (fun W (hb : Below wc.heap.size wc W) => show Calls Tryz.prog 64 #[.agg #[.int .i64 bi, .slice A8 bg.length c8, .int .i64 bt, .string bk, .string bb], .agg #[.int .i64 ai, .slice (some ad) ag.length c1, .int .i64 at_, .string ak, .string ab]] W (BoolIs bq W) from by
      rw [hbq]
      exact psameMg_any ⟨bi, bg, bt, bk, bb⟩ mm _ _ W ⟨A8, c8, rfl, HROW8.out.below hb⟩ (HMG.out W (bmore HB8.out hb n!)))
     unfold toWt wcs at HBX
     simp only at HBX HE2
     clear hb8 hbox hrow8 hfd htf hbq h1p KF HSS
     obtain ⟨y0, y1, y2, y3, y4, y5, y6⟩ := box_wt HBX.out
     have s0 := X8.out.cell 0
     have s1 := X8.out.cell 1
     have s2 := X8.out.cell 2
     have s3 := X8.out.cell 3
     have s4 := X8.out.cell 4
     simp at s0 s1 s2 s3 s4
     go_wp2_with fail
     refine (KSM.out wc (Below.refl _ _)).mono ?_
     rintro e w6 ⟨rfl, hb6⟩
     have HBX6 := h! (HBX.out.below hb6 HBX.out.lt)
     have HBR6 := h! (bmore HBR8.out hb6 n!)
     have HBW6 := h! (bmore HBW8.out hb6 n!)
     clear hb6 KSM y0 y1 y2 y3 y4 y5 y6 s0 s1 s2 s3 s4
     rcases bq with _ | _
     ·have HF := h! (HE1.out rfl)
      go_wp2_with fail
      go_ret2
      exact ⟨by rw [HF.out]; rfl, HBW6.out⟩
     ·have HF := h! (HE2.out rfl)
      obtain ⟨y0, y1, y2, y3, y4, y5, y6⟩ := box_wt HBX6.out
      go_wp2_with fail
      go_roundw
      case rel => exact ⟨k + 1, max most t, by omega, rfl, by go_num, HBR6.out, HF⟩
      case measure => simp [intOf]; omega
  ·have HF := h! (show R = (most, true) by have := HR.out; rw [List.drop_of_length_le (by omega), OM.lastG] at this; exact this.symm)
   have hkn : ¬ (k : Int) < (ag.length : Int) := by omega
   go_wp2_with fail
   go_ret2
   exact ⟨by rw [HF.out]; rfl, HBW.out⟩
end Go.Proofs.YteebeiaokfenmaaGreat.KP

namespace Go.Proofs.YteebeiaokfenmaaGreat.KP
open Go.RowKit CP TP LP
open CM (Mg Cm)
open TM (Sp)
open KM (Wt Sk)
set_option linter.unusedVariables false
set_option linter.unusedSimpArgs false
set_option maxRecDepth 100000
def okP (L : List (List Cm)) (g h : Nat) : Prop := ∀ p ∈ OM.tg L g, ∀ q, OM.fd (OM.tg L h) p.2.id = some q → q.2 = p.2
theorem AlIs.facts {w : World} {A : Option Addr} {L : List (List Cm)} (hL : OM.Logs L) {g : Nat} (hg : g < L.length) : ((OM.tg L g).map fun p => p.2.id).Nodup ∧ ∀ p ∈ OM.tg L g, i64In p.2.id := by
 have hI := hL.inv2 hg
 refine ⟨hI.nd, fun p hp => ?_⟩
 have := (hI.tm p hp).2.2.2.1.1
 unfold CM.idOk at this
 unfold i64In
 omega
set_option maxHeartbeats 4000000 in
theorem areOne_any (A : Option Addr) (L : List (List Cm)) (w : World) (h : AlIs w A L) (hL : OM.Logs L) :
  Calls Tryz.prog 38 #[.slice A L.length L.length] w fun e w' => ∃ b : Bool, e = .returned (.bool b) ∧ (b = true ↔ OM.oneB L) ∧ Below w.heap.size w w' := by
 obtain ⟨n, hn⟩ : ∃ n, n = L.length := ⟨_, rfl⟩
 rw [← hn]
 have HN := h! hn
 have H := h! h
 have HL := h! hL
 have hn4 : n ≤ 4 := by have := hL.1; omega
 clear h hL hn
 go_enter Tryz.func38, Tryz.ntmps38
 go_wp2_with fail
 go_loopw [13] (fun i wr => ∃ g : Nat, g ≤ n ∧ i = .int .i64 g ∧ Below w.heap.size w wr ∧ Hid (∀ g' h, h < g' → g' < g → okP L g' h)) (fun i _ => n - (intOf i).toNat)
 case atStart => exact ⟨0, by omega, rfl, Below.refl _ _, h! fun g' h _ hg => absurd hg (by omega)⟩
 case round =>
  obtain ⟨g, hgn, rfl, hb, HG⟩ := hrel
  have HB := h! hb
  by_cases hlt : g < n
  ·have hgL : g < L.length := by have := HN.out; omega
   obtain ⟨bl, o, A1, n1, c1, b1, B1, m1, d1, rfl, hbl, z0, z1, z2, hto⟩ := H.out g hgL
   have HBL := h! hbl
   have HTO := h! (hto.below hb)
   have hkr := hto
   obtain ⟨_, _, _, _, _, _, _, e1, hkr1, _, _⟩ := hkr
   injection e1 with e1
   injection e1 with e1
   injection e1 with e2 e1
   injection e2 with e3 e4 e5
   subst e3 e4 e5
   clear e1
   have HKR := h! (hkr1.below hb)
   have hn1 : n1 = (OM.tg L g).length := by have := hkr1.len; rw [List.length_map] at this; exact this.symm
   have hn63 : n1 ≤ 9223372036854775807 := hkr1.small
   have HN1 := h! hn1
   have x0 := (hb.cell (p := ⟨bl, o + g * 3, none⟩) hbl).trans z0
   have x1 := (hb.cell (p := ⟨bl, o + g * 3 + 1, none⟩) hbl).trans z1
   have x2 := (hb.cell (p := ⟨bl, o + g * 3 + 2, none⟩) hbl).trans z2
   have HGL := h! hgL
   have hg0 : (0 : Int) ≤ (g : Int) := by omega
   have hgn2 : (g : Int) < (n : Int) := by omega
   have hgn3 : (g : Int) ≤ (n : Int) := by omega
   have hgn4 : g ≤ n := by omega
   have HAL := h! (show Below wr.heap.size wr (wr.alloc (.cells #[.slice A1 n1 c1, .map (some b1), .slice B1 m1 d1] 75)) from (Below.refl _ _).alloc n! _)
   have X := h! (Box.new wr 75 #[.slice A1 n1 c1, .map (some b1), .slice B1 m1 d1])
   clear z0 z1 z2 hto hkr1 hn1 hb hbl hgL
   go_upto_region 4 with (fail)
   clear x0 x1 x2
   generalize wr.alloc (.cells #[.slice A1 n1 c1, .map (some b1), .slice B1 m1 d1] 75) = w1 at HAL X ⊢
   generalize wr.heap.size = p4 at X ⊢
   have HB1 := h! (bmore HB.out HAL.out n!)
   replace HTO := h! (HTO.out.below HAL.out)
   replace HKR := h! (HKR.out.below HAL.out)
   go_wp2_with fail
   go_loopw [22] (fun i wr => ∃ h : Nat, h ≤ g ∧ i = .int .i64 h ∧ Below w1.heap.size w1 wr ∧ Hid (∀ h', h' < h → okP L g h')) (fun i _ => g - (intOf i).toNat)
   case atStart => exact ⟨0, by omega, rfl, Below.refl _ _, h! fun h' hh => absurd hh (by omega)⟩
   case round =>
    obtain ⟨h, hhg, rfl, hb, HH⟩ := hrel
    have HB2 := h! hb
    have HBW := h! (bmore HB1.out hb n!)
    by_cases hlt2 : h < g
    ·have hhL : h < L.length := by have := HGL.out; omega
     obtain ⟨bl', o', A2, n2, c2, b2, B2, m2, d2, e0, hbl2, z0, z1, z2, hto2⟩ := H.out h hhL
     injection e0 with e0
     injection e0 with e01 e02 _
     subst e01 e02
     have HTO2 := h! (hto2.below HBW.out)
     have x0 := (HBW.out.cell (p := ⟨bl, o + h * 3, none⟩) hbl2).trans z0
     have x1 := (HBW.out.cell (p := ⟨bl, o + h * 3 + 1, none⟩) hbl2).trans z1
     have x2 := (HBW.out.cell (p := ⟨bl, o + h * 3 + 2, none⟩) hbl2).trans z2
     have HHL := h! hhL
     have hh0 : (0 : Int) ≤ (h : Int) := by omega
     have hhn2 : (h : Int) < (g : Int) := by omega
     have HAL2 := h! (show Below wr.heap.size wr (wr.alloc (.cells #[.slice A2 n2 c2, .map (some b2), .slice B2 m2 d2] 75)) from (Below.refl _ _).alloc n! _)
     have X2 := h! (Box.new wr 75 #[.slice A2 n2 c2, .map (some b2), .slice B2 m2 d2])
     have X1 := h! (X.out.below hb X.out.lt)
     clear z0 z1 z2 hto2 hb hbl2 hhL
     go_upto_region 7 with (fail)
     clear x0 x1 x2
     generalize wr.alloc (.cells #[.slice A2 n2 c2, .map (some b2), .slice B2 m2 d2] 75) = w2 at HAL2 X2 ⊢
     generalize wr.heap.size = p6 at X2 ⊢
     have HB3 := h! (bmore HB2.out HAL2.out n!)
     have X12 := h! (X.out.below HB3.out X.out.lt)
     have HTO22 := h! (HTO2.out.below HAL2.out)
     have x0 := X12.out.cell 0
     simp at x0
     go_wp2_with fail
     clear x0
     go_loopw [29] (fun i wr => ∃ j : Nat, j ≤ n1 ∧ i = .int .i64 j ∧ Below w2.heap.size w2 wr ∧ Hid (∀ p ∈ (OM.tg L g).take j, ∀ q, OM.fd (OM.tg L h) p.2.id = some q → q.2 = p.2)) (fun i _ => n1 - (intOf i).toNat)
     case atStart => exact ⟨0, by omega, rfl, Below.refl _ _, h! (by simp)⟩
     case round =>
      obtain ⟨j, hjn, rfl, hb, HJ⟩ := hrel
      have HB4 := h! hb
      have HB5 := h! (bmore HB3.out hb n!)
      have HBW2 := h! (bmore HB1.out HB5.out n!)
      by_cases hlt3 : j < n1
      ·obtain ⟨p, hp⟩ : ∃ p, (OM.tg L g)[j]? = some p := ⟨_, List.getElem?_eq_getElem (by have := HN1.out; omega)⟩
       obtain ⟨bl3, o3, B3, d3, rfl, _, _, ⟨x0, x1, x2, x3, x4, x5, x6⟩, hrow⟩ := wts_at (HKR.out.below HB5.out) (show ((OM.tg L g).map toWt)[j]? = some (toWt p) by rw [List.getElem?_map, hp]; rfl)
       have HROW := h! hrow
       have HP := h! hp
       have hid := (AlIs.facts (w := w) (A := none) HL.out HGL.out).2 p (List.mem_of_getElem? hp)
       have hnd := (AlIs.facts (w := w) (A := none) HL.out HHL.out).1
       have KF := h! (fun W (hb : Below wr.heap.size wr W) => pfind_any _ _ _ p.2.id wr W (HTO22.out.below HB4.out) hb hnd hid)
       have HNX := h! (show (∀ q, OM.fd (OM.tg L h) p.2.id = some q → q.2 = p.2) → ∀ x ∈ (OM.tg L g).take (j + 1), ∀ q, OM.fd (OM.tg L h) x.2.id = some q → q.2 = x.2 from fun k x hx => by
        rw [List.take_add_one, hp] at hx
        rcases List.mem_append.1 hx with hx | hx
        ·exact HJ.out x hx
        ·obtain rfl := List.mem_singleton.1 hx
         exact k)
       have HNO := h! (show (∃ q, OM.fd (OM.tg L h) p.2.id = some q ∧ q.2 ≠ p.2) → ¬ OM.oneB L from fun ⟨q, k1, k2⟩ k => k2 (k g h hlt2 HGL.out p (List.mem_of_getElem? hp) q k1))
       clear hp hrow hid hnd hb
       obtain ⟨t, ⟨ai, ag, at_, ak, ab⟩⟩ := p
       unfold toWt at x0 x1 x2 x3 x4 x5 x6 HROW
       simp only at x0 x1 x2 x3 x4 x5 x6 HROW KF HNX HNO
       have hj0 : (0 : Int) ≤ (j : Int) := by omega
       have hjn2 : (j : Int) < (n1 : Int) := by omega
       have HAL3 := h! (show Below wr.heap.size wr (wr.alloc (.cells #[.int .i64 ai, .slice B3 ag.length d3, .int .i64 at_, .string ak, .string ab, .int .i64 t, .bool false] 78)) from (Below.refl _ _).alloc n! _)
       have Y := h! (Box.new wr 78 #[.int .i64 ai, .slice B3 ag.length d3, .int .i64 at_, .string ak, .string ab, .int .i64 t, .bool false])
       have X24 := h! (X2.out.below HB4.out X2.out.lt)
       go_upto_region 10 with (fail)
       clear x0 x1 x2 x3 x4 x5 x6
       generalize wr.alloc (.cells #[.int .i64 ai, .slice B3 ag.length d3, .int .i64 at_, .string ak, .string ab, .int .i64 t, .bool false] 78) = w3 at HAL3 Y ⊢
       obtain ⟨p8, hp8⟩ : ∃ p8, wr.heap.size = p8 := ⟨_, rfl⟩
       rw [hp8] at Y
       try simp only [hp8]
       clear hp8
       obtain ⟨u0, u1, u2⟩ := box_sk (X24.out.below HAL3.out X24.out.lt)
       obtain ⟨y0, y1, y2, y3, y4, y5, y6⟩ := box_wt Y.out
       go_wp2_with fail
       refine (KF.out _ HAL3.out).mono ?_
       rintro e w5 ⟨bz, A8, c8, y, rfl, hb5, hrw, hcd⟩
       unfold vwt
       have HROW8 := h! (hrw.below (bmore HAL3.out hb5 n!))
       have Y5 := h! (Y.out.below hb5 Y.out.lt)
       have HB6 := h! (bmore HB4.out (bmore HAL3.out hb5 n!) n!)
       have HROW9 := h! (HROW.out.below (bmore HAL3.out hb5 n!))
       have HBW3 := h! (bmore HBW2.out (bmore HAL3.out hb5 n!) n!)
       clear u0 u1 u2 y0 y1 y2 y3 y4 y5 y6 hrw hb5 KF
       rcases hcd with ⟨rfl, pp, hfd, rfl⟩ | ⟨rfl, hfd, rfl⟩
       rotate_left
       ·have NX := h! (HNX.out fun q hq => by rw [hfd] at hq; cases hq)
        have HB7 := h! (bmore HB6.out ((Below.refl w5.heap.size w5).alloc n! (.cells #[.int .i64 0, .slice A8 0 c8, .int .i64 0, .string ⟨#[]⟩, .string ⟨#[]⟩, .int .i64 0, .bool false] 78)) n!)
        clear hfd
        unfold CM.mz
        simp only [List.length_nil]
        go_wp2_with fail
        go_roundw
        case rel => exact ⟨j + 1, by omega, by go_num, HB7.out, NX⟩
        case measure => simp [intOf]; omega
       ·obtain ⟨bq, hbq⟩ : ∃ bq, bq = decide (pp.2 = (⟨ai, ag, at_, ak, ab⟩ : Mg)) := ⟨_, rfl⟩
        have HE1 := h! (show bq = false → ¬ OM.oneB L from fun e => HNO.out ⟨pp, hfd, by rw [e] at hbq; exact of_decide_eq_false hbq.symm⟩)
        have HE2 := h! (show bq = true → ∀ x ∈ (OM.tg L g).take (j + 1), ∀ q, OM.fd (OM.tg L h) x.2.id = some q → q.2 = x.2 from fun e => HNX.out fun q hq => by rw [hfd] at hq; injection hq with hq; rw [← hq]; rw [e] at hbq; exact of_decide_eq_true hbq.symm)
        obtain ⟨t', ⟨bi, bg, bt, bk, bb⟩⟩ := pp
        unfold toWt at HROW8 ⊢
        simp only at HROW8 ⊢
        have hal : Below w5.heap.size w5 (w5.alloc (.cells #[.int .i64 bi, .slice A8 bg.length c8, .int .i64 bt, .string bk, .string bb, .int .i64 t', .bool false] 78)) := b!
        have KSM := h! (fun W (hb : Below w5.heap.size w5 W) => show Calls Tryz.prog 64 #[.agg #[.int .i64 bi, .slice A8 bg.length c8, .int .i64 bt, .string bk, .string bb], .agg #[.int .i64 ai, .slice B3 ag.length d3, .int .i64 at_, .string ak, .string ab]] W (BoolIs bq W) from by
         rw [hbq]
         exact psameMg_any ⟨bi, bg, bt, bk, bb⟩ ⟨ai, ag, at_, ak, ab⟩ _ _ W ⟨A8, c8, rfl, HROW8.out.below hb⟩ ⟨B3, d3, rfl, HROW9.out.below hb⟩)
        have HAL5 := h! hal
        have Z := h! (Box.new w5 78 #[.int .i64 bi, .slice A8 bg.length c8, .int .i64 bt, .string bk, .string bb, .int .i64 t', .bool false])
        have Y6 := h! (Y5.out.below hal Y5.out.lt)
        clear hfd hbq hal HNX HNO
        go_upto_region 11 with (fail)
        generalize w5.alloc (.cells #[.int .i64 bi, .slice A8 bg.length c8, .int .i64 bt, .string bk, .string bb, .int .i64 t', .bool false] 78) = w6 at HAL5 Z Y6 ⊢
        generalize w5.heap.size = p9 at Z ⊢
        obtain ⟨y0, y1, y2, y3, y4, y5, y6⟩ := box_wt Y6.out
        obtain ⟨u0, u1, u2, u3, u4, u5, u6⟩ := box_wt Z.out
        go_wp2_with fail
        refine (KSM.out _ HAL5.out).mono ?_
        rintro e w7 ⟨rfl, hb7⟩
        have HB7 := h! (bmore HB6.out (bmore HAL5.out hb7 n!) n!)
        have HBW4 := h! (bmore HBW3.out (bmore HAL5.out hb7 n!) n!)
        clear y0 y1 y2 y3 y4 y5 y6 u0 u1 u2 u3 u4 u5 u6 hb7 KSM
        rcases bq with _ | _
        ·have HF := h! (HE1.out rfl)
         go_wp2_with fail
         go_ret
         exact ⟨false, rfl, ⟨fun k => (by cases k), fun k => absurd k HF.out⟩, HBW4.out⟩
        ·have HF := h! (HE2.out rfl)
         go_wp2_with fail
         go_roundw
         case rel => exact ⟨j + 1, by omega, by go_num, HB7.out, HF⟩
         case measure => simp [intOf]; omega
      ·obtain rfl : n1 = j := by omega
       have HF := h! (show ∀ h', h' < h + 1 → okP L g h' from fun h' hh => by
        by_cases e : h' < h
        ·exact HH.out h' e
        ·obtain rfl : h' = h := by omega
         have := HJ.out
         rwa [List.take_of_length_le (by have := HN1.out; omega)] at this)
       go_wp2_with fail
       go_roundw
       case rel => exact ⟨h + 1, by omega, by go_num, HB5.out, HF⟩
       case measure => simp [intOf]; omega
    ·obtain rfl : h = g := by omega
     have HF := h! (show ∀ g' h', h' < g' → g' < h + 1 → okP L g' h' from fun g' h' k1 k2 => by
      by_cases e : g' < h
      ·exact HG.out g' h' k1 e
      ·obtain rfl : g' = h := by omega
       exact HH.out h' k1)
     go_wp2_with fail
     go_roundw
     case rel => exact ⟨h + 1, by omega, by go_num, HBW.out, HF⟩
     case measure => simp [intOf]; omega
  ·obtain rfl : n = g := by omega
   go_wp2_with fail
   go_ret
   exact ⟨true, rfl, ⟨fun _ => fun g' h' k1 k2 => HG.out g' h' k1 (by have := HN.out; omega), fun _ => rfl⟩, HB.out⟩
end Go.Proofs.YteebeiaokfenmaaGreat.KP

namespace Go.Proofs.YteebeiaokfenmaaGreat.KP
open Go.RowKit CP TP LP SP
open CM (Mg Cm)
open TM (Sp)
open KM (Wt Sk)
set_option linter.unusedVariables false
set_option linter.unusedSimpArgs false
theorem logs_one {w : World} {B : Option Addr} {l : List ByteArray} {n c : Nat} (h : TxIs w B n c l) : LogsIs (w.alloc (.cells #[.slice B n c] 26)) (some ⟨w.heap.size, 0, none⟩) 1 1 [l] := by
 have hal : Below w.heap.size w (w.alloc (.cells #[.slice B n c] 26)) := b!
 have e1 := h.len
 have hr := rd_row w [.slice B n c] 26
 refine ⟨[.slice B n c], hr, ⟨rfl, fun i l' hi => ?_⟩, rfl, Nat.le_refl _, by unfold maxLen; omega⟩
 match i, hi with
 | 0, hi =>
  simp at hi
  subst hi
  exact ⟨B, c, by rw [e1]; rfl, by rw [e1]; exact h.1.below hal, by rw [e1]; exact h.2.1, h.2.2.1⟩
 | i + 1, hi => simp at hi
end Go.Proofs.YteebeiaokfenmaaGreat.KP

namespace Go.Proofs.YteebeiaokfenmaaGreat.KP
open Go.RowKit CP TP LP SP
open CM (Mg Cm)
open TM (Sp)
open KM (Wt Sk)
set_option linter.unusedVariables false
set_option linter.unusedSimpArgs false
set_option maxRecDepth 100000
theorem logs_two {w w' : World} {B1 B2 : Option Addr} {l1 l2 : List ByteArray} {n1 n2 c1 c2 : Nat} (xs : Array Value) (h1 : TxIs w B1 n1 c1 l1) (h2 : TxIs w B2 n2 c2 l2) (hx : xs = #[.slice B1 n1 c1, .slice B2 n2 c2]) (hw : w' = w.alloc (.cells xs 26)) : LogsIs w' (some ⟨w.heap.size, 0, none⟩) 2 2 [l1, l2] := by
 subst hx hw
 have hal : Below w.heap.size w (w.alloc (.cells #[.slice B1 n1 c1, .slice B2 n2 c2] 26)) := b!
 have e1 := h1.len
 have e2 := h2.len
 have hr := rd_row w [.slice B1 n1 c1, .slice B2 n2 c2] 26
 refine ⟨[.slice B1 n1 c1, .slice B2 n2 c2], hr, ⟨rfl, fun i l hi => ?_⟩, rfl, Nat.le_refl _, by unfold maxLen; omega⟩
 match i, hi with
 | 0, hi =>
  simp at hi
  subst hi
  refine ⟨B1, c1, by rw [e1]; rfl, by rw [e1]; exact h1.1.below hal, by rw [e1]; exact h1.2.1, h1.2.2.1⟩
 | 1, hi =>
  simp at hi
  subst hi
  refine ⟨B2, c2, by rw [e2]; rfl, by rw [e2]; exact h2.1.below hal, by rw [e2]; exact h2.2.1, h2.2.2.1⟩
 | i + 2, hi => simp at hi
def BothQ (L : List (List ByteArray)) (w : World) (e : Ending) (w' : World) : Prop := ∃ q : Nat, e = .returned (.slice (some ⟨q, 0, none⟩) 2 2) ∧ LogsIs w' (some ⟨q, 0, none⟩) 2 2 L ∧ Below w.heap.size w w'
set_option maxHeartbeats 4000000 in
theorem both16_any (w : World) : Calls Tryz.prog 10 #[] w (BothQ [lE0, lE1] w) := by
 have KM := h! (fun v W (h : MgIs W v mE) => assign16_any v mE W h ok_m)
 have KN := h! (fun v W (h : MgIs W v nE) => assign16_any v nE W h ok_n)
 have K52 := h! (fun W => final16_any 5 2 W (by decide) (by decide))
 have K91 := h! (fun W => final16_any 9 1 W (by decide) (by decide))
 have S0 := h! sz0
 have S1 := h! sz1
 unfold lE0 lE1 at *
 unfold TxtIs at KM KN K52 K91
 generalize txt (asgE mE) = sm at *
 generalize txt (asgE nE) = sn at *
 generalize txt (finE 5 2) = s5 at *
 generalize txt (finE 9 1) = s9 at *
 go_enter Tryz.func10, Tryz.ntmps10
 go_wp2_with fail
 refine (m16_any w).mono ?_
 rintro e w1 ⟨v, rfl, hm, hb⟩
 have HM := h! hm
 have HB := h! hb
 clear hm hb
 go_wp2_with fail
 refine (KM.out v w1 HM.out).mono ?_
 rintro e w2 ⟨rfl, hb⟩
 replace HB := h! (bmore HB.out hb n!)
 clear hb HM
 go_wp2_with fail
 refine (K52.out w2).mono ?_
 rintro e w3 ⟨rfl, hb⟩
 have R0 := h! (tx_lit w3 #[.string sm, .string s5] [sm, s5] 2 rfl rfl (by omega) S0.out)
 replace HB := h! (bmore (bmore HB.out hb n!) ((Below.refl w3.heap.size w3).alloc n! (.cells #[.string sm, .string s5] 9)) n!)
 clear hb
 go_wp2_with fail
 generalize w3.alloc (.cells #[.string sm, .string s5] 9) = w4 at R0 HB ⊢
 generalize w3.heap.size = g3 at R0 ⊢
 refine (n16_any w4).mono ?_
 rintro e w5 ⟨v5, rfl, hm, hb⟩
 have HM := h! hm
 replace R0 := h! (R0.out.below hb)
 replace HB := h! (bmore HB.out hb n!)
 clear hm hb
 go_wp2_with fail
 refine (KN.out v5 w5 HM.out).mono ?_
 rintro e w6 ⟨rfl, hb⟩
 replace R0 := h! (R0.out.below hb)
 replace HB := h! (bmore HB.out hb n!)
 clear hb HM
 go_wp2_with fail
 refine (m16_any w6).mono ?_
 rintro e w7 ⟨v7, rfl, hm, hb⟩
 have HM := h! hm
 replace R0 := h! (R0.out.below hb)
 replace HB := h! (bmore HB.out hb n!)
 clear hm hb
 go_wp2_with fail
 refine (KM.out v7 w7 HM.out).mono ?_
 rintro e w8 ⟨rfl, hb⟩
 replace R0 := h! (R0.out.below hb)
 replace HB := h! (bmore HB.out hb n!)
 clear hb HM
 go_wp2_with fail
 refine (K91.out w8).mono ?_
 rintro e w9 ⟨rfl, hb⟩
 replace R0 := h! (R0.out.below hb)
 replace HB := h! (bmore HB.out hb n!)
 clear hb
 go_wp2_with fail
 refine (K52.out w9).mono ?_
 rintro e wa ⟨rfl, hb⟩
 have hal := (Below.refl wa.heap.size wa).alloc n! (.cells #[.string sn, .string sm, .string s9, .string s5] 9)
 have R1 := h! (tx_lit wa #[.string sn, .string sm, .string s9, .string s5] [sn, sm, s9, s5] 4 rfl rfl (by omega) S1.out)
 replace R0 := h! ((R0.out.below hb).below hal)
 replace HB := h! (bmore (bmore HB.out hb n!) hal n!)
 clear hb hal
 obtain ⟨ga, hga⟩ : ∃ ga, wa.heap.size = ga := ⟨_, rfl⟩
 obtain ⟨wb, hwb⟩ : ∃ wb, wb = wa.alloc (.cells #[.string sn, .string sm, .string s9, .string s5] 9) := ⟨_, rfl⟩
 have hsz : wb.heap.size = ga + 1 := by rw [hwb, World.size_alloc, hga]
 rw [← hwb, hga] at R1
 rw [← hwb] at R0 HB
 have HF := h! (show BothQ [[sm, s5], [sn, sm, s9, s5]] w (.returned (.slice (some ⟨ga + 1, 0, none⟩) 2 2)) (wb.alloc (.cells #[.slice (some ⟨g3, 0, none⟩) 2 2, .slice (some ⟨ga, 0, none⟩) 4 4] 26)) from by
  have := logs_two _ R0.out R1.out rfl rfl
  rw [hsz] at this
  exact ⟨_, rfl, this, bmore HB.out ((Below.refl _ _).alloc n! _) n!⟩)
 rw [hwb] at HF
 clear hwb hsz
 go_wp2_with fail
 go_ret
 exact HF.out
end Go.Proofs.YteebeiaokfenmaaGreat.KP

namespace Go.Proofs.YteebeiaokfenmaaGreat.KP
open Go.RowKit CP TP LP SP
open CM (Mg Cm)
open TM (Sp)
open KM (Wt Sk)
set_option linter.unusedVariables false
set_option linter.unusedSimpArgs false
set_option maxRecDepth 100000
def S1E : Sk := ⟨2, [], [⟨1, 9⟩, ⟨2, 5⟩]⟩
theorem play1E : OM.play 1 [asgE nE, asgE mE, finE 9 1, finE 5 2] = (S1E, [nE, mE], [(1, nE), (2, mE)]) := by decide +kernel
theorem play0E : OM.play 0 [asgE mE, finE 5 2] = (⟨2, [], [⟨2, 5⟩]⟩, [mE], [(1, mE)]) := by decide +kernel
theorem playR1 : playR 1 lE1 = (S1E, [nE, mE], 0) := by
 have h : asked 1 lE1 = 0 := by unfold asked; rw [if_pos (by decide), chk1]
 unfold playR
 rw [if_pos h, cmds1, play1E]
theorem playR0 : playR 0 lE0 = (⟨2, [], [⟨2, 5⟩]⟩, [mE], 0) := by
 have h : asked 0 lE0 = 0 := by unfold asked; rw [if_pos (by decide), chk0]
 unfold playR
 rw [if_pos h, cmds0, play0E]
set_option maxHeartbeats 4000000 in
theorem alive16_any (w : World) : Calls Tryz.prog 16 #[] w (IsB true w) := by
 have KB := h! (both16_any w)
 unfold BothQ at KB
 go_enter Tryz.func16, Tryz.ntmps16
 go_wp2_with fail
 refine (KB.out).mono ?_
 rintro e w1 ⟨qb, rfl, hl, hb⟩
 obtain ⟨ad, B, d, e0, _, q1, q2, q3, q4⟩ := logs_get hl (show [lE0, lE1][1]? = some lE1 from rfl)
 injection e0 with e0
 subst e0
 have eq1 : (⟨qb, 0, none⟩ : Addr).add 1 = ⟨qb, 1, none⟩ := by unfold Addr.add; split <;> simp_all
 rw [eq1] at q1
 have HP := h! (pplay16_any 1 B lE1.length d lE1 w1 ⟨q2, q3, q4, sz1⟩)
 rw [playR1] at HP
 have HB := h! hb
 have e4 : lE1.length = 4 := rfl
 rw [e4] at q1 HP
 clear hl hb q2 q3 q4 KB eq1
 go_wp2_with fail
 refine (HP.out).mono ?_
 rintro e w2 ⟨v, vm, rfl, ⟨vw, vd, rfl, k1, k2⟩, km, hb⟩
 obtain ⟨A4, c4, rfl, _⟩ := k1.g
 obtain ⟨B4, d4, rfl, k3, k4⟩ := own_form k2
 obtain ⟨C4, e4', rfl, kg⟩ := km.g
 have hs : SpsIs w2 B4 2 d4 [⟨1, 9⟩, ⟨2, 5⟩] := ⟨rdg_own k2, rfl, k3, k4⟩
 obtain ⟨bl, o, E0, f0, rfl, _, hbl, ⟨x0, _⟩, _⟩ := mgs_at kg.r (show [nE, mE][0]? = some nE from rfl)
 obtain ⟨bl', o', E1, f1, e5, _, _, ⟨x1, _⟩, _⟩ := mgs_at kg.r (show [nE, mE][1]? = some mE from rfl)
 injection e5 with e5
 injection e5 with e5 e6 _
 subst e5 e6
 obtain ⟨b2, o2, rfl, _, hb2, y0, y1⟩ := hs.at_ (show ([⟨1, 9⟩, ⟨2, 5⟩] : List Sp)[1]? = some ⟨2, 5⟩ from rfl)
 have HB2 := h! (bmore HB.out hb n!)
 unfold vsk
 simp only [S1E, List.length_nil, List.length_cons] at *
 have hal : Below w2.heap.size w2 (w2.alloc (.cells #[.int .i64 2, .slice A4 0 c4, .slice (some ⟨b2, o2, none⟩) 2 d4] 39)) := b!
 have X := h! (Box.new w2 39 #[.int .i64 2, .slice A4 0 c4, .slice (some ⟨b2, o2, none⟩) 2 d4])
 have z0 := (hal.cell (p := ⟨bl, o + 0 * 5, none⟩) hbl).trans x0
 have z1 := (hal.cell (p := ⟨bl, o + 1 * 5, none⟩) hbl).trans x1
 have z2 := (hal.cell (p := ⟨b2, o2 + 1 * 2, none⟩) hb2).trans y0
 have z3 := (hal.cell (p := ⟨b2, o2 + 1 * 2 + 1, none⟩) hb2).trans y1
 have HB3 := h! (bmore HB2.out hal n!)
 clear x0 x1 y0 y1 hb hal k1 k2 km kg hs HP q1 hbl hb2
 go_upto_region 2 with (fail)
 generalize w2.alloc (.cells #[.int .i64 2, .slice A4 0 c4, .slice (some ⟨b2, o2, none⟩) 2 d4] 39) = w3 at X z0 z1 z2 z3 HB3 ⊢
 generalize w2.heap.size = g2 at X ⊢
 obtain ⟨u0, u1, u2⟩ := box_sk X.out
 unfold nE at z0
 unfold mE at z1
 simp at z0 z1 z2 z3
 go_wp2_with fail
 go_ret
 exact ⟨rfl, HB3.out⟩
end Go.Proofs.YteebeiaokfenmaaGreat.KP
