/- Contracts of functions, L38: each as its theorem says. -/
import Derived.Test.YteebeiaokfenmaaGreatL37
set_option linter.unusedVariables false
set_option linter.unusedSimpArgs false
set_option maxRecDepth 100000
set_option maxHeartbeats 16000000
namespace Go.Proofs.YteebeiaokfenmaaGreat
namespace KP
open Go.RowKit CP TP LP
open CM (Mg Cm)
open TM (Sp)
open KM (Wt Sk)
def FtMid (T : List (Int × Mg)) (id : Int) (wr : World) (u8 u9 : Value) (wx : World) : Prop :=
 ∃ (q : Nat) (A : Option Addr) (c : Nat) (y : Wt) (b : Bool), u8 = .pointer (some ⟨q, 0, none⟩) ∧ u9 = .bool b ∧ Below wr.heap.size wr wx ∧ wr.heap.size ≤ q ∧ Box wx q 78 (wcs A c y) ∧ RowIs wr A c y.m.gs ∧
  ((b = true ∧ ∃ p, OM.fd T id = some p ∧ y = toWt p) ∨ (b = false ∧ OM.fd T id = none ∧ y = ⟨CM.mz, 0, false⟩))
section
variable {T : List (Int × Mg)} {id : Int} {wr w4 : World} {A : Option Addr} {c : Nat} {y : Wt} {b : Bool}
end
theorem finalTime_any (A : Option Addr) (c : Nat) (L : List (List Cm)) (vm : Value) (m : Mg) (w : World) (h : AlIs w A L) (hL : OM.Logs L) (hm : MgIs w vm m) (hg : ∀ g ∈ m.gs, 0 ≤ g) (hid : i64In m.id) :
  Calls Tryz.prog 36 #[.slice A L.length c, vm] w fun e w' => e = .returned (.tuple #[.int .i64 (OM.lastF L m).1, .bool (OM.lastF L m).2]) ∧ Below w.heap.size w w' := by
 obtain ⟨A1, c1, rfl, hrow⟩ := hm
 obtain ⟨n, hn⟩ : ∃ n, n = L.length := ⟨_, rfl⟩
 rw [← hn]
 obtain ⟨mm, hmm⟩ : ∃ mm, mm = m := ⟨_, rfl⟩
 obtain ⟨R, hR⟩ : ∃ R, R = OM.lastF L m := ⟨_, rfl⟩
 rw [← hR]
 have HR0 := h! (show OM.lastG L mm (m.gs.drop 0) 0 = R by rw [hmm, hR]; rfl)
 have HMM := h! hmm
 have HN := h! hn
 have H := h! h
 have HL := h! hL
 have HG := h! hg
 have HROW := h! hrow
 have hg63 : m.gs.length ≤ 9223372036854775807 := by have := hrow.2; unfold maxLen at this; omega
 have hn4 : n ≤ 4 := by have := hL.1; omega
 rw [← hmm] at hid
 clear h hL hg hrow hmm hR hn
 obtain ⟨ai, ag, at_, ak, ab⟩ := m
 unfold mcells
 simp only at HR0 HG HROW hg63 ⊢
 obtain ⟨p3, hp3⟩ : ∃ p3, w.heap.size = p3 := ⟨_, rfl⟩
 have HB := h! (show Below w.heap.size w (w.alloc (.cells #[.int .i64 ai, .slice A1 ag.length c1, .int .i64 at_, .string ak, .string ab] 33)) from (Below.refl _ _).alloc n! _)
 have X := h! (Box.new_at (w := w) (t := 33) (cs := #[.int .i64 ai, .slice A1 ag.length c1, .int .i64 at_, .string ak, .string ab]) p3 hp3)
 go_enter Tryz.func36, Tryz.ntmps36
 go_upto_region 1 with (fail)
 generalize w.alloc (.cells #[.int .i64 ai, .slice A1 ag.length c1, .int .i64 at_, .string ak, .string ab] 33) = w1 at HB X ⊢
 clear hp3
 have x1 := X.out.cell 1
 simp at x1
 go_wp2_with fail
 clear x1
 go_loopw [4, 13] (fun t i wr => ∃ (k : Nat) (most : Int), k ≤ ag.length ∧ t = .int .i64 most ∧ i = .int .i64 k ∧ Below w1.heap.size w1 wr ∧ Hid (OM.lastG L mm (ag.drop k) most = R)) (fun _ i _ => ag.length - (intOf i).toNat)
 case atStart => exact ⟨0, 0, by omega, rfl, rfl, Below.refl _ _, HR0⟩
 case round =>
  clear HR0
  obtain ⟨k, most, hk, rfl, rfl, hbr, HR⟩ := hrel
  have HBR := h! hbr
  have HBW := h! (bmore HB.out hbr n!)
  clear hbr
  by_cases hlt : k < ag.length
  ·obtain ⟨g, hgk⟩ : ∃ g, ag[k]? = some g := ⟨_, List.getElem?_eq_getElem hlt⟩
   have hd : ag.drop k = g :: ag.drop (k + 1) := by
    have := List.getElem?_eq_some_iff.1 hgk
    rw [List.drop_eq_getElem_cons this.1, this.2]
   have HD := h! (show (if (L.length : Int) ≤ g then (0, false) else if OM.tOf (OM.tg L g) mm = 0 then (0, false) else OM.lastG L mm (ag.drop (k + 1)) (max most (OM.tOf (OM.tg L g) mm))) = R by have := HR.out; rw [hd, OM.lastG] at this; exact this)
   have hg0 : 0 ≤ g := HG.out g (List.mem_of_getElem? hgk)
   obtain ⟨ad, u, rfl, _, hu, hcell⟩ := ((HROW.out.below HBW.out).1.at_ (k := k) hlt)
   have hu2 : u = .int .i64 g := by
    have : (ic ag)[k]? = some (.int .i64 g) := by unfold ic; rw [List.getElem?_map, hgk]; rfl
    rw [this] at hu
    injection hu with hu
    exact hu.symm
   subst hu2
   clear hgk hd hu
   have hk0 : (0 : Int) ≤ (k : Int) := by omega
   have hkn : (k : Int) < (ag.length : Int) := by omega
   by_cases hgl : (n : Int) ≤ g
   ·have HF := h! (show R = (0, false) by have := HD.out; rw [if_pos (by rw [← HN.out]; exact hgl)] at this; exact this.symm)
    go_wp2_with fail
    go_ret2
    exact ⟨by rw [HF.out]; rfl, HBW.out⟩
   ·obtain ⟨gn, rfl⟩ : ∃ gn : Nat, g = (gn : Int) := ⟨g.toNat, by omega⟩
    have hgn : gn < L.length := by have := HN.out; omega
    obtain ⟨bl, o, A', n', c', b', B', m', d', rfl, hbl, z0, z1, z2, hto⟩ := H.out gn hgn
    obtain ⟨T, hT⟩ : ∃ T, T = OM.tg L gn := ⟨_, rfl⟩
    have HNL := h! (show ¬ (L.length : Int) ≤ (gn : Int) by omega)
    have HD2 := h! (show (if OM.tOf T mm = 0 then (0, false) else OM.lastG L mm (ag.drop (k + 1)) (max most (OM.tOf T mm))) = R by have := HD.out; rw [if_neg HNL.out, ← hT] at this; exact this)
    have hI := HL.out.inv2 hgn
    have HND := h! (show (T.map fun p => p.2.id).Nodup by rw [hT]; exact hI.nd)
    have HT1 := h! (show ∀ p ∈ T, 1 ≤ p.1 by rw [hT]; exact fun p hp => (hI.tm p hp).1)
    have hai : mm.id = ai := by rw [HMM.out]
    rw [← hT] at hto
    have KF := h! (fun W (hb : Below wr.heap.size wr W) => pfind_any _ T _ ai wr W (hto.below HBW.out) hb HND.out (by rw [← hai]; exact hid))
    have X2 := h! (X.out.below HBR.out X.out.lt)
    have HSS := h! (fun (w' : World) (h : Below wr.heap.size wr w') => show w'.cell? ⟨bl, o + gn * 3, none⟩ = some (.slice A' n' c') ∧ w'.cell? ⟨bl, o + gn * 3 + 1, none⟩ = some (.map (some b')) ∧ w'.cell? ⟨bl, o + gn * 3 + 2, none⟩ = some (.slice B' m' d') ∧ w'.cell? ⟨p3, 0, none⟩ = some (.int .i64 ai) from by
     have hb2 := bmore HBW.out h n!
     exact ⟨(hb2.cell (p := ⟨bl, o + gn * 3, none⟩) hbl).trans z0, (hb2.cell (p := ⟨bl, o + gn * 3 + 1, none⟩) hbl).trans z1, (hb2.cell (p := ⟨bl, o + gn * 3 + 2, none⟩) hbl).trans z2, by have := (X2.out.below h X2.out.lt).cell 0; simpa using this⟩)
    have hgk1 : (gn : Int) < (n : Int) := by omega
    clear hT hI hto z0 z1 z2 hbl HD
    obtain ⟨s0, s1, s2, s3⟩ := HSS.out wr (Below.refl _ _)
    go_upto_region 6 with (fail)
    clear s0 s1 s2 s3 hcell
    go_cut [8, 9] (fun u8 u9 wx => FtMid T ai wr u8 u9 wx)
    case first =>
     have bb1 : Below wr.heap.size wr wr.drew := (Below.refl _ _).drew
     obtain ⟨ud, hud⟩ : ∃ ud, ud = wr.drew := ⟨_, rfl⟩
     refine wp_region_held_drew (S := fun w' => w'.cell? ⟨bl, o + gn * 3, none⟩ = some (.slice A' n' c') ∧ w'.cell? ⟨bl, o + gn * 3 + 1, none⟩ = some (.map (some b')) ∧ w'.cell? ⟨bl, o + gn * 3 + 2, none⟩ = some (.slice B' m' d') ∧ w'.cell? ⟨p3, 0, none⟩ = some (.int .i64 ai)) (by kernel_rfl) (HSS.out _ bb1) (fun hHeld => ?_)
     rw [← hud] at bb1 hHeld ⊢
     clear hud
     refine qT 0 ?_; try simp only [Act.put, qq]
     refine qT 1 ?_; try simp only [Act.put, qq]
     refine qT 2 ?_; try simp only [Act.put, qq]
     refine qT 3 ?_; try simp only [Act.put, qq]
     refine qT 4 ?_; try simp only [Act.put, qq]
     refine qT 5 ?_; try simp only [Act.put, qq]
     refine wpAnyH_ready (rs := [6, 10]) (by kernel_rfl) (by simp) ?_
     refine AllReadyH.cons rfl (fun K hK => ?_) (AllReadyH.cons rfl (fun K hK => ?_) AllReadyH.nil)
     ·go_simp
      refine (KF.out ud bb1).mono ?_
      rintro e w4 ⟨bz, A8, c8, y, rfl, ha, hrw, hcd⟩
      unfold vwt
      have bb4 := bmore bb1 ha n!
      have HRW := h! hrw
      have HCD := h! hcd
      clear ha hrw hcd
      refine hK.out _ _ (HSS.out _ bb4) (fun hHeld => ?_)
      clear hK
      try simp only [Act.put, qq]
      refine qT 7 ?_; try simp only [Act.put, qq]
      refine qT 8 ?_; try simp only [Act.put, qq]
      refine qT 9 ?_; try simp only [Act.put, qq]
      refine qR 10 fun K hK => ?_
      go_simp
      have bb5 : Below wr.heap.size wr (w4.alloc (.cells #[.int .i64 0, .slice none 0 0, .int .i64 0, .string ⟨#[]⟩, .string ⟨#[]⟩, .int .i64 0, .bool false] 78)) := bmore bb4 ((Below.refl _ _).alloc n! _) n!
      have V := h! (Box.new w4 78 #[.int .i64 0, .slice none 0 0, .int .i64 0, .string ⟨#[]⟩, .string ⟨#[]⟩, .int .i64 0, .bool false])
      have HV9 := h! bb4.size
      refine hK.out _ _ (HSS.out _ bb5) (fun hHeld => ?_)
      clear hK
      try simp only [Act.put, qq]
      generalize w4.alloc (.cells #[.int .i64 0, .slice none 0 0, .int .i64 0, .string ⟨#[]⟩, .string ⟨#[]⟩, .int .i64 0, .bool false] 78) = w5 at V bb5 hHeld ⊢
      obtain ⟨p9, hp9⟩ : ∃ p9, w4.heap.size = p9 := ⟨_, rfl⟩
      rw [hp9] at V HV9
      simp only [hp9]
      clear hp9
      obtain ⟨⟨q0, q1, q2, q3, q4, q5, q6⟩, r0, r1, r2, r3, r4, r5, r6⟩ := box_wtf V.out
      refine qR 11 fun K hK => ?_
      go_simp
      have bbE := pt7_below bb5 HV9.out (.int .i64 y.m.id) (.slice A8 y.m.gs.length c8) (.int .i64 y.m.tp) (.string y.m.key) (.string y.m.body) (.int .i64 y.t) (.bool y.f)
      have VE := h! (pt7_box V.out (.int .i64 y.m.id) (.slice A8 y.m.gs.length c8) (.int .i64 y.m.tp) (.string y.m.key) (.string y.m.body) (.int .i64 y.t) (.bool y.f))
      unfold pt7 at bbE VE
      refine hK.out _ _ (HSS.out _ bbE) (fun hHeld => ?_)
      clear hK
      try simp only [Act.put, qq]
      refine qT 12 ?_; try simp only [Act.put, qq]
      refine wpAnyH_done (by kernel_rfl) ?_ _
      go_wp2_with fail
      go_meet
      case rel => exact ⟨p9, A8, c8, y, bz, rfl, rfl, bbE, HV9.out, VE.out, HRW.out, HCD.out⟩
     ·go_simp
      have bb2 : Below wr.heap.size wr (ud.alloc (.cells #[.int .i64 0, .slice none 0 0, .int .i64 0, .string ⟨#[]⟩, .string ⟨#[]⟩, .int .i64 0, .bool false] 78)) := bmore bb1 ((Below.refl _ _).alloc n! _) n!
      have V := h! (Box.new ud 78 #[.int .i64 0, .slice none 0 0, .int .i64 0, .string ⟨#[]⟩, .string ⟨#[]⟩, .int .i64 0, .bool false])
      have HV9 := h! bb1.size
      refine hK.out _ _ (HSS.out _ bb2) (fun hHeld => ?_)
      clear hK
      try simp only [Act.put, qq]
      generalize ud.alloc (.cells #[.int .i64 0, .slice none 0 0, .int .i64 0, .string ⟨#[]⟩, .string ⟨#[]⟩, .int .i64 0, .bool false] 78) = w4 at V bb2 hHeld ⊢
      obtain ⟨p9, hp9⟩ : ∃ p9, ud.heap.size = p9 := ⟨_, rfl⟩
      rw [hp9] at V HV9
      simp only [hp9]
      clear hp9
      refine qR 6 fun K hK => ?_
      go_simp
      refine (KF.out w4 bb2).mono ?_
      rintro e w5 ⟨bz, A8, c8, y, rfl, ha, hrw, hcd⟩
      unfold vwt
      have bb5 := bmore bb2 ha n!
      replace V := h! (V.out.below ha V.out.lt)
      have HRW := h! hrw
      have HCD := h! hcd
      clear ha hrw hcd
      refine hK.out _ _ (HSS.out _ bb5) (fun hHeld => ?_)
      clear hK
      try simp only [Act.put, qq]
      refine qT 7 ?_; try simp only [Act.put, qq]
      refine qT 8 ?_; try simp only [Act.put, qq]
      refine qT 9 ?_; try simp only [Act.put, qq]
      obtain ⟨⟨q0, q1, q2, q3, q4, q5, q6⟩, r0, r1, r2, r3, r4, r5, r6⟩ := box_wtf V.out
      refine qR 11 fun K hK => ?_
      go_simp
      have bbE := pt7_below bb5 HV9.out (.int .i64 y.m.id) (.slice A8 y.m.gs.length c8) (.int .i64 y.m.tp) (.string y.m.key) (.string y.m.body) (.int .i64 y.t) (.bool y.f)
      have VE := h! (pt7_box V.out (.int .i64 y.m.id) (.slice A8 y.m.gs.length c8) (.int .i64 y.m.tp) (.string y.m.key) (.string y.m.body) (.int .i64 y.t) (.bool y.f))
      unfold pt7 at bbE VE
      refine hK.out _ _ (HSS.out _ bbE) (fun hHeld => ?_)
      clear hK
      try simp only [Act.put, qq]
      refine qT 12 ?_; try simp only [Act.put, qq]
      refine wpAnyH_done (by kernel_rfl) ?_ _
      go_wp2_with fail
      go_meet
      case rel => exact ⟨p9, A8, c8, y, bz, rfl, rfl, bbE, HV9.out, VE.out, HRW.out, HCD.out⟩
    case rest =>
     obtain ⟨q, A8, c8, y, b8, rfl, rfl, hb8, hq8, hbox, hrow8, hcond⟩ := hcut
     have HB8 := h! hb8
     have HROW8 := h! (hrow8.below hb8)
     have X8 := h! (X2.out.below hb8 X2.out.lt)
     have HBX := h! hbox
     have HBR8 := h! (bmore HBR.out hb8 n!)
     have HBW8 := h! (bmore HBW.out hb8 n!)
     have HMG := h! (fun W (hb : Below wr.heap.size wr W) => show MgIs W (.agg #[.int .i64 ai, .slice (some ad) ag.length c1, .int .i64 at_, .string ak, .string ab]) mm from ⟨some ad, c1, by rw [HMM.out]; rfl, by rw [HMM.out]; exact (HROW.out.below HBW.out).below hb⟩)
     rcases hcond with ⟨rfl, pp, hfd, rfl⟩ | ⟨rfl, hfd, _⟩
     rotate_left
     ·have HF := h! (show R = (0, false) by have := HD2.out; rw [if_pos (OM.tOf_fd0 (by rw [HMM.out]; exact hfd))] at this; exact this.symm)
      clear hb8 hbox hrow8 hfd KF HSS
      go_wp2_with fail
      go_ret2
      exact ⟨by rw [HF.out]; rfl, HBW8.out⟩
     have htf := OM.tOf_fd HND.out (m := mm) (p := pp) (by rw [HMM.out]; exact hfd)
     have h1p := HT1.out pp (OM.fd_some hfd).1
     obtain ⟨bq, hbq⟩ : ∃ bq, bq = decide (pp.2 = mm) := ⟨_, rfl⟩
     have HE1 := h! (show bq = false → R = (0, false) from fun e => by
      rw [e] at hbq
      have := HD2.out
      rw [htf, if_neg (of_decide_eq_false hbq.symm), if_pos rfl] at this
      exact this.symm)
     have HE2 := h! (show bq = true → OM.lastG L mm (ag.drop (k + 1)) (max most pp.1) = R from fun e => by
      rw [e] at hbq
      have := HD2.out
      rw [htf, if_pos (of_decide_eq_true hbq.symm), if_neg (by omega)] at this
      exact this)
     obtain ⟨t, ⟨bi, bg, bt, bk, bb⟩⟩ := pp
     have KSM := h! (fun W (hb : Below wc.heap.size wc W) => show Calls Tryz.prog 64 #[.agg #[.int .i64 bi, .slice A8 bg.length c8, .int .i64 bt, .string bk, .string bb], .agg #[.int .i64 ai, .slice (some ad) ag.length c1, .int .i64 at_, .string ak, .string ab]] W (BoolIs bq W) from by
      rw [hbq]
      exact psameMg_any ⟨bi, bg, bt, bk, bb⟩ mm _ _ W ⟨A8, c8, rfl, HROW8.out.below hb⟩ (HMG.out W (bmore HB8.out hb n!)))
     unfold toWt wcs at HBX
     simp only at HBX HE2
     clear hb8 hbox hrow8 hfd htf hbq h1p KF HSS
     obtain ⟨y0, y1, y2, y3, y4, y5, y6⟩ := box_wt HBX.out
     have s0 := X8.out.cell 0
     have s1 := X8.out.cell 1
     have s2 := X8.out.cell 2
     have s3 := X8.out.cell 3
     have s4 := X8.out.cell 4
     simp at s0 s1 s2 s3 s4
     go_wp2_with fail
     refine (KSM.out wc (Below.refl _ _)).mono ?_
     rintro e w6 ⟨rfl, hb6⟩
     have HBX6 := h! (HBX.out.below hb6 HBX.out.lt)
     have HBR6 := h! (bmore HBR8.out hb6 n!)
     have HBW6 := h! (bmore HBW8.out hb6 n!)
     clear hb6 KSM y0 y1 y2 y3 y4 y5 y6 s0 s1 s2 s3 s4
     rcases bq with _ | _
     ·have HF := h! (HE1.out rfl)
      go_wp2_with fail
      go_ret2
      exact ⟨by rw [HF.out]; rfl, HBW6.out⟩
     ·have HF := h! (HE2.out rfl)
      obtain ⟨y0, y1, y2, y3, y4, y5, y6⟩ := box_wt HBX6.out
      go_wp2_with fail
      go_roundw
      case rel => exact ⟨k + 1, max most t, by omega, rfl, by go_num, HBR6.out, HF⟩
      case measure => simp [intOf]; omega
  ·have HF := h! (show R = (most, true) by have := HR.out; rw [List.drop_of_length_le (by omega), OM.lastG] at this; exact this.symm)
   have hkn : ¬ (k : Int) < (ag.length : Int) := by omega
   go_wp2_with fail
   go_ret2
   exact ⟨by rw [HF.out]; rfl, HBW.out⟩
def okP (L : List (List Cm)) (g h : Nat) : Prop := ∀ p ∈ OM.tg L g, ∀ q, OM.fd (OM.tg L h) p.2.id = some q → q.2 = p.2
theorem AlIs.facts {w : World} {A : Option Addr} {L : List (List Cm)} (hL : OM.Logs L) {g : Nat} (hg : g < L.length) : ((OM.tg L g).map fun p => p.2.id).Nodup ∧ ∀ p ∈ OM.tg L g, i64In p.2.id := by
 have hI := hL.inv2 hg
 refine ⟨hI.nd, fun p hp => ?_⟩
 have := (hI.tm p hp).2.2.2.1.1
 unfold CM.idOk at this
 unfold i64In
 omega
theorem areOne_any (A : Option Addr) (L : List (List Cm)) (w : World) (h : AlIs w A L) (hL : OM.Logs L) :
  Calls Tryz.prog 38 #[.slice A L.length L.length] w fun e w' => ∃ b : Bool, e = .returned (.bool b) ∧ (b = true ↔ OM.oneB L) ∧ Below w.heap.size w w' := by
 obtain ⟨n, hn⟩ : ∃ n, n = L.length := ⟨_, rfl⟩
 rw [← hn]
 have HN := h! hn
 have H := h! h
 have HL := h! hL
 have hn4 : n ≤ 4 := by have := hL.1; omega
 clear h hL hn
 go_enter Tryz.func38, Tryz.ntmps38
 go_wp2_with fail
 go_loopw [13] (fun i wr => ∃ g : Nat, g ≤ n ∧ i = .int .i64 g ∧ Below w.heap.size w wr ∧ Hid (∀ g' h, h < g' → g' < g → okP L g' h)) (fun i _ => n - (intOf i).toNat)
 case atStart => exact ⟨0, by omega, rfl, Below.refl _ _, h! fun g' h _ hg => absurd hg (by omega)⟩
 case round =>
  obtain ⟨g, hgn, rfl, hb, HG⟩ := hrel
  have HB := h! hb
  by_cases hlt : g < n
  ·have hgL : g < L.length := by have := HN.out; omega
   obtain ⟨bl, o, A1, n1, c1, b1, B1, m1, d1, rfl, hbl, z0, z1, z2, hto⟩ := H.out g hgL
   have HBL := h! hbl
   have HTO := h! (hto.below hb)
   have hkr := hto
   obtain ⟨_, _, _, _, _, _, _, e1, hkr1, _, _⟩ := hkr
   injection e1 with e1
   injection e1 with e1
   injection e1 with e2 e1
   injection e2 with e3 e4 e5
   subst e3 e4 e5
   clear e1
   have HKR := h! (hkr1.below hb)
   have hn1 : n1 = (OM.tg L g).length := by have := hkr1.len; rw [List.length_map] at this; exact this.symm
   have hn63 : n1 ≤ 9223372036854775807 := hkr1.small
   have HN1 := h! hn1
   have x0 := (hb.cell (p := ⟨bl, o + g * 3, none⟩) hbl).trans z0
   have x1 := (hb.cell (p := ⟨bl, o + g * 3 + 1, none⟩) hbl).trans z1
   have x2 := (hb.cell (p := ⟨bl, o + g * 3 + 2, none⟩) hbl).trans z2
   have HGL := h! hgL
   have hg0 : (0 : Int) ≤ (g : Int) := by omega
   have hgn2 : (g : Int) < (n : Int) := by omega
   have hgn3 : (g : Int) ≤ (n : Int) := by omega
   have hgn4 : g ≤ n := by omega
   have HAL := h! (show Below wr.heap.size wr (wr.alloc (.cells #[.slice A1 n1 c1, .map (some b1), .slice B1 m1 d1] 75)) from (Below.refl _ _).alloc n! _)
   have X := h! (Box.new wr 75 #[.slice A1 n1 c1, .map (some b1), .slice B1 m1 d1])
   clear z0 z1 z2 hto hkr1 hn1 hb hbl hgL
   go_upto_region 4 with (fail)
   clear x0 x1 x2
   generalize wr.alloc (.cells #[.slice A1 n1 c1, .map (some b1), .slice B1 m1 d1] 75) = w1 at HAL X ⊢
   generalize wr.heap.size = p4 at X ⊢
   have HB1 := h! (bmore HB.out HAL.out n!)
   replace HTO := h! (HTO.out.below HAL.out)
   replace HKR := h! (HKR.out.below HAL.out)
   go_wp2_with fail
   go_loopw [22] (fun i wr => ∃ h : Nat, h ≤ g ∧ i = .int .i64 h ∧ Below w1.heap.size w1 wr ∧ Hid (∀ h', h' < h → okP L g h')) (fun i _ => g - (intOf i).toNat)
   case atStart => exact ⟨0, by omega, rfl, Below.refl _ _, h! fun h' hh => absurd hh (by omega)⟩
   case round =>
    obtain ⟨h, hhg, rfl, hb, HH⟩ := hrel
    have HB2 := h! hb
    have HBW := h! (bmore HB1.out hb n!)
    by_cases hlt2 : h < g
    ·have hhL : h < L.length := by have := HGL.out; omega
     obtain ⟨bl', o', A2, n2, c2, b2, B2, m2, d2, e0, hbl2, z0, z1, z2, hto2⟩ := H.out h hhL
     injection e0 with e0
     injection e0 with e01 e02 _
     subst e01 e02
     have HTO2 := h! (hto2.below HBW.out)
     have x0 := (HBW.out.cell (p := ⟨bl, o + h * 3, none⟩) hbl2).trans z0
     have x1 := (HBW.out.cell (p := ⟨bl, o + h * 3 + 1, none⟩) hbl2).trans z1
     have x2 := (HBW.out.cell (p := ⟨bl, o + h * 3 + 2, none⟩) hbl2).trans z2
     have HHL := h! hhL
     have hh0 : (0 : Int) ≤ (h : Int) := by omega
     have hhn2 : (h : Int) < (g : Int) := by omega
     have HAL2 := h! (show Below wr.heap.size wr (wr.alloc (.cells #[.slice A2 n2 c2, .map (some b2), .slice B2 m2 d2] 75)) from (Below.refl _ _).alloc n! _)
     have X2 := h! (Box.new wr 75 #[.slice A2 n2 c2, .map (some b2), .slice B2 m2 d2])
     have X1 := h! (X.out.below hb X.out.lt)
     clear z0 z1 z2 hto2 hb hbl2 hhL
     go_upto_region 7 with (fail)
     clear x0 x1 x2
     generalize wr.alloc (.cells #[.slice A2 n2 c2, .map (some b2), .slice B2 m2 d2] 75) = w2 at HAL2 X2 ⊢
     generalize wr.heap.size = p6 at X2 ⊢
     have HB3 := h! (bmore HB2.out HAL2.out n!)
     have X12 := h! (X.out.below HB3.out X.out.lt)
     have HTO22 := h! (HTO2.out.below HAL2.out)
     have x0 := X12.out.cell 0
     simp at x0
     go_wp2_with fail
     clear x0
     go_loopw [29] (fun i wr => ∃ j : Nat, j ≤ n1 ∧ i = .int .i64 j ∧ Below w2.heap.size w2 wr ∧ Hid (∀ p ∈ (OM.tg L g).take j, ∀ q, OM.fd (OM.tg L h) p.2.id = some q → q.2 = p.2)) (fun i _ => n1 - (intOf i).toNat)
     case atStart => exact ⟨0, by omega, rfl, Below.refl _ _, h! (by simp)⟩
     case round =>
      obtain ⟨j, hjn, rfl, hb, HJ⟩ := hrel
      have HB4 := h! hb
      have HB5 := h! (bmore HB3.out hb n!)
      have HBW2 := h! (bmore HB1.out HB5.out n!)
      by_cases hlt3 : j < n1
      ·obtain ⟨p, hp⟩ : ∃ p, (OM.tg L g)[j]? = some p := ⟨_, List.getElem?_eq_getElem (by have := HN1.out; omega)⟩
       obtain ⟨bl3, o3, B3, d3, rfl, _, _, ⟨x0, x1, x2, x3, x4, x5, x6⟩, hrow⟩ := wts_at (HKR.out.below HB5.out) (show ((OM.tg L g).map toWt)[j]? = some (toWt p) by rw [List.getElem?_map, hp]; rfl)
       have HROW := h! hrow
       have HP := h! hp
       have hid := (AlIs.facts (w := w) (A := none) HL.out HGL.out).2 p (List.mem_of_getElem? hp)
       have hnd := (AlIs.facts (w := w) (A := none) HL.out HHL.out).1
       have KF := h! (fun W (hb : Below wr.heap.size wr W) => pfind_any _ _ _ p.2.id wr W (HTO22.out.below HB4.out) hb hnd hid)
       have HNX := h! (show (∀ q, OM.fd (OM.tg L h) p.2.id = some q → q.2 = p.2) → ∀ x ∈ (OM.tg L g).take (j + 1), ∀ q, OM.fd (OM.tg L h) x.2.id = some q → q.2 = x.2 from fun k x hx => by
        rw [List.take_add_one, hp] at hx
        rcases List.mem_append.1 hx with hx | hx
        ·exact HJ.out x hx
        ·obtain rfl := List.mem_singleton.1 hx
         exact k)
       have HNO := h! (show (∃ q, OM.fd (OM.tg L h) p.2.id = some q ∧ q.2 ≠ p.2) → ¬ OM.oneB L from fun ⟨q, k1, k2⟩ k => k2 (k g h hlt2 HGL.out p (List.mem_of_getElem? hp) q k1))
       clear hp hrow hid hnd hb
       obtain ⟨t, ⟨ai, ag, at_, ak, ab⟩⟩ := p
       unfold toWt at x0 x1 x2 x3 x4 x5 x6 HROW
       simp only at x0 x1 x2 x3 x4 x5 x6 HROW KF HNX HNO
       have hj0 : (0 : Int) ≤ (j : Int) := by omega
       have hjn2 : (j : Int) < (n1 : Int) := by omega
       have HAL3 := h! (show Below wr.heap.size wr (wr.alloc (.cells #[.int .i64 ai, .slice B3 ag.length d3, .int .i64 at_, .string ak, .string ab, .int .i64 t, .bool false] 78)) from (Below.refl _ _).alloc n! _)
       have Y := h! (Box.new wr 78 #[.int .i64 ai, .slice B3 ag.length d3, .int .i64 at_, .string ak, .string ab, .int .i64 t, .bool false])
       have X24 := h! (X2.out.below HB4.out X2.out.lt)
       go_upto_region 10 with (fail)
       clear x0 x1 x2 x3 x4 x5 x6
       generalize wr.alloc (.cells #[.int .i64 ai, .slice B3 ag.length d3, .int .i64 at_, .string ak, .string ab, .int .i64 t, .bool false] 78) = w3 at HAL3 Y ⊢
       obtain ⟨p8, hp8⟩ : ∃ p8, wr.heap.size = p8 := ⟨_, rfl⟩
       rw [hp8] at Y
       try simp only [hp8]
       clear hp8
       obtain ⟨u0, u1, u2⟩ := box_sk (X24.out.below HAL3.out X24.out.lt)
       obtain ⟨y0, y1, y2, y3, y4, y5, y6⟩ := box_wt Y.out
       go_wp2_with fail
       refine (KF.out _ HAL3.out).mono ?_
       rintro e w5 ⟨bz, A8, c8, y, rfl, hb5, hrw, hcd⟩
       unfold vwt
       have HROW8 := h! (hrw.below (bmore HAL3.out hb5 n!))
       have Y5 := h! (Y.out.below hb5 Y.out.lt)
       have HB6 := h! (bmore HB4.out (bmore HAL3.out hb5 n!) n!)
       have HROW9 := h! (HROW.out.below (bmore HAL3.out hb5 n!))
       have HBW3 := h! (bmore HBW2.out (bmore HAL3.out hb5 n!) n!)
       clear u0 u1 u2 y0 y1 y2 y3 y4 y5 y6 hrw hb5 KF
       rcases hcd with ⟨rfl, pp, hfd, rfl⟩ | ⟨rfl, hfd, rfl⟩
       rotate_left
       ·have NX := h! (HNX.out fun q hq => by rw [hfd] at hq; cases hq)
        have HB7 := h! (bmore HB6.out ((Below.refl w5.heap.size w5).alloc n! (.cells #[.int .i64 0, .slice A8 0 c8, .int .i64 0, .string ⟨#[]⟩, .string ⟨#[]⟩, .int .i64 0, .bool false] 78)) n!)
        clear hfd
        unfold CM.mz
        simp only [List.length_nil]
        go_wp2_with fail
        go_roundw
        case rel => exact ⟨j + 1, by omega, by go_num, HB7.out, NX⟩
        case measure => simp [intOf]; omega
       ·obtain ⟨bq, hbq⟩ : ∃ bq, bq = decide (pp.2 = (⟨ai, ag, at_, ak, ab⟩ : Mg)) := ⟨_, rfl⟩
        have HE1 := h! (show bq = false → ¬ OM.oneB L from fun e => HNO.out ⟨pp, hfd, by rw [e] at hbq; exact of_decide_eq_false hbq.symm⟩)
        have HE2 := h! (show bq = true → ∀ x ∈ (OM.tg L g).take (j + 1), ∀ q, OM.fd (OM.tg L h) x.2.id = some q → q.2 = x.2 from fun e => HNX.out fun q hq => by rw [hfd] at hq; injection hq with hq; rw [← hq]; rw [e] at hbq; exact of_decide_eq_true hbq.symm)
        obtain ⟨t', ⟨bi, bg, bt, bk, bb⟩⟩ := pp
        unfold toWt at HROW8 ⊢
        simp only at HROW8 ⊢
        have hal : Below w5.heap.size w5 (w5.alloc (.cells #[.int .i64 bi, .slice A8 bg.length c8, .int .i64 bt, .string bk, .string bb, .int .i64 t', .bool false] 78)) := b!
        have KSM := h! (fun W (hb : Below w5.heap.size w5 W) => show Calls Tryz.prog 64 #[.agg #[.int .i64 bi, .slice A8 bg.length c8, .int .i64 bt, .string bk, .string bb], .agg #[.int .i64 ai, .slice B3 ag.length d3, .int .i64 at_, .string ak, .string ab]] W (BoolIs bq W) from by
         rw [hbq]
         exact psameMg_any ⟨bi, bg, bt, bk, bb⟩ ⟨ai, ag, at_, ak, ab⟩ _ _ W ⟨A8, c8, rfl, HROW8.out.below hb⟩ ⟨B3, d3, rfl, HROW9.out.below hb⟩)
        have HAL5 := h! hal
        have Z := h! (Box.new w5 78 #[.int .i64 bi, .slice A8 bg.length c8, .int .i64 bt, .string bk, .string bb, .int .i64 t', .bool false])
        have Y6 := h! (Y5.out.below hal Y5.out.lt)
        clear hfd hbq hal HNX HNO
        go_upto_region 11 with (fail)
        generalize w5.alloc (.cells #[.int .i64 bi, .slice A8 bg.length c8, .int .i64 bt, .string bk, .string bb, .int .i64 t', .bool false] 78) = w6 at HAL5 Z Y6 ⊢
        generalize w5.heap.size = p9 at Z ⊢
        obtain ⟨y0, y1, y2, y3, y4, y5, y6⟩ := box_wt Y6.out
        obtain ⟨u0, u1, u2, u3, u4, u5, u6⟩ := box_wt Z.out
        go_wp2_with fail
        refine (KSM.out _ HAL5.out).mono ?_
        rintro e w7 ⟨rfl, hb7⟩
        have HB7 := h! (bmore HB6.out (bmore HAL5.out hb7 n!) n!)
        have HBW4 := h! (bmore HBW3.out (bmore HAL5.out hb7 n!) n!)
        clear y0 y1 y2 y3 y4 y5 y6 u0 u1 u2 u3 u4 u5 u6 hb7 KSM
        rcases bq with _ | _
        ·have HF := h! (HE1.out rfl)
         go_wp2_with fail
         go_ret
         exact ⟨false, rfl, ⟨fun k => (by cases k), fun k => absurd k HF.out⟩, HBW4.out⟩
        ·have HF := h! (HE2.out rfl)
         go_wp2_with fail
         go_roundw
         case rel => exact ⟨j + 1, by omega, by go_num, HB7.out, HF⟩
         case measure => simp [intOf]; omega
      ·obtain rfl : n1 = j := by omega
       have HF := h! (show ∀ h', h' < h + 1 → okP L g h' from fun h' hh => by
        by_cases e : h' < h
        ·exact HH.out h' e
        ·obtain rfl : h' = h := by omega
         have := HJ.out
         rwa [List.take_of_length_le (by have := HN1.out; omega)] at this)
       go_wp2_with fail
       go_roundw
       case rel => exact ⟨h + 1, by omega, by go_num, HB5.out, HF⟩
       case measure => simp [intOf]; omega
    ·obtain rfl : h = g := by omega
     have HF := h! (show ∀ g' h', h' < g' → g' < h + 1 → okP L g' h' from fun g' h' k1 k2 => by
      by_cases e : g' < h
      ·exact HG.out g' h' k1 e
      ·obtain rfl : g' = h := by omega
       exact HH.out h' k1)
     go_wp2_with fail
     go_roundw
     case rel => exact ⟨h + 1, by omega, by go_num, HBW.out, HF⟩
     case measure => simp [intOf]; omega
  ·obtain rfl : n = g := by omega
   go_wp2_with fail
   go_ret
   exact ⟨true, rfl, ⟨fun _ => fun g' h' k1 k2 => HG.out g' h' k1 (by have := HN.out; omega), fun _ => rfl⟩, HB.out⟩
theorem fins_mem {g : Int} {l : List Cm} {c : Cm} (h : c ∈ OM.fins g l) : c ∈ l := by
 obtain ⟨k, h1, _⟩ := OM.mem_fins.1 h
 exact List.mem_of_getElem? h1
theorem lg_mem {L : List (List Cm)} {g : Nat} (hg : g < L.length) : OM.lg L g ∈ L := by
 rw [OM.lg_at (List.getElem?_eq_getElem hg)]
 exact List.getElem_mem hg
theorem fdm_ok {L : List (List Cm)} (hL : OM.Logs L) {g : Nat} (hg : g < L.length) (id : Int) : (∀ x ∈ (OM.fdm (OM.tg L g) id).gs, 0 ≤ x) ∧ i64In (OM.fdm (OM.tg L g) id).id := by
 unfold OM.fdm
 rcases hf : OM.fd (OM.tg L g) id with _ | p
 ·exact ⟨fun x hx => by simp [CM.mz] at hx, by unfold i64In; simp [CM.mz]⟩
 ·have hp := (OM.fd_some hf).1
  exact ⟨fun x hx => ((OM.mg_groups ((hL.inv2 hg).tm p hp).2.2.2.1).2 x hx).1, (AlIs.facts (w := default) (A := none) hL hg).2 p hp⟩
theorem areFinal_any (A : Option Addr) (L : List (List Cm)) (w : World) (h : AlIs w A L) (hL : OM.Logs L) (h200 : ∀ l ∈ L, l.length ≤ 200) :
  Calls Tryz.prog 39 #[.slice A L.length L.length] w fun e w' => ∃ b : Bool, e = .returned (.bool b) ∧ (b = true ↔ OM.finB L) ∧ Below w.heap.size w w' := by
 obtain ⟨n, hn⟩ : ∃ n, n = L.length := ⟨_, rfl⟩
 have KT := h! (fun W (hb : Below w.heap.size w W) vm m (hm : MgIs W vm m) hg hid => finalTime_any A L.length L vm m W (h.below hb) hL hm hg hid)
 rw [← hn] at KT ⊢
 have HN := h! hn
 have H := h! h
 have HL := h! hL
 have H2 := h! h200
 have hn4 : n ≤ 4 := by have := hL.1; omega
 clear h hL hn h200
 go_enter Tryz.func39, Tryz.ntmps39
 go_wp2_with fail
 go_loopw [13] (fun i wr => ∃ g : Nat, g ≤ n ∧ i = .int .i64 g ∧ Below w.heap.size w wr ∧ Hid (∀ g' : Nat, g' < g → ∀ c ∈ OM.fins g' (OM.lg L g'), OM.lastF L (OM.fdm (OM.tg L g') c.id) = (c.tm, true))) (fun i _ => n - (intOf i).toNat)
 case atStart => exact ⟨0, by omega, rfl, Below.refl _ _, h! fun g' hg => absurd hg (by omega)⟩
 case round =>
  obtain ⟨g, hgn, rfl, hb, HG⟩ := hrel
  have HB := h! hb
  by_cases hlt : g < n
  ·have hgL : g < L.length := by have := HN.out; omega
   obtain ⟨bl, o, A1, n1, c1, b1, B1, m1, d1, rfl, hbl, z0, z1, z2, hto⟩ := H.out g hgL
   have HTO := h! (hto.below hb)
   have hkr := hto
   obtain ⟨_, _, _, _, _, _, _, e1, _, _, hcr⟩ := hkr
   injection e1 with e1
   injection e1 with e1
   injection e1 with _ e1
   injection e1 with _ e1
   injection e1 with e2 _
   injection e2 with e3 e4 e5
   subst e3 e4 e5
   obtain ⟨F, hF⟩ : ∃ F, F = OM.fins g (OM.lg L g) := ⟨_, rfl⟩
   rw [← hF] at hcr
   have HFF := h! hF
   obtain ⟨es, hes, hRow, hRs⟩ := hcr.below hb
   obtain ⟨AA, cap, eA, hAt⟩ := hRow.any
   injection eA with e1 hm1 e3
   subst e1 e3
   have hm63 : m1 ≤ 9223372036854775807 := by
    have h1 := (told_few g (OM.lg L g)).2
    rw [← hF, ← hes, List.length_map] at h1
    have h2 := H2.out _ (lg_mem hgL)
    omega
   have HES := h! hes
   have HM1 := h! hm1
   have HAT := h! hAt
   have HRS := h! hRs
   have HGL := h! hgL
   have x0 := (hb.cell (p := ⟨bl, o + g * 3, none⟩) hbl).trans z0
   have x1 := (hb.cell (p := ⟨bl, o + g * 3 + 1, none⟩) hbl).trans z1
   have x2 := (hb.cell (p := ⟨bl, o + g * 3 + 2, none⟩) hbl).trans z2
   have hg0 : (0 : Int) ≤ (g : Int) := by omega
   have hgn2 : (g : Int) < (n : Int) := by omega
   have hnd := (AlIs.facts (w := w) (A := none) HL.out hgL).1
   have HND := h! hnd
   obtain ⟨T, hT⟩ : ∃ T, T = OM.tg L g := ⟨_, rfl⟩
   rw [← hT] at HTO HND
   rw [← hF] at HTO
   have HTT := h! hT
   have HFM := h! (fun id => fdm_ok HL.out hgL id)
   rw [← hT] at HFM
   have HCM := h! (show ∀ c ∈ F, CM.may c from fun c hc => HL.out.2 _ (lg_mem hgL) c (fins_mem (by rw [← hF]; exact hc)))
   have HAL := h! (show Below wr.heap.size wr (wr.alloc (.cells #[.slice A1 n1 c1, .map (some b1), .slice B1 m1 d1] 75)) from (Below.refl _ _).alloc n! _)
   have X := h! (Box.new wr 75 #[.slice A1 n1 c1, .map (some b1), .slice B1 m1 d1])
   have HBB := h! (hb.size)
   clear z0 z1 z2 hto hm1 hb hbl hgL hnd hT hF hes hRow hRs hAt
   go_upto_region 4 with (fail)
   clear x0 x1 x2
   generalize wr.alloc (.cells #[.slice A1 n1 c1, .map (some b1), .slice B1 m1 d1] 75) = w1 at HAL X ⊢
   obtain ⟨p4, hp4⟩ : ∃ p4, wr.heap.size = p4 := ⟨_, rfl⟩
   rw [hp4] at X
   try simp only [hp4]
   clear hp4
   have HB1 := h! (bmore HB.out HAL.out n!)
   have x2 := X.out.cell 2
   simp at x2
   go_wp2_with fail
   clear x2
   go_loopw [20] (fun i wr => ∃ j : Nat, j ≤ m1 ∧ i = .int .i64 j ∧ Below w1.heap.size w1 wr ∧ Hid (∀ c ∈ F.take j, OM.lastF L (OM.fdm T c.id) = (c.tm, true))) (fun i _ => m1 - (intOf i).toNat)
   case atStart => exact ⟨0, by omega, rfl, Below.refl _ _, h! (by simp)⟩
   case round =>
    obtain ⟨j, hjm, rfl, hb, HJ⟩ := hrel
    have HB2 := h! hb
    have HBW := h! (bmore HB1.out hb n!)
    have HBR := h! (bmore HAL.out hb n!)
    by_cases hlt2 : j < m1
    ·obtain ⟨e, he⟩ : ∃ e, es[j]? = some e := ⟨_, List.getElem?_eq_getElem (by have := HM1.out; omega)⟩
     have hc : F[j]? = some e.x := by rw [← HES.out, List.getElem?_map, he]; rfl
     have HC := h! hc
     have hmay := HCM.out e.x (List.mem_of_getElem? hc)
     have hfit := (cm_fit hmay).1
     have hidc : i64In e.x.id := hfit.2.2.1
     obtain ⟨bl2, off, e0, hbl2, hat⟩ := HAT.out j e he
     subst e0
     obtain ⟨y0, y1, y2, y3, y4, y5, y6, y7, y8, y9, y10, y11⟩ := hat.below hbl2 HBR.out
     have HNX := h! (show OM.lastF L (OM.fdm T e.x.id) = (e.x.tm, true) → ∀ c ∈ F.take (j + 1), OM.lastF L (OM.fdm T c.id) = (c.tm, true) from fun k c hc2 => by
      rw [List.take_add_one, hc] at hc2
      rcases List.mem_append.1 hc2 with q | q
      ·exact HJ.out c q
      ·obtain rfl := List.mem_singleton.1 q
       exact k)
     have HNO := h! (show OM.lastF L (OM.fdm T e.x.id) ≠ (e.x.tm, true) → ¬ OM.finB L from fun k1 k => k1 (by
      have := k g HGL.out e.x (by rw [← HFF.out]; exact List.mem_of_getElem? hc)
      rwa [← HTT.out] at this))
     have KF := h! (fun W (hb : Below wr.heap.size wr W) => pfind_any _ _ _ e.x.id wr W (HTO.out.below HBR.out) hb HND.out hidc)
     have HFO := h! (HFM.out e.x.id)
     obtain ⟨R, hR⟩ : ∃ R, R = OM.lastF L (OM.fdm T e.x.id) := ⟨_, rfl⟩
     rw [← hR] at HNX HNO
     have HR := h! hR
     clear he hc hmay hfit hidc hat hb hR
     obtain ⟨Ae, ce, Be, de, x⟩ := e
     obtain ⟨ck, ⟨ai, ag, at_, ak, ab⟩, bid, btm, bms, btp, bwh, bn⟩ := x
     simp only at y0 y1 y2 y3 y4 y5 y6 y7 y8 y9 y10 y11 HNX HNO KF HFO HR
     have hj0 : (0 : Int) ≤ (j : Int) := by omega
     have hjm2 : (j : Int) < (m1 : Int) := by omega
     have HAL2 := h! (show Below wr.heap.size wr (wr.alloc (.cells #[.int .u8 ck, .int .i64 ai, .slice Ae ag.length ce, .int .i64 at_, .string ak, .string ab, .int .i64 bid, .int .i64 btm, .slice Be bms.length de, .int .i64 btp, .int .i64 bwh, .int .i64 bn] 91)) from (Below.refl _ _).alloc n! _)
     have Y := h! (Box.new wr 91 #[.int .u8 ck, .int .i64 ai, .slice Ae ag.length ce, .int .i64 at_, .string ak, .string ab, .int .i64 bid, .int .i64 btm, .slice Be bms.length de, .int .i64 btp, .int .i64 bwh, .int .i64 bn])
     have X2 := h! (X.out.below HB2.out X.out.lt)
     go_upto_region 7 with (fail)
     clear y0 y1 y2 y3 y4 y5 y6 y7 y8 y9 y10 y11
     generalize wr.alloc (.cells #[.int .u8 ck, .int .i64 ai, .slice Ae ag.length ce, .int .i64 at_, .string ak, .string ab, .int .i64 bid, .int .i64 btm, .slice Be bms.length de, .int .i64 btp, .int .i64 bwh, .int .i64 bn] 91) = w3 at HAL2 Y ⊢
     obtain ⟨p6, hp6⟩ : ∃ p6, wr.heap.size = p6 := ⟨_, rfl⟩
     rw [hp6] at Y
     try simp only [hp6]
     clear hp6
     obtain ⟨u0, u1, u2⟩ := box_sk (X2.out.below HAL2.out X2.out.lt)
     have y6 := Y.out.cell 6
     simp at y6
     go_wp2_with fail
     refine (KF.out _ HAL2.out).mono ?_
     rintro e w5 ⟨bz, A8, c8, y, rfl, hb5, hrw, hcd⟩
     unfold vwt
     have hb25 := bmore HAL2.out hb5 n!
     have HY := h! (show y.m = OM.fdm T bid from by
      unfold OM.fdm
      rcases hcd with ⟨_, pp, hfd, rfl⟩ | ⟨_, hfd, rfl⟩
      ·rw [hfd]; rfl
      ·rw [hfd]; rfl)
     have HROW8 := h! (hrw.below hb25)
     have Y5 := h! (Y.out.below hb5 Y.out.lt)
     have HB6 := h! (bmore HB2.out hb25 n!)
     have HBW3 := h! (bmore HBW.out hb25 n!)
     clear u0 u1 u2 y6 hrw hb5 KF hb25 hcd
     obtain ⟨⟨bi, bg, bt, bk, bb⟩, ty, fy⟩ := y
     simp only at HY HROW8 ⊢
     have hal : Below w5.heap.size w5 (w5.alloc (.cells #[.int .i64 bi, .slice A8 bg.length c8, .int .i64 bt, .string bk, .string bb, .int .i64 ty, .bool fy] 78)) := b!
     have HAL5 := h! hal
     have Z := h! (Box.new w5 78 #[.int .i64 bi, .slice A8 bg.length c8, .int .i64 bt, .string bk, .string bb, .int .i64 ty, .bool fy])
     have Y6 := h! (Y5.out.below hal Y5.out.lt)
     have HBW5 := h! (bmore HBW3.out hal n!)
     have KTT := h! (fun W (hb : Below w5.heap.size w5 W) => show Calls Tryz.prog 36 #[.slice (some ⟨bl, o, none⟩) n n, .agg #[.int .i64 bi, .slice A8 bg.length c8, .int .i64 bt, .string bk, .string bb]] W (fun e w' => e = .returned (.tuple #[.int .i64 R.1, .bool R.2]) ∧ Below W.heap.size W w') from by
      rw [HR.out, ← HY.out]
      refine KT.out W (bmore HBW3.out hb n!) _ _ ⟨A8, c8, rfl, HROW8.out.below hb⟩ ?_ ?_
      ·rw [HY.out]; exact HFO.out.1
      ·rw [HY.out]; exact HFO.out.2)
     clear hal
     go_upto_region 8 with (fail)
     generalize w5.alloc (.cells #[.int .i64 bi, .slice A8 bg.length c8, .int .i64 bt, .string bk, .string bb, .int .i64 ty, .bool fy] 78) = w6 at HAL5 Z Y6 HBW5 ⊢
     generalize w5.heap.size = p7 at Z ⊢
     obtain ⟨u0, u1, u2, u3, u4, u5, u6⟩ := box_wt Z.out
     go_wp2_with fail
     refine (KTT.out _ HAL5.out).mono ?_
     rintro e w7 ⟨rfl, hb7⟩
     have HB7 := h! (bmore HB6.out (bmore HAL5.out hb7 n!) n!)
     have HBW7 := h! (bmore HBW5.out hb7 n!)
     have y7 := (Y6.out.below hb7 Y6.out.lt).cell 7
     simp at y7
     clear hb7 u0 u1 u2 u3 u4 u5 u6 KTT
     obtain ⟨r1, r2⟩ := R
     simp only at HNX HNO ⊢
     rcases r2 with _ | _
     ·have HF := h! (HNO.out (fun k => by injection k with _ k; cases k))
      go_wp2_with fail
      go_ret
      exact ⟨false, rfl, ⟨fun k => (by cases k), fun k => absurd k HF.out⟩, HBW7.out⟩
     ·by_cases hrt : r1 = btm
      ·have HF := h! (HNX.out (by rw [hrt]))
       have hbt : (r1 == btm) = true := by simpa using hrt
       clear hrt
       go_wp2_with fail
       go_roundw
       case rel => exact ⟨j + 1, by omega, by go_num, HB7.out, HF⟩
       case measure => simp [intOf]; omega
      ·have HF := h! (HNO.out (fun k => hrt (by injection k)))
       have hbt : (r1 == btm) = false := by simpa using hrt
       clear hrt
       go_wp2_with fail
       go_ret
       exact ⟨false, rfl, ⟨fun k => (by cases k), fun k => absurd k HF.out⟩, HBW7.out⟩
    ·obtain rfl : m1 = j := by omega
     have HF := h! (show ∀ g' : Nat, g' < g + 1 → ∀ c ∈ OM.fins g' (OM.lg L g'), OM.lastF L (OM.fdm (OM.tg L g') c.id) = (c.tm, true) from fun g' k2 => by
      by_cases e : g' < g
      ·exact HG.out g' e
      ·obtain rfl : g' = g := by omega
       have := HJ.out
       rw [List.take_of_length_le (by rw [← HES.out, List.length_map]; have := HM1.out; omega)] at this
       rw [← HFF.out, ← HTT.out]
       exact this)
     go_wp2_with fail
     go_roundw
     case rel => exact ⟨g + 1, by omega, by go_num, HBW.out, HF⟩
     case measure => simp [intOf]; omega
  ·obtain rfl : n = g := by omega
   go_wp2_with fail
   go_ret
   exact ⟨true, rfl, ⟨fun _ => fun g' k2 => HG.out g' (by have := HN.out; omega), fun _ => rfl⟩, HB.out⟩
end KP
end Go.Proofs.YteebeiaokfenmaaGreat
