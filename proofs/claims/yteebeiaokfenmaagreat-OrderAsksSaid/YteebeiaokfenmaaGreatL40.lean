/- Contracts of functions, L40: each as its theorem says. -/
import Derived.Test.YteebeiaokfenmaaGreatL39
set_option linter.unusedVariables false
set_option linter.unusedSimpArgs false
set_option maxRecDepth 100000
set_option maxHeartbeats 16000000
namespace Go.Proofs.YteebeiaokfenmaaGreat
namespace KP
open Go.RowKit CP TP LP
open CM (Mg Cm)
open TM (Sp)
open KM (Wt Sk)
theorem steps16_any (g : Int) (A : Option Addr) (n c : Nat) (l : List ByteArray) (w : World) (h : TxIs w A n c l) (hg : 0 ≤ g ∧ g < 4) (hck : LM.chk l = 0) :
  Calls Tryz.prog 75 #[.int .i64 g, .slice A n c] w fun e w' => ∃ v, e = .returned v ∧ StO w' w.heap.size g (LM.cmds l) v (LM.cmds l).length ∧ Below w.heap.size w w' := by
 obtain ⟨hmay, hlen⟩ := log_may hck
 have hnl : n ≤ 100000 := by have := h.len; have := (LM.chk_zero.1 hck).1; omega
 have KA := h! (fun W (hb : Below w.heap.size w W) => all13_any A n c l W (h.below hb) hnl)
 obtain ⟨cs, hcs⟩ : ∃ cs, cs = LM.cmds l := ⟨_, rfl⟩
 rw [← hcs] at KA hmay hlen ⊢
 obtain ⟨N, hN⟩ : ∃ N, N = cs.length := ⟨_, rfl⟩
 rw [← hN] at hlen ⊢
 have HN := h! hN
 have HC := h! hmay
 have HMay := h! (fun k => show KM.may (stA g cs k) from (OM.inv hg fun c hc => hmay c (List.mem_of_mem_take hc)).m)
 obtain ⟨j0, hj, hy0, hy1, hy2⟩ := info_parts info_step
 clear h hck hmay hnl hcs hN
 obtain ⟨q, hq⟩ : ∃ q, w.heap.size = q := ⟨_, rfl⟩
 have HQ := h! hq
 have HB := h! (show Below w.heap.size w (w.alloc (.cells #[.int .i64 0, .slice none 0 0, .slice none 0 0] 39)) from (Below.refl _ _).alloc n! _)
 have X := h! (Box.new_at (w := w) (t := 39) (cs := #[.int .i64 0, .slice none 0 0, .slice none 0 0]) q hq)
 go_enter Tryz.func75, Tryz.ntmps75
 go_upto_region 3 with (fail)
 generalize w.alloc (.cells #[.int .i64 0, .slice none 0 0, .slice none 0 0] 39) = w1 at HB X ⊢
 try simp only [hq]
 clear hq
 go_wp2_with fail
 refine (KA.out _ HB.out).mono ?_
 rintro e w2 ⟨sv, rfl, hcm, hb2⟩
 have HT0 := h! (show SsR w g cs sv q 0 none 0 0 none 0 0 (.slice none 0 0) w2 from
  ⟨bmore HB.out hb2 n!, by rw [HQ.out]; exact Nat.le_refl _, hcm.mono HB.out.size, X.out.below hb2 X.out.lt, skO_zero _ _, ⟨[], rfl, World.ownsRow_nil _ _ _ _, fun j l hl => by simp at hl⟩⟩)
 obtain ⟨As, cas, rfl, hsl⟩ : ∃ As cas, sv = .slice As N cas ∧ N ≤ 9223372036854775807 := by
  obtain ⟨es, h1, h2, _⟩ := hcm
  obtain ⟨As, cas, e, _, _⟩ := own_form h2
  exact ⟨As, cas, by rw [e, HN.out, ← h1, List.length_map], by omega⟩
 clear hcm hb2 KA
 go_wp2_with fail
 go_loopw [5, 8] (fun u i wr => ∃ (k : Nat) (A5 : Option Addr) (n5 a5 : Nat) (B5 : Option Addr) (m5 b5 : Nat), k ≤ N ∧ i = .int .i64 k ∧ Hid (SsR w g cs (.slice As N cas) q k A5 n5 a5 B5 m5 b5 u wr)) (fun _ i _ => N - (intOf i).toNat)
 case atStart => exact ⟨0, none, 0, 0, none, 0, 0, by omega, rfl, HT0⟩
 case round =>
  clear HT0
  obtain ⟨k, A5, n5, a5, B5, m5, b5, hk, rfl, HT⟩ := hrel
  by_cases hlt : k < N
  ·obtain ⟨es, hes, hRow, hRs⟩ := cmsO_row HT.out.cm
   obtain ⟨AA, cap, eA, hAt⟩ := hRow.any
   injection eA with e1 e2 e3
   subst e1 e3
   obtain ⟨e, he⟩ : ∃ e, es[k]? = some e := ⟨_, List.getElem?_eq_getElem (by omega)⟩
   have hc : cs[k]? = some e.x := by rw [← hes, List.getElem?_map, he]; rfl
   have HE := h! hc
   have hem := hRs e (List.mem_of_getElem? he)
   obtain ⟨bl, o, rfl, hbl, hat⟩ := hAt k e he
   have HCM := h! (HC.out e.x (List.mem_of_getElem? hc))
   have hMk := HMay.out k
   have HGA := h! (show RowGe wr w.heap.size e.A e.c e.x.m.gs from ⟨hem.1, fun ad e1 hn => (hem.2.2.1 ad e1 hn).1, hem.2.2.2.2.1⟩)
   have HGB := h! (show RowGe wr w.heap.size e.B e.d e.x.ms from ⟨hem.2.1, fun ad e1 hn => (hem.2.2.2.1 ad e1 hn).1, hem.2.2.2.2.2⟩)
   obtain ⟨S1, hS1⟩ : ∃ S1, S1 = stA g cs k := ⟨_, rfl⟩
   have hsk := HT.out.sk.is
   have hbx := HT.out.bx
   rw [← hS1] at hMk hsk hbx
   obtain ⟨sc, hsc⟩ : ∃ sc, sc = S1.c := ⟨_, rfl⟩
   rw [← hsc] at hsk hbx
   have HS1 := h! hS1
   have HSC := h! hsc
   obtain ⟨R, hR⟩ : ∃ R, R = KM.putF S1 g e.x := ⟨_, rfl⟩
   have HR := h! hR
   have HSK := h! (fun W (hb : Below wr.heap.size wr W) => hsk.below hb)
   have HBX := h! hbx
   unfold vsk at HSK
   have KT1 := h! (fun W (hb : Below wr.heap.size wr W) => rtwin15_any _ S1 W (HSK.out W hb) (by have := hMk.1.2.2.1; omega) (by have := hMk.1.2.2.2; omega) (fun x hx => ((fit_may hMk).2.1 x hx).2))
   have KP1 := h! (fun Wt (hb : Below wr.heap.size wr Wt) v W (ht : Below Wt.heap.size Wt W) (ho : SkO W Wt.heap.size v S1) => rput_any Wt.heap.size v S1 g (.agg (ccells e.A e.c e.B e.d e.x)) e.x W ho ht.size (fun W' h => ⟨_, _, _, _, rfl, HGA.out.1.below (hb.trans ((ht.trans h).mono hb.size)), HGB.out.1.below (hb.trans ((ht.trans h).mono hb.size))⟩) hMk.1.2.2.1 hMk.1.2.2.2 (Nat.le_trans (cm_fit HCM.out).2 (by decide)) ⟨hMk.1.1, hMk.1.2.1⟩)
   rw [← hR] at KP1
   have hce : CmsO wr w.heap.size (.slice (some ⟨bl, o, none⟩) N cas) cs := HT.out.cm
   obtain ⟨xx, hxx⟩ : ∃ xx, xx = e.x := ⟨_, rfl⟩
   rw [← hxx] at HE HCM HR
   have HXX := h! hxx
   clear e2 hes hRow hRs he hc hem hMk hsk hbx hS1 hsc hR hxx hAt hce
   obtain ⟨Ae, ce, Be, de, x⟩ := e
   obtain ⟨ck, ⟨ai, ag, at_, ak, ab⟩, bid, btm, bms, btp, bwh, bn⟩ := x
   unfold ccells at KP1
   simp only at KP1 hat HGA HGB HXX
   have HSS := h! (fun (w' : World) (h : Below wr.heap.size wr w') => show w'.cell? ⟨q, 0, none⟩ = some (.int .i64 sc) ∧ w'.cell? ⟨q, 1, none⟩ = some (.slice A5 n5 a5) ∧ w'.cell? ⟨q, 2, none⟩ = some (.slice B5 m5 b5) ∧ w'.cell? ⟨bl, o + k * 12, none⟩ = some (.int .u8 ck) ∧ w'.cell? ⟨bl, o + k * 12 + 1, none⟩ = some (.int .i64 ai) ∧ w'.cell? ⟨bl, o + k * 12 + 2, none⟩ = some (.slice Ae ag.length ce) ∧ w'.cell? ⟨bl, o + k * 12 + 3, none⟩ = some (.int .i64 at_) ∧ w'.cell? ⟨bl, o + k * 12 + 4, none⟩ = some (.string ak) ∧ w'.cell? ⟨bl, o + k * 12 + 5, none⟩ = some (.string ab) ∧ w'.cell? ⟨bl, o + k * 12 + 6, none⟩ = some (.int .i64 bid) ∧ w'.cell? ⟨bl, o + k * 12 + 7, none⟩ = some (.int .i64 btm) ∧ w'.cell? ⟨bl, o + k * 12 + 8, none⟩ = some (.slice Be bms.length de) ∧ w'.cell? ⟨bl, o + k * 12 + 9, none⟩ = some (.int .i64 btp) ∧ w'.cell? ⟨bl, o + k * 12 + 10, none⟩ = some (.int .i64 bwh) ∧ w'.cell? ⟨bl, o + k * 12 + 11, none⟩ = some (.int .i64 bn) from by
    obtain ⟨y0, y1, y2, y3, y4, y5, y6, y7, y8, y9, y10, y11⟩ := hat.below hbl h
    have hx := HBX.out.below h HBX.out.lt
    exact ⟨hx.cell 0, hx.cell 1, hx.cell 2, y0, y1, y2, y3, y4, y5, y6, y7, y8, y9, y10, y11⟩)
   have hk0 : (0 : Int) ≤ (k : Int) := by omega
   have hkn : (k : Int) < (N : Int) := by omega
   clear hat hbl
   go_upto_region 7 with (fail)
   go_cut [9, 10, 11] (fun u9 u10 u11 wx => StpMid w wr R u9 u10 u11 wx)
   case first =>
    have bb1 : Below wr.heap.size wr wr.drew := (Below.refl _ _).drew
    obtain ⟨ud, hud⟩ : ∃ ud, ud = wr.drew := ⟨_, rfl⟩
    refine wp_region_held_drew (S := fun w' => w'.cell? ⟨q, 0, none⟩ = some (.int .i64 sc) ∧ w'.cell? ⟨q, 1, none⟩ = some (.slice A5 n5 a5) ∧ w'.cell? ⟨q, 2, none⟩ = some (.slice B5 m5 b5) ∧ w'.cell? ⟨bl, o + k * 12, none⟩ = some (.int .u8 ck) ∧ w'.cell? ⟨bl, o + k * 12 + 1, none⟩ = some (.int .i64 ai) ∧ w'.cell? ⟨bl, o + k * 12 + 2, none⟩ = some (.slice Ae ag.length ce) ∧ w'.cell? ⟨bl, o + k * 12 + 3, none⟩ = some (.int .i64 at_) ∧ w'.cell? ⟨bl, o + k * 12 + 4, none⟩ = some (.string ak) ∧ w'.cell? ⟨bl, o + k * 12 + 5, none⟩ = some (.string ab) ∧ w'.cell? ⟨bl, o + k * 12 + 6, none⟩ = some (.int .i64 bid) ∧ w'.cell? ⟨bl, o + k * 12 + 7, none⟩ = some (.int .i64 btm) ∧ w'.cell? ⟨bl, o + k * 12 + 8, none⟩ = some (.slice Be bms.length de) ∧ w'.cell? ⟨bl, o + k * 12 + 9, none⟩ = some (.int .i64 btp) ∧ w'.cell? ⟨bl, o + k * 12 + 10, none⟩ = some (.int .i64 bwh) ∧ w'.cell? ⟨bl, o + k * 12 + 11, none⟩ = some (.int .i64 bn)) (by kernel_rfl) (HSS.out _ bb1) (fun hHeld => ?_)
    rw [← hud] at bb1 hHeld ⊢
    clear hud
    refine qT 0 ?_; try simp only [Act.put, qq]
    refine qT 2 ?_; try simp only [Act.put, qq]
    refine qT 3 ?_; try simp only [Act.put, qq]
    refine qT 4 ?_; try simp only [Act.put, qq]
    refine qT 5 ?_; try simp only [Act.put, qq]
    refine qT 6 ?_; try simp only [Act.put, qq]
    refine wpAnyH_ready (rs := [1, 12]) (by kernel_rfl) (by simp) ?_
    refine AllReadyH.cons rfl (fun K hK => ?_) (AllReadyH.cons rfl (fun K hK => ?_) AllReadyH.nil)
    ·go_simp
     refine (KT1.out ud bb1).mono ?_
     rintro e w4 ⟨v4, rfl, hso, hb4⟩
     obtain ⟨vW, vD, rfl, hk1, hk2⟩ := id hso
     obtain ⟨A4, c4, rfl, _⟩ := hk1.g
     obtain ⟨B4, d4, rfl, _, _⟩ := own_form hk2
     unfold vsk
     simp only
     have bb4 := bmore bb1 hb4 n!
     have HTB := h! bb1
     have HT4 := h! hb4
     have HT5 := h! (show wr.heap.size ≤ ud.heap.size from bb1.size)
     have HSO := h! hso
     clear hso hk1 hk2
     clear hb4
     refine hK.out _ _ (HSS.out _ bb4) (fun hHeld => ?_)
     clear hK
     try simp only [Act.put, qq]
     refine wpAnyH_ready (rs := [7, 12]) (by kernel_rfl) (by simp) ?_
     refine AllReadyH.cons rfl (fun K hK => ?_) (AllReadyH.cons rfl (fun K hK => ?_) AllReadyH.nil)
     ·go_simp
      refine (KP1.out ud HTB.out _ w4 HT4.out HSO.out).mono ?_
      rintro e w6 ⟨v6, vm6, rfl, hso6, hkm6, hb6, hkb6⟩
      obtain ⟨vW6, vD6, rfl, hk1, hk2⟩ := hso6
      obtain ⟨A6, c6, rfl, _⟩ := hk1.g
      obtain ⟨B6, d6, rfl, _, _⟩ := own_form hk2
      obtain ⟨E6, f6, rfl, _⟩ := hkm6.g
      unfold vsk
      have bb6 := bb4.trans (hb6.mono HT5.out)
      have HK1 := h! (hk1.mono HT5.out)
      have HK2 := h! (own_base hk2 HT5.out)
      have HK3 := h! (hkm6.mono HT5.out)
      clear hk1 hk2 hkm6 hb6 hkb6
      refine hK.out _ _ (HSS.out _ bb6) (fun hHeld => ?_)
      clear hK
      try simp only [Act.put, qq]
      refine qT 8 ?_; try simp only [Act.put, qq]
      refine qT 9 ?_; try simp only [Act.put, qq]
      refine qT 10 ?_; try simp only [Act.put, qq]
      refine qT 11 ?_; try simp only [Act.put, qq]
      refine qR 12 fun K hK => ?_
      go_simp
      have bb7 : Below wr.heap.size wr (w6.alloc (.cells #[.int .i64 0, .slice none 0 0, .slice none 0 0] 39)) := bmore bb6 ((Below.refl _ _).alloc n! _) n!
      have V := h! (Box.new w6 39 #[.int .i64 0, .slice none 0 0, .slice none 0 0])
      have HVW := h! (show Below w6.heap.size w6 (w6.alloc (.cells #[.int .i64 0, .slice none 0 0, .slice none 0 0] 39)) from (Below.refl _ _).alloc n! _)
      have HV9 := h! (show wr.heap.size ≤ w6.heap.size from bb6.size)
      refine hK.out _ _ (HSS.out _ bb7) (fun hHeld => ?_)
      clear hK
      try simp only [Act.put, qq]
      generalize w6.alloc (.cells #[.int .i64 0, .slice none 0 0, .slice none 0 0] 39) = w7 at V HVW bb7 hHeld ⊢
      obtain ⟨p9, hp9⟩ : ∃ p9, w6.heap.size = p9 := ⟨_, rfl⟩
      rw [hp9] at V HV9
      simp only [hp9]
      clear hp9
      replace HK1 := h! (HK1.out.below HVW.out)
      replace HK2 := h! (own_below3 HK2.out HVW.out)
      replace HK3 := h! (HK3.out.below HVW.out)
      obtain ⟨q0, q1, q2, q3, q4, q5⟩ := V.out.three
      refine qR 13 fun K hK => ?_
      go_simp
      have HKP := h! (kept_put3 V.out (.int .i64 R.1.c) (.slice A6 R.1.ws.length c6) (.slice B6 R.1.ds.length d6))
      have bbE := below_put3 bb7 HV9.out (.int .i64 R.1.c) (.slice A6 R.1.ws.length c6) (.slice B6 R.1.ds.length d6)
      refine hK.out _ _ (HSS.out _ bbE) (fun hHeld => ?_)
      clear hK
      try simp only [Act.put, qq]
      refine qT 14 ?_; try simp only [Act.put, qq]
      refine qT 15 ?_; try simp only [Act.put, qq]
      refine wpAnyH_done (by kernel_rfl) ?_ _
      go_wp2_with fail
      go_meet
      case rel => exact ⟨p9, A6, _, c6, B6, d6, E6, _, f6, rfl, rfl, rfl, HV9.out, Box.put3 V.out (.int .i64 R.1.c) (.slice A6 R.1.ws.length c6) (.slice B6 R.1.ds.length d6), KO.kept HKP.out (by decide) (by decide) HK1.out, HKP.out.own HK2.out (by decide), KO.kept HKP.out (by decide) (by decide) HK3.out, bbE⟩
     ·go_simp
      have bb5 : Below wr.heap.size wr (w4.alloc (.cells #[.int .i64 0, .slice none 0 0, .slice none 0 0] 39)) := bmore bb4 ((Below.refl _ _).alloc n! _) n!
      have V := h! (Box.new w4 39 #[.int .i64 0, .slice none 0 0, .slice none 0 0])
      have HVW := h! (show Below w4.heap.size w4 (w4.alloc (.cells #[.int .i64 0, .slice none 0 0, .slice none 0 0] 39)) from (Below.refl _ _).alloc n! _)
      have HV9 := h! (show wr.heap.size ≤ w4.heap.size from bb4.size)
      refine hK.out _ _ (HSS.out _ bb5) (fun hHeld => ?_)
      clear hK
      try simp only [Act.put, qq]
      generalize w4.alloc (.cells #[.int .i64 0, .slice none 0 0, .slice none 0 0] 39) = w5 at V HVW bb5 hHeld ⊢
      obtain ⟨p9, hp9⟩ : ∃ p9, w4.heap.size = p9 := ⟨_, rfl⟩
      rw [hp9] at V HV9
      simp only [hp9]
      clear hp9
      refine qR 7 fun K hK => ?_
      go_simp
      refine (KP1.out ud HTB.out _ w5 (bmore HT4.out HVW.out n!) (HSO.out.below HVW.out)).mono ?_
      rintro e w6 ⟨v6, vm6, rfl, hso6, hkm6, hb6, hkb6⟩
      obtain ⟨vW6, vD6, rfl, hk1, hk2⟩ := hso6
      obtain ⟨A6, c6, rfl, _⟩ := hk1.g
      obtain ⟨B6, d6, rfl, _, _⟩ := own_form hk2
      obtain ⟨E6, f6, rfl, _⟩ := hkm6.g
      unfold vsk
      have bb6 := bb5.trans (hb6.mono HT5.out)
      have HK1 := h! (hk1.mono HT5.out)
      have HK2 := h! (own_base hk2 HT5.out)
      have HK3 := h! (hkm6.mono HT5.out)
      replace V := h! (hkb6 _ _ V.out.lt V.out)
      clear hk1 hk2 hkm6 hb6 hkb6
      refine hK.out _ _ (HSS.out _ bb6) (fun hHeld => ?_)
      clear hK
      try simp only [Act.put, qq]
      refine qT 8 ?_; try simp only [Act.put, qq]
      refine qT 9 ?_; try simp only [Act.put, qq]
      refine qT 10 ?_; try simp only [Act.put, qq]
      refine qT 11 ?_; try simp only [Act.put, qq]
      obtain ⟨q0, q1, q2, q3, q4, q5⟩ := V.out.three
      refine qR 13 fun K hK => ?_
      go_simp
      have HKP := h! (kept_put3 V.out (.int .i64 R.1.c) (.slice A6 R.1.ws.length c6) (.slice B6 R.1.ds.length d6))
      have bbE := below_put3 bb6 HV9.out (.int .i64 R.1.c) (.slice A6 R.1.ws.length c6) (.slice B6 R.1.ds.length d6)
      refine hK.out _ _ (HSS.out _ bbE) (fun hHeld => ?_)
      clear hK
      try simp only [Act.put, qq]
      refine qT 14 ?_; try simp only [Act.put, qq]
      refine qT 15 ?_; try simp only [Act.put, qq]
      refine wpAnyH_done (by kernel_rfl) ?_ _
      go_wp2_with fail
      go_meet
      case rel => exact ⟨p9, A6, _, c6, B6, d6, E6, _, f6, rfl, rfl, rfl, HV9.out, Box.put3 V.out (.int .i64 R.1.c) (.slice A6 R.1.ws.length c6) (.slice B6 R.1.ds.length d6), KO.kept HKP.out (by decide) (by decide) HK1.out, HKP.out.own HK2.out (by decide), KO.kept HKP.out (by decide) (by decide) HK3.out, bbE⟩
    ·go_simp
     have bb2 : Below wr.heap.size wr (ud.alloc (.cells #[.int .i64 0, .slice none 0 0, .slice none 0 0] 39)) := bmore bb1 ((Below.refl _ _).alloc n! _) n!
     have V := h! (Box.new ud 39 #[.int .i64 0, .slice none 0 0, .slice none 0 0])
     have HVW := h! (show Below ud.heap.size ud (ud.alloc (.cells #[.int .i64 0, .slice none 0 0, .slice none 0 0] 39)) from (Below.refl _ _).alloc n! _)
     have HV9 := h! (show wr.heap.size ≤ ud.heap.size from bb1.size)
     refine hK.out _ _ (HSS.out _ bb2) (fun hHeld => ?_)
     clear hK
     try simp only [Act.put, qq]
     generalize ud.alloc (.cells #[.int .i64 0, .slice none 0 0, .slice none 0 0] 39) = w4 at V HVW bb2 hHeld ⊢
     obtain ⟨p9, hp9⟩ : ∃ p9, ud.heap.size = p9 := ⟨_, rfl⟩
     rw [hp9] at V HV9
     simp only [hp9]
     clear hp9
     refine qR 1 fun K hK => ?_
     go_simp
     refine (KT1.out w4 bb2).mono ?_
     rintro e w5 ⟨v4, rfl, hso, hb4⟩
     obtain ⟨vW, vD, rfl, hk1, hk2⟩ := id hso
     obtain ⟨A4, c4, rfl, _⟩ := hk1.g
     obtain ⟨B4, d4, rfl, _, _⟩ := own_form hk2
     unfold vsk
     simp only
     have bb4 := bmore bb2 hb4 n!
     have HTB := h! bb2
     have HT4 := h! hb4
     have HT5 := h! (show wr.heap.size ≤ w4.heap.size from bb2.size)
     have HSO := h! hso
     clear hso hk1 hk2
     replace V := h! (V.out.below hb4 V.out.lt)
     clear hb4
     refine hK.out _ _ (HSS.out _ bb4) (fun hHeld => ?_)
     clear hK
     try simp only [Act.put, qq]
     refine qR 7 fun K hK => ?_
     go_simp
     refine (KP1.out w4 HTB.out _ w5 HT4.out HSO.out).mono ?_
     rintro e w6 ⟨v6, vm6, rfl, hso6, hkm6, hb6, hkb6⟩
     obtain ⟨vW6, vD6, rfl, hk1, hk2⟩ := hso6
     obtain ⟨A6, c6, rfl, _⟩ := hk1.g
     obtain ⟨B6, d6, rfl, _, _⟩ := own_form hk2
     obtain ⟨E6, f6, rfl, _⟩ := hkm6.g
     unfold vsk
     have bb6 := bb4.trans (hb6.mono HT5.out)
     have HK1 := h! (hk1.mono HT5.out)
     have HK2 := h! (own_base hk2 HT5.out)
     have HK3 := h! (hkm6.mono HT5.out)
     replace V := h! (hkb6 _ _ V.out.lt V.out)
     clear hk1 hk2 hkm6 hb6 hkb6
     refine hK.out _ _ (HSS.out _ bb6) (fun hHeld => ?_)
     clear hK
     try simp only [Act.put, qq]
     refine qT 8 ?_; try simp only [Act.put, qq]
     refine qT 9 ?_; try simp only [Act.put, qq]
     refine qT 10 ?_; try simp only [Act.put, qq]
     refine qT 11 ?_; try simp only [Act.put, qq]
     obtain ⟨q0, q1, q2, q3, q4, q5⟩ := V.out.three
     refine qR 13 fun K hK => ?_
     go_simp
     have HKP := h! (kept_put3 V.out (.int .i64 R.1.c) (.slice A6 R.1.ws.length c6) (.slice B6 R.1.ds.length d6))
     have bbE := below_put3 bb6 HV9.out (.int .i64 R.1.c) (.slice A6 R.1.ws.length c6) (.slice B6 R.1.ds.length d6)
     refine hK.out _ _ (HSS.out _ bbE) (fun hHeld => ?_)
     clear hK
     try simp only [Act.put, qq]
     refine qT 14 ?_; try simp only [Act.put, qq]
     refine qT 15 ?_; try simp only [Act.put, qq]
     refine wpAnyH_done (by kernel_rfl) ?_ _
     go_wp2_with fail
     go_meet
     case rel => exact ⟨p9, A6, _, c6, B6, d6, E6, _, f6, rfl, rfl, rfl, HV9.out, Box.put3 V.out (.int .i64 R.1.c) (.slice A6 R.1.ws.length c6) (.slice B6 R.1.ds.length d6), KO.kept HKP.out (by decide) (by decide) HK1.out, HKP.out.own HK2.out (by decide), KO.kept HKP.out (by decide) (by decide) HK3.out, bbE⟩
   case rest =>
    obtain ⟨p9, A6, n6, c6, B6, d6, E6, m6, f6, rfl, rfl, rfl, hp9, hbx, hk1, hk2, hk3, hbe⟩ := hcut
    have HBE := h! hbe
    have HPW := h! hp9
    have HT2 := h! (HT.out.below hbe)
    have HBX2 := h! (HBX.out.below hbe HBX.out.lt)
    have HP9 := h! (show w.heap.size ≤ p9 from Nat.le_trans HT.out.bl.size hp9)
    have HPQ := h! (show q ≠ p9 from fun e => by have := HBX.out.lt; omega)
    have HP := h! hbx
    have HK1 := h! (hk1.mono HT.out.bl.size)
    have HK2 := h! (own_base hk2 HT.out.bl.size)
    have HK3 := h! (hk3.mono HT.out.bl.size)
    have HEx := h! (stA_next (g := g) HE.out)
    clear hp9 hbx hk1 hk2 hk3 hbe KT1 KP1 HSK
    rcases hr2 : R.2.2 with _ | _
    ·have HO := h! (show OM.one (stA g cs k) g xx = (stA g cs k, []) from one_no (by rw [← HS1.out, ← HR.out, hr2]; decide))
     clear hr2
     obtain ⟨x0, x1, x2⟩ := box_sk HBX2.out
     obtain ⟨z0, z1, z2, f0, f1, f2⟩ := HP.out.three
     have ZP := h! (Box.put3 HP.out (.int .i64 sc) (.slice A5 n5 a5) (.slice B5 m5 b5))
     have ZT := h! (HT2.out.put HP.out HPQ.out HP9.out (x := .int .i64 sc) (y := .slice A5 n5 a5) (z := .slice B5 m5 b5))
     have ZE := h! (below_put3 HBE.out HPW.out (.int .i64 sc) (.slice A5 n5 a5) (.slice B5 m5 b5))
     have HS2 := h! (show stA g cs (k + 1) = stA g cs k by rw [HEx.out, HO.out])
     have HC2 := h! (show sc = (stA g cs (k + 1)).c by rw [HS2.out, HSC.out, HS1.out])
     go_upto_region 11 with (fail)
     generalize (((wc.setCell ⟨p9, 0, none⟩ (.int .i64 sc)).setCell ⟨p9, 1, none⟩ (.slice A5 n5 a5)).setCell ⟨p9, 2, none⟩ (.slice B5 m5 b5)) = wz at ZP ZT ZE ⊢
     have ZS := h! (show SkO wz w.heap.size (vsk (stA g cs (k + 1)).c (.slice A5 n5 a5) (.slice B5 m5 b5)) (stA g cs (k + 1)) by rw [HS2.out]; exact ZT.out.sk)
     have ZK := h! (show KO KM_ wz w.heap.size 33 (.slice none 0 0) (OM.one (stA g cs k) g xx).2 by rw [HO.out]; exact kO_nil KM_ _ _ _)
     clear x0 x1 x2 z0 z1 z2 f0 f1 f2
     clear HO HP HT2 HBX2 HK1 HK2 HK3 HEx HBE HPW
     have BZ0 := h! (show Box wz q 39 #[.int .i64 sc, .slice A5 n5 a5, .slice B5 m5 b5] by have := ZT.out.bx; rwa [← HS1.out, ← HSC.out] at this)
     have HSS2 := h! (fun (w' : World) (h : Below wz.heap.size wz w') => show ((w'.cell? ⟨q, 0, none⟩ = some (.int .i64 sc) ∧ w'.cell? ⟨q, 1, none⟩ = some (.slice A5 n5 a5) ∧ w'.cell? ⟨q, 2, none⟩ = some (.slice B5 m5 b5) ∧ w'.cell? ⟨bl, o + k * 12, none⟩ = some (.int .u8 ck) ∧ w'.cell? ⟨bl, o + k * 12 + 1, none⟩ = some (.int .i64 ai) ∧ w'.cell? ⟨bl, o + k * 12 + 2, none⟩ = some (.slice Ae ag.length ce) ∧ w'.cell? ⟨bl, o + k * 12 + 3, none⟩ = some (.int .i64 at_) ∧ w'.cell? ⟨bl, o + k * 12 + 4, none⟩ = some (.string ak) ∧ w'.cell? ⟨bl, o + k * 12 + 5, none⟩ = some (.string ab) ∧ w'.cell? ⟨bl, o + k * 12 + 6, none⟩ = some (.int .i64 bid) ∧ w'.cell? ⟨bl, o + k * 12 + 7, none⟩ = some (.int .i64 btm) ∧ w'.cell? ⟨bl, o + k * 12 + 8, none⟩ = some (.slice Be bms.length de) ∧ w'.cell? ⟨bl, o + k * 12 + 9, none⟩ = some (.int .i64 btp) ∧ w'.cell? ⟨bl, o + k * 12 + 10, none⟩ = some (.int .i64 bwh) ∧ w'.cell? ⟨bl, o + k * 12 + 11, none⟩ = some (.int .i64 bn)) ∧ w'.cell? ⟨p9, 0, none⟩ = some (.int .i64 sc) ∧ w'.cell? ⟨p9, 1, none⟩ = some (.slice A5 n5 a5) ∧ w'.cell? ⟨p9, 2, none⟩ = some (.slice B5 m5 b5)) from ⟨HSS.out w' (bmore ZE.out h n!), (ZP.out.below h ZP.out.lt).cell 0, (ZP.out.below h ZP.out.lt).cell 1, (ZP.out.below h ZP.out.lt).cell 2⟩)
     have bb0 : Below wz.heap.size wz wz.drew := (Below.refl _ _).drew
     obtain ⟨ud, hud⟩ : ∃ ud, ud = wz.drew := ⟨_, rfl⟩
     refine wp_region_held_drew (S := fun w' => ((w'.cell? ⟨q, 0, none⟩ = some (.int .i64 sc) ∧ w'.cell? ⟨q, 1, none⟩ = some (.slice A5 n5 a5) ∧ w'.cell? ⟨q, 2, none⟩ = some (.slice B5 m5 b5) ∧ w'.cell? ⟨bl, o + k * 12, none⟩ = some (.int .u8 ck) ∧ w'.cell? ⟨bl, o + k * 12 + 1, none⟩ = some (.int .i64 ai) ∧ w'.cell? ⟨bl, o + k * 12 + 2, none⟩ = some (.slice Ae ag.length ce) ∧ w'.cell? ⟨bl, o + k * 12 + 3, none⟩ = some (.int .i64 at_) ∧ w'.cell? ⟨bl, o + k * 12 + 4, none⟩ = some (.string ak) ∧ w'.cell? ⟨bl, o + k * 12 + 5, none⟩ = some (.string ab) ∧ w'.cell? ⟨bl, o + k * 12 + 6, none⟩ = some (.int .i64 bid) ∧ w'.cell? ⟨bl, o + k * 12 + 7, none⟩ = some (.int .i64 btm) ∧ w'.cell? ⟨bl, o + k * 12 + 8, none⟩ = some (.slice Be bms.length de) ∧ w'.cell? ⟨bl, o + k * 12 + 9, none⟩ = some (.int .i64 btp) ∧ w'.cell? ⟨bl, o + k * 12 + 10, none⟩ = some (.int .i64 bwh) ∧ w'.cell? ⟨bl, o + k * 12 + 11, none⟩ = some (.int .i64 bn)) ∧ w'.cell? ⟨p9, 0, none⟩ = some (.int .i64 sc) ∧ w'.cell? ⟨p9, 1, none⟩ = some (.slice A5 n5 a5) ∧ w'.cell? ⟨p9, 2, none⟩ = some (.slice B5 m5 b5))) (by kernel_rfl) (HSS2.out _ bb0) (fun hHeld => ?_)
     rw [← hud] at bb0 hHeld ⊢
     clear hud
     refine qT 0 ?_; try simp only [Act.put, qq]
     refine qT 1 ?_; try simp only [Act.put, qq]
     refine qT 2 ?_; try simp only [Act.put, qq]
     refine qT 3 ?_; try simp only [Act.put, qq]
     refine qT 4 ?_; try simp only [Act.put, qq]
     refine qT 5 ?_; try simp only [Act.put, qq]
     refine qT 6 ?_; try simp only [Act.put, qq]
     refine qT 7 ?_; try simp only [Act.put, qq]
     refine qT 8 ?_; try simp only [Act.put, qq]
     refine qR 9 fun K hK => ?_
     go_simp
     have X7 := h! (Box.new ud 137 #[.int .u8 ck, .int .i64 ai, .slice Ae ag.length ce, .int .i64 at_, .string ak, .string ab, .int .i64 bid, .int .i64 btm, .slice Be bms.length de, .int .i64 btp, .int .i64 bwh, .int .i64 bn, .int .i64 sc, .slice A5 n5 a5, .slice B5 m5 b5, .int .i64 sc, .slice A5 n5 a5, .slice B5 m5 b5, .slice none 0 0])
     have bb7 : Below wz.heap.size wz (ud.alloc (.cells #[.int .u8 ck, .int .i64 ai, .slice Ae ag.length ce, .int .i64 at_, .string ak, .string ab, .int .i64 bid, .int .i64 btm, .slice Be bms.length de, .int .i64 btp, .int .i64 bwh, .int .i64 bn, .int .i64 sc, .slice A5 n5 a5, .slice B5 m5 b5, .int .i64 sc, .slice A5 n5 a5, .slice B5 m5 b5, .slice none 0 0] 137)) := bmore bb0 ((Below.refl _ _).alloc n! _) n!
     refine hK.out _ _ (HSS2.out _ bb7) (fun hHeld => ?_)
     clear hK
     try simp only [Act.put, qq]
     generalize ud.alloc (.cells #[.int .u8 ck, .int .i64 ai, .slice Ae ag.length ce, .int .i64 at_, .string ak, .string ab, .int .i64 bid, .int .i64 btm, .slice Be bms.length de, .int .i64 btp, .int .i64 bwh, .int .i64 bn, .int .i64 sc, .slice A5 n5 a5, .slice B5 m5 b5, .int .i64 sc, .slice A5 n5 a5, .slice B5 m5 b5, .slice none 0 0] 137) = w7 at X7 bb7 hHeld ⊢
     obtain ⟨p7, hp7⟩ : ∃ p7, ud.heap.size = p7 := ⟨_, rfl⟩
     rw [hp7] at X7
     simp only [hp7]
     clear hp7
     have ZT7 := h! (ZT.out.below bb7)
     have BW7 := h! (bmore ZE.out bb7 n!)
     have HEL := h! (show StEl w7 w.heap.size g cs k [.int .u8 ck, .int .i64 ai, .slice Ae ag.length ce, .int .i64 at_, .string ak, .string ab, .int .i64 bid, .int .i64 btm, .slice Be bms.length de, .int .i64 btp, .int .i64 bwh, .int .i64 bn, .int .i64 sc, .slice A5 n5 a5, .slice B5 m5 b5, .int .i64 sc, .slice A5 n5 a5, .slice B5 m5 b5, .slice none 0 0] from ⟨xx, Ae, ce, Be, de, A5, n5, a5, B5, m5, b5, A5, n5, a5, B5, m5, b5, none, 0, 0, HE.out, by rw [HXX.out, ← HC2.out, ← HS1.out, ← HSC.out]; rfl, by rw [HXX.out]; exact rowGe_kept (Kept.no BW7.out) id HGA.out, by rw [HXX.out]; exact rowGe_kept (Kept.no BW7.out) id HGB.out, ZT7.out.sk, ZS.out.below bb7, ZK.out.below bb7⟩)
     obtain ⟨xs, hxs, ho, hel⟩ := ZT7.out.st
     have HR2 := h! (rdG_box (s := 19) (n := 1) X7.out rfl rfl)
     have hbz : w.heap.size ≤ w7.heap.size := ZT7.out.bl.size
     refine qR 10 fun K hK => ?_
     refine step_append_h rfl (.tmp 35) (.tmp 44) 134 rfl w.heap.size 137 j0 _ 19 280 Tryz.underlying134 hj hy0 hy1 hy2 rfl (by omega) u5 k _ (by simp [Act.eval, Act.put]) ho (some ⟨p7, 0, none⟩) 1 1 _ (by simp [Act.eval, Act.put]) HR2.out (List.all_eq_true.1 (by rfl)) (by unfold maxLen; omega) (by omega) hbz ?_
     intro v9 w9 o9 g9 _
     have k9 : Kept (fun e => e = 137) w7 w9 := Kept.grown ho rfl g9
     have bq9 := k9.box _ _ _ (by decide) (BZ0.out.below bb7 BZ0.out.lt)
     have bp9 := k9.box _ _ _ (by decide) (ZP.out.below bb7 ZP.out.lt)
     obtain ⟨es9, _, hown9, _⟩ := ZT7.out.cm
     obtain ⟨_, cur9, hc9⟩ := own_block hown9 (g := bl) rfl
     have hc10 := k9.box _ _ _ (by decide) hc9
     have hcell : ∀ j, w9.cell? ⟨bl, j, none⟩ = w7.cell? ⟨bl, j, none⟩ := fun j => (hc10.cell j).trans (hc9.cell j).symm
     obtain ⟨⟨y0, y1, y2, y3, y4, y5, y6, y7, y8, y9, y10, y11, y12, y13, y14⟩, y15, y16, y17⟩ := HSS2.out w7 bb7
     refine hK.out _ _ ⟨⟨bq9.cell 0, bq9.cell 1, bq9.cell 2, (hcell _).trans y3, (hcell _).trans y4, (hcell _).trans y5, (hcell _).trans y6, (hcell _).trans y7, (hcell _).trans y8, (hcell _).trans y9, (hcell _).trans y10, (hcell _).trans y11, (hcell _).trans y12, (hcell _).trans y13, (hcell _).trans y14⟩, bp9.cell 0, bp9.cell 1, bp9.cell 2⟩ (fun hHeld => ?_)
     clear hK y0 y1 y2 y3 y4 y5 y6 y7 y8 y9 y10 y11 y12 y13 y14 y15 y16 y17 hcell hc10 hc9 hown9
     try simp only [Act.put, qq]
     have NX := h! (SsR.next ZT7.out (ZS.out.below bb7) HEL.out hxs ho hel o9 g9)
     rw [← HC2.out] at NX
     obtain ⟨r0, r1, r2⟩ := box_sk bp9
     obtain ⟨t0, t1, t2, t3, t4, t5⟩ := bq9.three
     clear bq9 bp9 k9 o9 g9 ho hel
     refine qT 11 ?_; try simp only [Act.put, qq]
     refine wpAnyH_done (by kernel_rfl) ?_ _
     clear hHeld
     go_wp2_with fail
     go_roundw
     case rel => exact ⟨k + 1, A5, n5, a5, B5, m5, b5, by omega, by go_num, NX⟩
     case measure => simp [intOf]; omega
    ·have HO := h! (show OM.one (stA g cs k) g xx = (R.1, R.2.1) from by rw [one_ok (by rw [← HS1.out, ← HR.out, hr2]), ← HS1.out, ← HR.out])
     clear hr2
     have HS2 := h! (show stA g cs (k + 1) = R.1 by rw [HEx.out, HO.out])
     have HC2 := h! (show R.1.c = (stA g cs (k + 1)).c by rw [HS2.out])
     have ZP := HP
     have ZT := HT2
     have ZE := HBE
     obtain ⟨wz, hwz⟩ : ∃ wz, wz = wc := ⟨_, rfl⟩
     have ZS := h! (show SkO wz w.heap.size (vsk (stA g cs (k + 1)).c (.slice A6 n6 c6) (.slice B6 R.1.ds.length d6)) (stA g cs (k + 1)) by rw [HS2.out, hwz]; exact ⟨_, _, rfl, HK1.out, HK2.out⟩)
     have ZK := h! (show KO KM_ wz w.heap.size 33 (.slice E6 m6 f6) (OM.one (stA g cs k) g xx).2 by rw [HO.out, hwz]; exact HK3.out)
     rw [← hwz] at ZP ZT ZE ⊢
     clear hwz
     go_upto_region 11 with (fail)
     clear HO HP HT2 HBX2 HK1 HK2 HK3 HEx HBE HPW
     have BZ0 := h! (show Box wz q 39 #[.int .i64 sc, .slice A5 n5 a5, .slice B5 m5 b5] by have := ZT.out.bx; rwa [← HS1.out, ← HSC.out] at this)
     have HSS2 := h! (fun (w' : World) (h : Below wz.heap.size wz w') => show ((w'.cell? ⟨q, 0, none⟩ = some (.int .i64 sc) ∧ w'.cell? ⟨q, 1, none⟩ = some (.slice A5 n5 a5) ∧ w'.cell? ⟨q, 2, none⟩ = some (.slice B5 m5 b5) ∧ w'.cell? ⟨bl, o + k * 12, none⟩ = some (.int .u8 ck) ∧ w'.cell? ⟨bl, o + k * 12 + 1, none⟩ = some (.int .i64 ai) ∧ w'.cell? ⟨bl, o + k * 12 + 2, none⟩ = some (.slice Ae ag.length ce) ∧ w'.cell? ⟨bl, o + k * 12 + 3, none⟩ = some (.int .i64 at_) ∧ w'.cell? ⟨bl, o + k * 12 + 4, none⟩ = some (.string ak) ∧ w'.cell? ⟨bl, o + k * 12 + 5, none⟩ = some (.string ab) ∧ w'.cell? ⟨bl, o + k * 12 + 6, none⟩ = some (.int .i64 bid) ∧ w'.cell? ⟨bl, o + k * 12 + 7, none⟩ = some (.int .i64 btm) ∧ w'.cell? ⟨bl, o + k * 12 + 8, none⟩ = some (.slice Be bms.length de) ∧ w'.cell? ⟨bl, o + k * 12 + 9, none⟩ = some (.int .i64 btp) ∧ w'.cell? ⟨bl, o + k * 12 + 10, none⟩ = some (.int .i64 bwh) ∧ w'.cell? ⟨bl, o + k * 12 + 11, none⟩ = some (.int .i64 bn)) ∧ w'.cell? ⟨p9, 0, none⟩ = some (.int .i64 R.1.c) ∧ w'.cell? ⟨p9, 1, none⟩ = some (.slice A6 n6 c6) ∧ w'.cell? ⟨p9, 2, none⟩ = some (.slice B6 R.1.ds.length d6)) from ⟨HSS.out w' (bmore ZE.out h n!), (ZP.out.below h ZP.out.lt).cell 0, (ZP.out.below h ZP.out.lt).cell 1, (ZP.out.below h ZP.out.lt).cell 2⟩)
     have bb0 : Below wz.heap.size wz wz.drew := (Below.refl _ _).drew
     obtain ⟨ud, hud⟩ : ∃ ud, ud = wz.drew := ⟨_, rfl⟩
     refine wp_region_held_drew (S := fun w' => ((w'.cell? ⟨q, 0, none⟩ = some (.int .i64 sc) ∧ w'.cell? ⟨q, 1, none⟩ = some (.slice A5 n5 a5) ∧ w'.cell? ⟨q, 2, none⟩ = some (.slice B5 m5 b5) ∧ w'.cell? ⟨bl, o + k * 12, none⟩ = some (.int .u8 ck) ∧ w'.cell? ⟨bl, o + k * 12 + 1, none⟩ = some (.int .i64 ai) ∧ w'.cell? ⟨bl, o + k * 12 + 2, none⟩ = some (.slice Ae ag.length ce) ∧ w'.cell? ⟨bl, o + k * 12 + 3, none⟩ = some (.int .i64 at_) ∧ w'.cell? ⟨bl, o + k * 12 + 4, none⟩ = some (.string ak) ∧ w'.cell? ⟨bl, o + k * 12 + 5, none⟩ = some (.string ab) ∧ w'.cell? ⟨bl, o + k * 12 + 6, none⟩ = some (.int .i64 bid) ∧ w'.cell? ⟨bl, o + k * 12 + 7, none⟩ = some (.int .i64 btm) ∧ w'.cell? ⟨bl, o + k * 12 + 8, none⟩ = some (.slice Be bms.length de) ∧ w'.cell? ⟨bl, o + k * 12 + 9, none⟩ = some (.int .i64 btp) ∧ w'.cell? ⟨bl, o + k * 12 + 10, none⟩ = some (.int .i64 bwh) ∧ w'.cell? ⟨bl, o + k * 12 + 11, none⟩ = some (.int .i64 bn)) ∧ w'.cell? ⟨p9, 0, none⟩ = some (.int .i64 R.1.c) ∧ w'.cell? ⟨p9, 1, none⟩ = some (.slice A6 n6 c6) ∧ w'.cell? ⟨p9, 2, none⟩ = some (.slice B6 R.1.ds.length d6))) (by kernel_rfl) (HSS2.out _ bb0) (fun hHeld => ?_)
     rw [← hud] at bb0 hHeld ⊢
     clear hud
     refine qT 0 ?_; try simp only [Act.put, qq]
     refine qT 1 ?_; try simp only [Act.put, qq]
     refine qT 2 ?_; try simp only [Act.put, qq]
     refine qT 3 ?_; try simp only [Act.put, qq]
     refine qT 4 ?_; try simp only [Act.put, qq]
     refine qT 5 ?_; try simp only [Act.put, qq]
     refine qT 6 ?_; try simp only [Act.put, qq]
     refine qT 7 ?_; try simp only [Act.put, qq]
     refine qT 8 ?_; try simp only [Act.put, qq]
     refine qR 9 fun K hK => ?_
     go_simp
     have X7 := h! (Box.new ud 137 #[.int .u8 ck, .int .i64 ai, .slice Ae ag.length ce, .int .i64 at_, .string ak, .string ab, .int .i64 bid, .int .i64 btm, .slice Be bms.length de, .int .i64 btp, .int .i64 bwh, .int .i64 bn, .int .i64 sc, .slice A5 n5 a5, .slice B5 m5 b5, .int .i64 R.1.c, .slice A6 n6 c6, .slice B6 R.1.ds.length d6, .slice E6 m6 f6])
     have bb7 : Below wz.heap.size wz (ud.alloc (.cells #[.int .u8 ck, .int .i64 ai, .slice Ae ag.length ce, .int .i64 at_, .string ak, .string ab, .int .i64 bid, .int .i64 btm, .slice Be bms.length de, .int .i64 btp, .int .i64 bwh, .int .i64 bn, .int .i64 sc, .slice A5 n5 a5, .slice B5 m5 b5, .int .i64 R.1.c, .slice A6 n6 c6, .slice B6 R.1.ds.length d6, .slice E6 m6 f6] 137)) := bmore bb0 ((Below.refl _ _).alloc n! _) n!
     refine hK.out _ _ (HSS2.out _ bb7) (fun hHeld => ?_)
     clear hK
     try simp only [Act.put, qq]
     generalize ud.alloc (.cells #[.int .u8 ck, .int .i64 ai, .slice Ae ag.length ce, .int .i64 at_, .string ak, .string ab, .int .i64 bid, .int .i64 btm, .slice Be bms.length de, .int .i64 btp, .int .i64 bwh, .int .i64 bn, .int .i64 sc, .slice A5 n5 a5, .slice B5 m5 b5, .int .i64 R.1.c, .slice A6 n6 c6, .slice B6 R.1.ds.length d6, .slice E6 m6 f6] 137) = w7 at X7 bb7 hHeld ⊢
     obtain ⟨p7, hp7⟩ : ∃ p7, ud.heap.size = p7 := ⟨_, rfl⟩
     rw [hp7] at X7
     simp only [hp7]
     clear hp7
     have ZT7 := h! (ZT.out.below bb7)
     have BW7 := h! (bmore ZE.out bb7 n!)
     have HEL := h! (show StEl w7 w.heap.size g cs k [.int .u8 ck, .int .i64 ai, .slice Ae ag.length ce, .int .i64 at_, .string ak, .string ab, .int .i64 bid, .int .i64 btm, .slice Be bms.length de, .int .i64 btp, .int .i64 bwh, .int .i64 bn, .int .i64 sc, .slice A5 n5 a5, .slice B5 m5 b5, .int .i64 R.1.c, .slice A6 n6 c6, .slice B6 R.1.ds.length d6, .slice E6 m6 f6] from ⟨xx, Ae, ce, Be, de, A5, n5, a5, B5, m5, b5, A6, n6, c6, B6, R.1.ds.length, d6, E6, m6, f6, HE.out, by rw [HXX.out, ← HC2.out, ← HS1.out, ← HSC.out]; rfl, by rw [HXX.out]; exact rowGe_kept (Kept.no BW7.out) id HGA.out, by rw [HXX.out]; exact rowGe_kept (Kept.no BW7.out) id HGB.out, ZT7.out.sk, ZS.out.below bb7, ZK.out.below bb7⟩)
     obtain ⟨xs, hxs, ho, hel⟩ := ZT7.out.st
     have HR2 := h! (rdG_box (s := 19) (n := 1) X7.out rfl rfl)
     have hbz : w.heap.size ≤ w7.heap.size := ZT7.out.bl.size
     refine qR 10 fun K hK => ?_
     refine step_append_h rfl (.tmp 35) (.tmp 44) 134 rfl w.heap.size 137 j0 _ 19 280 Tryz.underlying134 hj hy0 hy1 hy2 rfl (by omega) u5 k _ (by simp [Act.eval, Act.put]) ho (some ⟨p7, 0, none⟩) 1 1 _ (by simp [Act.eval, Act.put]) HR2.out (List.all_eq_true.1 (by rfl)) (by unfold maxLen; omega) (by omega) hbz ?_
     intro v9 w9 o9 g9 _
     have k9 : Kept (fun e => e = 137) w7 w9 := Kept.grown ho rfl g9
     have bq9 := k9.box _ _ _ (by decide) (BZ0.out.below bb7 BZ0.out.lt)
     have bp9 := k9.box _ _ _ (by decide) (ZP.out.below bb7 ZP.out.lt)
     obtain ⟨es9, _, hown9, _⟩ := ZT7.out.cm
     obtain ⟨_, cur9, hc9⟩ := own_block hown9 (g := bl) rfl
     have hc10 := k9.box _ _ _ (by decide) hc9
     have hcell : ∀ j, w9.cell? ⟨bl, j, none⟩ = w7.cell? ⟨bl, j, none⟩ := fun j => (hc10.cell j).trans (hc9.cell j).symm
     obtain ⟨⟨y0, y1, y2, y3, y4, y5, y6, y7, y8, y9, y10, y11, y12, y13, y14⟩, y15, y16, y17⟩ := HSS2.out w7 bb7
     refine hK.out _ _ ⟨⟨bq9.cell 0, bq9.cell 1, bq9.cell 2, (hcell _).trans y3, (hcell _).trans y4, (hcell _).trans y5, (hcell _).trans y6, (hcell _).trans y7, (hcell _).trans y8, (hcell _).trans y9, (hcell _).trans y10, (hcell _).trans y11, (hcell _).trans y12, (hcell _).trans y13, (hcell _).trans y14⟩, bp9.cell 0, bp9.cell 1, bp9.cell 2⟩ (fun hHeld => ?_)
     clear hK y0 y1 y2 y3 y4 y5 y6 y7 y8 y9 y10 y11 y12 y13 y14 y15 y16 y17 hcell hc10 hc9 hown9
     try simp only [Act.put, qq]
     have NX := h! (SsR.next ZT7.out (ZS.out.below bb7) HEL.out hxs ho hel o9 g9)
     rw [← HC2.out] at NX
     obtain ⟨r0, r1, r2⟩ := box_sk bp9
     obtain ⟨t0, t1, t2, t3, t4, t5⟩ := bq9.three
     clear bq9 bp9 k9 o9 g9 ho hel
     refine qT 11 ?_; try simp only [Act.put, qq]
     refine wpAnyH_done (by kernel_rfl) ?_ _
     clear hHeld
     go_wp2_with fail
     go_roundw
     case rel => exact ⟨k + 1, A6, n6, c6, B6, R.1.ds.length, d6, by omega, by go_num, NX⟩
     case measure => simp [intOf]; omega
  ·obtain rfl : N = k := by omega
   go_wp2_with fail
   go_ret
   exact ⟨_, rfl, HT.out.st, HT.out.bl⟩
theorem StO.form {W : World} {b : Nat} {g : Int} {cs : List Cm} {v : Value} {k : Nat} (h : StO W b g cs v k) : ∃ A c, v = .slice A k c ∧ k ≤ c ∧ c ≤ maxLen := by
 obtain ⟨xs, k1, k2, k3⟩ := h
 exact own_form k2
theorem StO.at_ {W : World} {b : Nat} {g : Int} {cs : List Cm} {A : Option Addr} {c k : Nat} (h : StO W b g cs (.slice A k c) k) {i : Nat} (hi : i < k) :
  ∃ q l, A = some ⟨q, 0, none⟩ ∧ b ≤ q ∧ q < W.heap.size ∧ StEl W b g cs i l ∧ (∃ cur, Box W q 137 cur) ∧ ∀ j u, l[j]? = some u → W.cell? ⟨q, i * 19 + j, none⟩ = some u := by
 obtain ⟨xs, k1, k2, k3⟩ := h
 obtain ⟨q, rfl, hb, hc⟩ := own_some k2 (by omega)
 obtain ⟨l, hl⟩ : ∃ l, xs[i]? = some l := ⟨_, List.getElem?_eq_getElem (by omega)⟩
 have h19 : ∀ a ∈ xs, a.length = 19 := fun a ha => by
  obtain ⟨j, hj⟩ := List.getElem?_of_mem ha
  obtain ⟨x, A, c, B, d, A5, n5, a5, B5, m5, b5, A6, n6, a6, B6, m6, b6, E, m, f, _, e, _⟩ := (k3 j a hj).ex
  rw [e]; rfl
 obtain ⟨_, cur, hx⟩ := own_block k2 (g := q) rfl
 refine ⟨q, l, rfl, hb, hx.lt, k3 i l hl, ⟨cur, hx⟩, fun j u hu => hc _ _ ?_⟩
 have hj : j < 19 := by
  have := (List.getElem?_eq_some_iff.1 hu).1
  have := h19 l (List.mem_of_getElem? hl)
  omega
 rw [flat_get (f := fun l => l) (s := 19) h19 hl j hj]
 exact hu
section
variable {α : Type} {K : Kd α} {w w' : World} {b n c : Nat} {A : Option Addr} {l : List α} {T : TypeId} {v : Value}
end
end KP
end Go.Proofs.YteebeiaokfenmaaGreat
