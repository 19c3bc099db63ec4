/-
  The laws' own after, walked (towncrierlaw15); over skeen's Apply and New as premises. Conditions: commands that read as such, 100 of them at most, of short lists.
  The example that the statements of layer 15 begin with holds: two messages are delivered (towncrierlaw15); over skeen's Apply and New as premises.
-/
import Derived.Test.YtnpgjcapekopnaaK20
namespace Go.Proofs.Ytnpgjcapekopnaa.KP
open Go.RowKit CP TP
open CM (Mg Cm)
open TM (Sp)
open KM (Wt Sk)
set_option linter.unusedVariables false
set_option linter.unusedSimpArgs false
set_option maxRecDepth 100000

set_option maxHeartbeats 16000000 in
theorem after15_any (PA : PApply) (PN : PNew) (A : Option Addr) (n c : Nat) (es : List LP.El) (w : World) (h : CmsArg w A n c es) (hgs : ∀ e ∈ es, e.x.m.gs.length ≤ 4096) (hn : n ≤ 100) :
    Calls Try.prog 6 #[.slice A n c] w (AfIs (af (es.map LP.El.x)) w) := by
  obtain ⟨j0, hj, hy0, hy1, hy2⟩ := info_parts info_mg
  obtain ⟨cs, hcs⟩ : ∃ cs, cs = es.map LP.El.x := ⟨_, rfl⟩
  rw [← hcs]
  have HL := Lib.hid h.2.1
  have HFT := Lib.hid (fun e (he : e ∈ es) => And.intro (h.2.2.2.2 e he).2.2 (hgs e he))
  have HCS := Lib.hid (show ∀ (k : Nat) e, es[k]? = some e → cs[k]? = some e.x from fun k e he => by rw [hcs, List.getElem?_map, he]; rfl)
  have HCL := Lib.hid (show cs.length = n by rw [hcs, List.length_map]; exact h.2.1)
  have hn63 := h.small
  have H := Lib.hid (fun W (hb : Below w.heap.size w W) => h.below hb)
  have HB := Lib.hid (show Below w.heap.size w (w.alloc (.cells #[.int .i64 0, .slice none 0 0, .slice none 0 0] 25)) from (Below.refl _ _).alloc (Nat.le_refl _) _)
  have X2 := Lib.hid (Box.new w 25 #[.int .i64 0, .slice none 0 0, .slice none 0 0])
  have HS1 := Lib.hid (show w.heap.size < (w.alloc (.cells #[.int .i64 0, .slice none 0 0, .slice none 0 0] 25)).heap.size by simp)
  clear h hgs hcs
  go_enter Try.func6, Try.ntmps6
  go_upto_region 1 with (fail)
  generalize w.alloc (.cells #[.int .i64 0, .slice none 0 0, .slice none 0 0] 25) = w1 at HB X2 HS1 ⊢
  obtain ⟨p2, hp2⟩ : ∃ p2, w.heap.size = p2 := ⟨_, rfl⟩
  rw [hp2] at X2
  simp only [hp2]
  have HP2 := Lib.hid hp2
  clear hp2
  go_wp2_with fail
  refine (PN w1).mono ?_
  rintro e w2 ⟨v0, rfl, hso, hb⟩
  obtain ⟨vW, vD, rfl, hk1, hk2⟩ := hso
  obtain ⟨A0, c0, rfl, _⟩ := hk1.g
  obtain ⟨B0, d0, rfl, _, _⟩ := own_form hk2
  have hal : Below w2.heap.size w2 (w2.alloc (.cells #[.int .i64 0, .slice A0 0 c0, .slice B0 0 d0] 25)) := (Below.refl _ _).alloc (Nat.le_refl _) _
  have hst : AfR w p2 w2.heap.size (af (cs.take 0)) (.slice none 0 0) (w2.alloc (.cells #[.int .i64 0, .slice A0 0 c0, .slice B0 0 d0] 25)) := by
    have h1 := HS1.out
    have h2 := hb.size
    have h3 := HP2.out
    refine ⟨bmore (bmore HB.out hb (Nat.le_refl _)) hal (Nat.le_refl _), ⟨by omega, by omega, by omega⟩, (X2.out.below hb X2.out.lt).alloc _, ⟨A0, c0, B0, d0, Box.new _ _ _, KO.mono (hk1.below hal) (by omega), own_base (own_below3 hk2 hal) (by omega)⟩, kO_nil KM_ _ _ _⟩
  have HT := Lib.hid hst
  clear hst hal hk1 hk2 hb
  unfold vsk
  simp only [KM.zero, List.length_nil]
  go_upto_region 2 with (fail)
  generalize w2.alloc (.cells #[.int .i64 0, .slice A0 0 c0, .slice B0 0 d0] 25) = w3 at HT ⊢
  generalize w2.heap.size = p5 at HT ⊢
  clear HB X2 HS1
  go_wp2_with fail
  go_loopw [6, 7, 8] (fun u6 u7 u8 wr => ∃ (k : Nat) (E : Option Addr) (m f : Nat), k ≤ n ∧ u6 = .slice E m f ∧ u7 = .bool (af (cs.take k)).2.2 ∧ u8 = .int .i64 k ∧ Hid (AfR w p2 p5 (af (cs.take k)) (.slice E m f) wr)) (fun _ _ i _ => n - (intOf i).toNat)
  case atStart => exact ⟨0, none, 0, 0, by omega, rfl, rfl, rfl, HT⟩
  case round =>
    clear HT
    obtain ⟨k, E, m, f, hk, rfl, rfl, rfl, HT⟩ := hrel
    by_cases hlt : k < n
    · obtain ⟨e, he⟩ : ∃ e, es[k]? = some e := ⟨_, List.getElem?_eq_getElem (by have := HL.out; omega)⟩
      have HX := Lib.hid (af_take (HCS.out k e he))
      have HRF := Lib.hid (af_fit (cs.take k))
      have HRL := Lib.hid (af_len cs k)
      obtain ⟨R, hR⟩ : ∃ R, R = af (cs.take k) := ⟨_, rfl⟩
      rw [← hR] at HT HX HRF HRL ⊢
      clear hR
      obtain ⟨S, hS⟩ : ∃ S, S = KM.applyF R.1 0 e.x := ⟨_, rfl⟩
      have HSE := Lib.hid hS
      have HSL := Lib.hid (show S.2.1.length ≤ 200 by rw [hS]; exact apply_len _ _ _)
      have HOK := Lib.hid (show (step R e.x).2.2 = (R.2.2 && decide (S.2.2 = 0)) by rw [hS]; rfl)
      obtain ⟨hfe, hge⟩ := HFT.out e (List.mem_of_getElem? he)
      obtain ⟨A5, c5, B5, d5, hbx, hkw, hsd⟩ := HT.out.b5
      obtain ⟨bl, o, rfl, _, hbl, hat, hr1, hr2⟩ := (H.out _ HT.out.bl).at_ he
      have KA := Lib.hid (fun W (hb : Below wr.heap.size wr W) => PA (vsk R.1.c (.slice A5 R.1.ws.length c5) (.slice B5 R.1.ds.length d5)) R.1 0 (.agg (ccells e.A e.c e.B e.d e.x)) e.x W ((SkO.is (b := w.heap.size) ⟨_, _, rfl, hkw, hsd⟩).below hb) HRF.out ⟨e.A, e.c, e.B, e.d, rfl, hr1.below hb, hr2.below hb⟩ hfe (by omega))
      rw [← hS] at KA
      have HBX := Lib.hid hbx
      have HBL := Lib.hid hbl
      have hk0 : (0 : Int) ≤ (k : Int) := by omega
      have hkn : (k : Int) < (n : Int) := by omega
      clear he hS hfe hge hkw hsd hr1 hr2
      obtain ⟨P, q, Q, u, ⟨bk, ⟨ai, ag, at_, ak, ab⟩, bid, btm, bms, btp, bwh, bn⟩⟩ := e
      unfold ccells vsk at KA
      simp only at KA
      obtain ⟨x0, x1, x2⟩ := box_sk hbx
      obtain ⟨a0, a1, a2, a3, a4, a5, a6, a7, a8, a9, a10, a11⟩ := hat
      simp only at a0 a1 a2 a3 a4 a5 a6 a7 a8 a9 a10 a11
      clear hbx hbl
      go_upto_region 7 with (fail)
      go_cut [9, 10, 11] (fun u9 u10 u11 wx => AfMid wr S u9 u10 u11 wx)
      case first =>
        have HSS := Lib.hid (fun (w' : World) (h : Below wr.heap.size wr w') => show w'.cell? ⟨p5, 0, none⟩ = some (.int .i64 R.1.c) ∧ w'.cell? ⟨p5, 1, none⟩ = some (.slice A5 R.1.ws.length c5) ∧ w'.cell? ⟨p5, 2, none⟩ = some (.slice B5 R.1.ds.length d5) ∧ w'.cell? ⟨bl, o + k * 12, none⟩ = some (.int .u8 bk) ∧ w'.cell? ⟨bl, o + k * 12 + 1, none⟩ = some (.int .i64 ai) ∧ w'.cell? ⟨bl, o + k * 12 + 2, none⟩ = some (.slice P ag.length q) ∧ w'.cell? ⟨bl, o + k * 12 + 3, none⟩ = some (.int .i64 at_) ∧ w'.cell? ⟨bl, o + k * 12 + 4, none⟩ = some (.string ak) ∧ w'.cell? ⟨bl, o + k * 12 + 5, none⟩ = some (.string ab) ∧ w'.cell? ⟨bl, o + k * 12 + 6, none⟩ = some (.int .i64 bid) ∧ w'.cell? ⟨bl, o + k * 12 + 7, none⟩ = some (.int .i64 btm) ∧ w'.cell? ⟨bl, o + k * 12 + 8, none⟩ = some (.slice Q bms.length u) ∧ w'.cell? ⟨bl, o + k * 12 + 9, none⟩ = some (.int .i64 btp) ∧ w'.cell? ⟨bl, o + k * 12 + 10, none⟩ = some (.int .i64 bwh) ∧ w'.cell? ⟨bl, o + k * 12 + 11, none⟩ = some (.int .i64 bn) from
          ⟨(h.cell (cell_block x0)).trans x0, (h.cell (cell_block x1)).trans x1, (h.cell (cell_block x2)).trans x2, (h.cell (cell_block a0)).trans a0, (h.cell (cell_block a1)).trans a1, (h.cell (cell_block a2)).trans a2, (h.cell (cell_block a3)).trans a3, (h.cell (cell_block a4)).trans a4, (h.cell (cell_block a5)).trans a5, (h.cell (cell_block a6)).trans a6, (h.cell (cell_block a7)).trans a7, (h.cell (cell_block a8)).trans a8, (h.cell (cell_block a9)).trans a9, (h.cell (cell_block a10)).trans a10, (h.cell (cell_block a11)).trans a11⟩)
        have bb1 : Below wr.heap.size wr wr.drew := (Below.refl _ _).drew
        obtain ⟨ud, hud⟩ : ∃ ud, ud = wr.drew := ⟨_, rfl⟩
        refine wp_region_held_drew (S := fun w' => w'.cell? ⟨p5, 0, none⟩ = some (.int .i64 R.1.c) ∧ w'.cell? ⟨p5, 1, none⟩ = some (.slice A5 R.1.ws.length c5) ∧ w'.cell? ⟨p5, 2, none⟩ = some (.slice B5 R.1.ds.length d5) ∧ w'.cell? ⟨bl, o + k * 12, none⟩ = some (.int .u8 bk) ∧ w'.cell? ⟨bl, o + k * 12 + 1, none⟩ = some (.int .i64 ai) ∧ w'.cell? ⟨bl, o + k * 12 + 2, none⟩ = some (.slice P ag.length q) ∧ w'.cell? ⟨bl, o + k * 12 + 3, none⟩ = some (.int .i64 at_) ∧ w'.cell? ⟨bl, o + k * 12 + 4, none⟩ = some (.string ak) ∧ w'.cell? ⟨bl, o + k * 12 + 5, none⟩ = some (.string ab) ∧ w'.cell? ⟨bl, o + k * 12 + 6, none⟩ = some (.int .i64 bid) ∧ w'.cell? ⟨bl, o + k * 12 + 7, none⟩ = some (.int .i64 btm) ∧ w'.cell? ⟨bl, o + k * 12 + 8, none⟩ = some (.slice Q bms.length u) ∧ w'.cell? ⟨bl, o + k * 12 + 9, none⟩ = some (.int .i64 btp) ∧ w'.cell? ⟨bl, o + k * 12 + 10, none⟩ = some (.int .i64 bwh) ∧ w'.cell? ⟨bl, o + k * 12 + 11, none⟩ = some (.int .i64 bn)) (by kernel_rfl) (HSS.out _ bb1) (fun hHeld => ?_)
        rw [← hud] at bb1 hHeld ⊢
        clear hud
        refine qT 0 ?_; try simp only [Act.put, qq]
        refine qT 1 ?_; try simp only [Act.put, qq]
        refine qT 2 ?_; try simp only [Act.put, qq]
        refine qT 3 ?_; try simp only [Act.put, qq]
        refine qT 4 ?_; try simp only [Act.put, qq]
        refine wpAnyH_ready (rs := [5, 10]) (by kernel_rfl) (by simp) ?_
        refine AllReadyH.cons rfl (fun K hK => ?_) (AllReadyH.cons rfl (fun K hK => ?_) AllReadyH.nil)
        · go_simp
          refine (KA.out ud bb1).mono ?_
          rintro e w6 ⟨v6, vm6, rfl, hso6, hkm6, hb6⟩
          obtain ⟨vW6, vD6, rfl, hk1, hk2⟩ := hso6
          obtain ⟨A6, c6, rfl, _⟩ := hk1.g
          obtain ⟨B6, d6, rfl, _, _⟩ := own_form hk2
          obtain ⟨E6, f6, rfl, _⟩ := hkm6.g
          unfold vsk
          have HT5 := Lib.hid (show wr.heap.size ≤ ud.heap.size from bb1.size)
          have bb6 := bmore bb1 hb6 (Nat.le_refl _)
          have HK1 := Lib.hid (hk1.mono HT5.out)
          have HK2 := Lib.hid (own_base hk2 HT5.out)
          have HK3 := Lib.hid (hkm6.mono HT5.out)
          clear hk1 hk2 hkm6 hb6
          refine hK.out _ _ (HSS.out _ bb6) (fun hHeld => ?_)
          clear hK
          try simp only [Act.put, qq]
          refine qT 6 ?_; try simp only [Act.put, qq]
          refine qT 7 ?_; try simp only [Act.put, qq]
          refine qT 8 ?_; try simp only [Act.put, qq]
          refine qT 9 ?_; try simp only [Act.put, qq]
          refine wpAnyH_ready (rs := [10]) (by kernel_rfl) (by simp) ?_
          refine AllReadyH.cons rfl (fun K hK => ?_) AllReadyH.nil
          go_simp
          have bb7 : Below wr.heap.size wr (w6.alloc (.cells #[.int .i64 0, .slice none 0 0, .slice none 0 0] 25)) := bmore bb6 ((Below.refl _ _).alloc (Nat.le_refl _) _) (Nat.le_refl _)
          have V := Lib.hid (Box.new w6 25 #[.int .i64 0, .slice none 0 0, .slice none 0 0])
          have HVW := Lib.hid (show Below w6.heap.size w6 (w6.alloc (.cells #[.int .i64 0, .slice none 0 0, .slice none 0 0] 25)) from (Below.refl _ _).alloc (Nat.le_refl _) _)
          have HV9 := Lib.hid (show wr.heap.size ≤ w6.heap.size from bb6.size)
          refine hK.out _ _ (HSS.out _ bb7) (fun hHeld => ?_)
          clear hK
          try simp only [Act.put, qq]
          generalize w6.alloc (.cells #[.int .i64 0, .slice none 0 0, .slice none 0 0] 25) = w7 at V HVW bb7 hHeld ⊢
          obtain ⟨p9, hp9⟩ : ∃ p9, w6.heap.size = p9 := ⟨_, rfl⟩
          rw [hp9] at V HV9
          simp only [hp9]
          clear hp9
          replace HK1 := Lib.hid (HK1.out.below HVW.out)
          replace HK2 := Lib.hid (own_below3 HK2.out HVW.out)
          replace HK3 := Lib.hid (HK3.out.below HVW.out)
          obtain ⟨q0, q1, q2, q3, q4, q5⟩ := V.out.three
          refine wpAnyH_ready (rs := [11]) (by kernel_rfl) (by simp) ?_
          refine AllReadyH.cons rfl (fun K hK => ?_) AllReadyH.nil
          go_simp
          have HKP := Lib.hid (kept_put3 V.out (.int .i64 S.1.c) (.slice A6 S.1.ws.length c6) (.slice B6 S.1.ds.length d6))
          have bbE := below_put3 bb7 HV9.out (.int .i64 S.1.c) (.slice A6 S.1.ws.length c6) (.slice B6 S.1.ds.length d6)
          refine hK.out _ _ (HSS.out _ bbE) (fun hHeld => ?_)
          clear hK
          try simp only [Act.put, qq]
          refine qT 12 ?_; try simp only [Act.put, qq]
          refine qT 13 ?_; try simp only [Act.put, qq]
          refine wpAnyH_done (by kernel_rfl) ?_ _
          go_wp2_with fail
          go_meet
          case rel => exact ⟨p9, A6, c6, B6, d6, E6, f6, rfl, rfl, rfl, HV9.out, Box.put3 V.out (.int .i64 S.1.c) (.slice A6 S.1.ws.length c6) (.slice B6 S.1.ds.length d6), KO.kept HKP.out (by decide) (by decide) HK1.out, HKP.out.own HK2.out (by decide), KO.kept HKP.out (by decide) (by decide) HK3.out, bbE⟩
        · go_simp
          have bb2 : Below wr.heap.size wr (ud.alloc (.cells #[.int .i64 0, .slice none 0 0, .slice none 0 0] 25)) := bmore bb1 ((Below.refl _ _).alloc (Nat.le_refl _) _) (Nat.le_refl _)
          have V := Lib.hid (Box.new ud 25 #[.int .i64 0, .slice none 0 0, .slice none 0 0])
          have HVW := Lib.hid (show Below ud.heap.size ud (ud.alloc (.cells #[.int .i64 0, .slice none 0 0, .slice none 0 0] 25)) from (Below.refl _ _).alloc (Nat.le_refl _) _)
          have HV9 := Lib.hid (show wr.heap.size ≤ ud.heap.size from bb1.size)
          refine hK.out _ _ (HSS.out _ bb2) (fun hHeld => ?_)
          clear hK
          try simp only [Act.put, qq]
          generalize ud.alloc (.cells #[.int .i64 0, .slice none 0 0, .slice none 0 0] 25) = w4 at V HVW bb2 hHeld ⊢
          obtain ⟨p9, hp9⟩ : ∃ p9, ud.heap.size = p9 := ⟨_, rfl⟩
          rw [hp9] at V HV9
          simp only [hp9]
          clear hp9
          refine wpAnyH_ready (rs := [5]) (by kernel_rfl) (by simp) ?_
          refine AllReadyH.cons rfl (fun K hK => ?_) AllReadyH.nil
          go_simp
          refine (KA.out w4 bb2).mono ?_
          rintro e w6 ⟨v6, vm6, rfl, hso6, hkm6, hb6⟩
          obtain ⟨vW6, vD6, rfl, hk1, hk2⟩ := hso6
          obtain ⟨A6, c6, rfl, _⟩ := hk1.g
          obtain ⟨B6, d6, rfl, _, _⟩ := own_form hk2
          obtain ⟨E6, f6, rfl, _⟩ := hkm6.g
          unfold vsk
          have HT5 := Lib.hid (show wr.heap.size ≤ w4.heap.size from bb2.size)
          have bb6 := bmore bb2 hb6 (Nat.le_refl _)
          have HK1 := Lib.hid (hk1.mono HT5.out)
          have HK2 := Lib.hid (own_base hk2 HT5.out)
          have HK3 := Lib.hid (hkm6.mono HT5.out)
          replace V := Lib.hid (V.out.below hb6 V.out.lt)
          clear hk1 hk2 hkm6 hb6
          refine hK.out _ _ (HSS.out _ bb6) (fun hHeld => ?_)
          clear hK
          try simp only [Act.put, qq]
          refine qT 6 ?_; try simp only [Act.put, qq]
          refine qT 7 ?_; try simp only [Act.put, qq]
          refine qT 8 ?_; try simp only [Act.put, qq]
          refine qT 9 ?_; try simp only [Act.put, qq]
          obtain ⟨q0, q1, q2, q3, q4, q5⟩ := V.out.three
          refine wpAnyH_ready (rs := [11]) (by kernel_rfl) (by simp) ?_
          refine AllReadyH.cons rfl (fun K hK => ?_) AllReadyH.nil
          go_simp
          have HKP := Lib.hid (kept_put3 V.out (.int .i64 S.1.c) (.slice A6 S.1.ws.length c6) (.slice B6 S.1.ds.length d6))
          have bbE := below_put3 bb6 HV9.out (.int .i64 S.1.c) (.slice A6 S.1.ws.length c6) (.slice B6 S.1.ds.length d6)
          refine hK.out _ _ (HSS.out _ bbE) (fun hHeld => ?_)
          clear hK
          try simp only [Act.put, qq]
          refine qT 12 ?_; try simp only [Act.put, qq]
          refine qT 13 ?_; try simp only [Act.put, qq]
          refine wpAnyH_done (by kernel_rfl) ?_ _
          go_wp2_with fail
          go_meet
          case rel => exact ⟨p9, A6, c6, B6, d6, E6, f6, rfl, rfl, rfl, HV9.out, Box.put3 V.out (.int .i64 S.1.c) (.slice A6 S.1.ws.length c6) (.slice B6 S.1.ds.length d6), KO.kept HKP.out (by decide) (by decide) HK1.out, HKP.out.own HK2.out (by decide), KO.kept HKP.out (by decide) (by decide) HK3.out, bbE⟩
      case rest =>
        obtain ⟨p9, A6, c6, B6, d6, E6, f6, rfl, rfl, rfl, hp9, hbx9, hk1, hk2, hk3, hbe⟩ := hcut
        clear KA x0 x1 x2 a0 a1 a2 a3 a4 a5 a6 a7 a8 a9 a10 a11
        generalize wc = wx at hbx9 hk1 hk2 hk3 hbe ⊢
        clear wc
        have HBE := Lib.hid hbe
        have HB9 := Lib.hid hbx9
        have HK1 := Lib.hid hk1
        have HK2 := Lib.hid hk2
        have HK3 := Lib.hid hk3
        have HB5 := Lib.hid (HBX.out.below hbe HBX.out.lt)
        clear hbx9 hk1 hk2 hk3 hbe hp9
        obtain ⟨ok, hok⟩ : ∃ ok, ok = R.2.2 := ⟨_, rfl⟩
        rw [← hok] at HOK ⊢
        clear hok
        obtain ⟨er, her⟩ : ∃ er, er = S.2.2 := ⟨_, rfl⟩
        rw [← her] at HOK ⊢
        clear her
        obtain ⟨ok2, hok2⟩ : ∃ ok2, ok2 = (ok && decide (er = 0)) := ⟨_, rfl⟩
        rw [← hok2] at HOK
        have HO2 := Lib.hid hok2
        clear hok2
        go_upto_region 8 with (fail)
        go_cut [7] (fun u7 wy => u7 = .bool ok2 ∧ wy = wx)
        case first =>
          rcases ok with _ | _
          · have e1 := HO2.out
            simp only [Bool.false_and] at e1
            subst e1
            go_wp2_with fail
            go_meet
            case rel => exact ⟨rfl, rfl⟩
          · by_cases h0 : er = 0
            · have e1 := HO2.out
              have e2 : (er == 0) = true := by simpa using h0
              simp only [h0, decide_true, Bool.true_and] at e1
              subst e1
              clear h0
              go_wp2_with fail
              go_meet
              case rel => exact ⟨rfl, rfl⟩
            · have e1 := HO2.out
              have e2 : (er == 0) = false := by simpa using h0
              simp only [h0, decide_false, Bool.and_false] at e1
              subst e1
              clear h0
              go_wp2_with fail
              go_meet
              case rel => exact ⟨rfl, rfl⟩
        case rest =>
          obtain ⟨rfl, rfl⟩ := hcut
          obtain ⟨z0, z1, z2⟩ := box_sk HB9.out
          obtain ⟨t0, t1, t2, t3, t4, t5⟩ := HB5.out.three
          have KP1 := Lib.hid (kept_put3 HB5.out (.int .i64 S.1.c) (.slice A6 S.1.ws.length c6) (.slice B6 S.1.ds.length d6))
          have HMS := Lib.hid (KO.kept KP1.out (by decide) (by decide) (HT.out.ms.below HBE.out))
          have HKG := Lib.hid (KO.kept KP1.out (by decide) (by decide) HK3.out).slice.2.2.2
          have HML := Lib.hid (HT.out.ms).slice.1
          have HMB := Lib.hid (fun g h => (HT.out.ms.blk (g := g) h).2)
          have HSZ := Lib.hid (show w.heap.size ≤ wr.heap.size from HT.out.bl.size)
          have HZ2 := Lib.hid HBE.out.size
          go_upto_region 10 with (fail)
          have hb1 := HRL.out
          have hb2 := HSL.out
          have hb3 := HML.out
          have hb4 := HSZ.out
          have hb5 := HZ2.out
          clear t0 t1 t2 t3 t4 t5 z0 z1 z2
          go_wp2_with (at_builtin; refine wpList_append_kos (K := KM_) rfl _ _ 26 rfl j0 _ 72 Try.underlying26 hj hy0 hy1 hy2 rfl rfl HMS.out rfl HKG.out HSZ.out HMB.out (by unfold maxLen; omega) (by omega) (by simp; omega) ?_; intro A7 c7 w6 hko hgr hob; have HNX := Lib.hid (And.intro hgr hko); clear hko hgr hob)
          have HN := Lib.hid (afR_next (W6 := w6) (vm6 := .slice A7 (m + S.2.1.length) c7) (x := ⟨bk, ⟨ai, ag, at_, ak, ab⟩, bid, btm, bms, btp, bwh, bn⟩) (A := A6) (B := B6) (c := c6) (d := d6) HT.out HBE.out (by rw [← HSE.out]; exact HK1.out) (by rw [← HSE.out]; exact HK2.out) (fun W0 hW => by rw [← HSE.out] at hW ⊢; subst hW; exact HNX.out))
          go_roundw
          case rel => exact ⟨k + 1, A7, _, c7, by omega, rfl, by rw [HX.out, HOK.out], by go_num, Lib.hid (by rw [HX.out]; have hh := HN.out; have hm := HML.out; first | exact hh | (rw [hm] at hh; exact hh) | (rw [← hm]; exact hh))⟩
          case measure => simp [intOf]; omega
    · have HE := Lib.hid (show cs.take k = cs from List.take_of_length_le (by have := HCL.out; omega))
      rw [HE.out] at HT ⊢
      obtain ⟨R, hR⟩ : ∃ R, R = af cs := ⟨_, rfl⟩
      rw [← hR] at HT ⊢
      have HRQ := Lib.hid hR
      clear hR HE
      obtain ⟨A5, c5, B5, d5, hbx, hkw, hsd⟩ := HT.out.b5
      obtain ⟨x0, x1, x2⟩ := box_sk hbx
      obtain ⟨t0, t1, t2, t3, t4, t5⟩ := HT.out.b2.three
      have ZP := Lib.hid (Box.put3 HT.out.b2 (.int .i64 R.1.c) (.slice A5 R.1.ws.length c5) (.slice B5 R.1.ds.length d5))
      have ZK := Lib.hid (kept_put3 HT.out.b2 (.int .i64 R.1.c) (.slice A5 R.1.ws.length c5) (.slice B5 R.1.ds.length d5))
      have ZL := Lib.hid (below_put3 HT.out.bl HT.out.lo.1 (.int .i64 R.1.c) (.slice A5 R.1.ws.length c5) (.slice B5 R.1.ds.length d5))
      have HK1 := Lib.hid hkw
      have HK2 := Lib.hid hsd
      have HK3 := Lib.hid HT.out.ms
      clear hbx hkw hsd HT
      go_wp2_with fail
      obtain ⟨u0, u1, u2⟩ := box_sk ZP.out
      exact bodyPost_ret (v := .tuple #[.agg #[.int .i64 R.1.c, .slice A5 R.1.ws.length c5, .slice B5 R.1.ds.length d5], .slice E m f, .bool R.2.2]) (by simp [results, Try.results6, go_sem, u0, u1, u2]; try rfl) rfl (by show AfIs (af cs) w _ _; rw [← HRQ.out]; exact ⟨_, _, rfl, ⟨_, _, rfl, KO.kept ZK.out (by decide) (by decide) HK1.out, ZK.out.own HK2.out (by decide)⟩, KO.kept ZK.out (by decide) (by decide) HK3.out, ZL.out⟩)
end Go.Proofs.Ytnpgjcapekopnaa.KP

namespace Go.Proofs.Ytnpgjcapekopnaa.KP
open Go.RowKit CP TP
open CM (Mg Cm)
open TM (Sp)
open KM (Wt Sk)
set_option linter.unusedVariables false
set_option linter.unusedSimpArgs false
set_option maxRecDepth 100000

theorem cms_lit (w : World) (xs : Array Value) (es : List LP.El) (n : Nat) (hx : xs.toList = LP.ecells es) (hn : es.length = n) (hm : n ≤ 4096) (hr : ∀ e ∈ es, RowIs w e.A e.c e.x.m.gs ∧ RowIs w e.B e.d e.x.ms ∧ CmFit e.x) :
    CmsArg (w.alloc (.cells xs 33)) (some ⟨w.heap.size, 0, none⟩) n n es := by
  have hb : Below w.heap.size w (w.alloc (.cells xs 33)) := (Below.refl _ _).alloc (Nat.le_refl _) _
  exact ⟨rdG_box (s := 12) (n := n) (Box.new w 33 xs) hx (by rw [LP.ecells_len]; omega), hn, Nat.le_refl _, by unfold maxLen; omega, fun e he => ⟨(hr e he).1.below hb, (hr e he).2.1.below hb, (hr e he).2.2⟩⟩
theorem in0 : i64In 0 := by unfold i64In; omega
theorem sz0 : (⟨#[]⟩ : ByteArray).size ≤ maxLen := Nat.zero_le _
theorem fit_asgC {id : Int} (h : i64In id) : CmFit (asgC id) := ⟨⟨by show (0 : Int) ≤ 1; decide, by show (1 : Int) ≤ 255; decide⟩, ⟨h, in0, sz0, sz0⟩, in0, in0, in0, in0, in0⟩
theorem fit_finC {id tm : Int} (h : i64In id) (ht : i64In tm) : CmFit (finC id tm) := ⟨⟨by show (0 : Int) ≤ 2; decide, by show (2 : Int) ≤ 255; decide⟩, ⟨in0, in0, sz0, sz0⟩, h, ht, in0, in0, in0⟩
set_option maxHeartbeats 8000000 in
theorem alive15_any (PA : PApply) (PN : PNew) (w : World) : Calls Try.prog 11 #[] w (IsB true w) := by
  go_enter Try.func11, Try.ntmps11
  go_wp2_with fail
  refine (assign15_any 5 w).mono ?_
  rintro e w1 ⟨v1, rfl, ⟨A1, c1, P1, d1, rfl, r1, s1⟩, b1⟩
  go_wp2_with fail
  refine (assign15_any 9 w1).mono ?_
  rintro e w2 ⟨v2, rfl, ⟨A2, c2, P2, d2, rfl, r2, s2⟩, b2⟩
  go_wp2_with fail
  refine (final15_any 9 7 w2).mono ?_
  rintro e w3 ⟨v3, rfl, ⟨A3, c3, P3, d3, rfl, r3, s3⟩, b3⟩
  go_wp2_with fail
  refine (final15_any 5 3 w3).mono ?_
  rintro e w4 ⟨v4, rfl, ⟨A4, c4, P4, d4, rfl, r4, s4⟩, b4⟩
  have HB4 := Lib.hid (bmore (bmore (bmore b1 b2 (Nat.le_refl _)) b3 (Nat.le_refl _)) b4 (Nat.le_refl _))
  have hl := cms_lit w4 (LP.ecells [⟨A1, c1, P1, d1, asgC 5⟩, ⟨A2, c2, P2, d2, asgC 9⟩, ⟨A3, c3, P3, d3, finC 9 7⟩, ⟨A4, c4, P4, d4, finC 5 3⟩]).toArray [⟨A1, c1, P1, d1, asgC 5⟩, ⟨A2, c2, P2, d2, asgC 9⟩, ⟨A3, c3, P3, d3, finC 9 7⟩, ⟨A4, c4, P4, d4, finC 5 3⟩] 4 rfl rfl (by omega) (fun e he => by
    simp only [List.mem_cons, List.not_mem_nil, or_false] at he
    have b34 := b4
    have b24 := bmore b3 b34 (Nat.le_refl _)
    have b14 := bmore b2 b24 (Nat.le_refl _)
    rcases he with rfl | rfl | rfl | rfl
    · exact ⟨r1.below b14, s1.below b14, fit_asgC (by constructor <;> decide)⟩
    · exact ⟨r2.below b24, s2.below b24, fit_asgC (by constructor <;> decide)⟩
    · exact ⟨r3.below b34, s3.below b34, fit_finC (by constructor <;> decide) (by constructor <;> decide)⟩
    · exact ⟨r4, s4, fit_finC (by constructor <;> decide) (by constructor <;> decide)⟩)
  have hal := Lib.hid (show Below w4.heap.size w4 (w4.alloc (.cells (LP.ecells [⟨A1, c1, P1, d1, asgC 5⟩, ⟨A2, c2, P2, d2, asgC 9⟩, ⟨A3, c3, P3, d3, finC 9 7⟩, ⟨A4, c4, P4, d4, finC 5 3⟩]).toArray 33)) from (Below.refl _ _).alloc (Nat.le_refl _) _)
  have hca := after15_any PA PN _ 4 4 _ _ hl (fun e he => by
    simp only [List.mem_cons, List.not_mem_nil, or_false] at he
    rcases he with rfl | rfl | rfl | rfl <;> (first | (show 1 ≤ 4096; omega) | (show 0 ≤ 4096; omega))) (by omega)
  rw [show af (List.map LP.El.x [⟨A1, c1, P1, d1, asgC 5⟩, ⟨A2, c2, P2, d2, asgC 9⟩, ⟨A3, c3, P3, d3, finC 9 7⟩, ⟨A4, c4, P4, d4, finC 5 3⟩]) = _ from alive_run] at hca
  have HCA := Lib.hid hca
  clear hl hca r1 r2 r3 r4 s1 s2 s3 s4 b1 b2 b3 b4
  unfold ccells asgC finC msg CM.mz
  unfold LP.ecells flat LP.ecell ccells asgC finC msg CM.mz at HCA hal
  simp only [List.length_cons, List.length_nil, Nat.zero_add] at HCA hal ⊢
  go_wp2_with fail
  refine (HCA.out).mono ?_
  rintro e w6 ⟨v, vm, rfl, ⟨vW, vD, rfl, hk1, hk2⟩, hkm, hb6⟩
  obtain ⟨AW, cW, rfl, _⟩ := hk1.g
  obtain ⟨BD, dD, rfl, hd1, hd2⟩ := own_form hk2
  obtain ⟨EM, fM, rfl, hmg⟩ := hkm.g
  have HB6 := Lib.hid (bmore (bmore HB4.out hal.out (Nat.le_refl _)) hb6 (Nat.le_refl _))
  have hsp : SpsIs w6 BD 2 dD [⟨3, 5⟩, ⟨7, 9⟩] := ⟨rdg_own hk2, rfl, hd1, hd2⟩
  obtain ⟨bd, od, rfl, _, hbd, e0, e1⟩ := hsp.at_ (k := 0) rfl
  obtain ⟨bm, om, M0, N0, rfl, _, hbm, hat0, _⟩ := mgs_at hmg.r (k := 0) (x := msg 5) rfl
  obtain ⟨bm', om', M1, N1, he', _, _, hat1, _⟩ := mgs_at hmg.r (k := 1) (x := msg 9) rfl
  injection he' with he'
  injection he' with he1 he2
  subst he1 he2
  clear HCA hal hk1 hk2 hkm hb6 hmg hsp HB4
  have h7 : Below w6.heap.size w6 (w6.alloc (.cells #[.int .i64 7, .slice AW 0 cW, .slice (some ⟨bd, od, none⟩) 2 dD] 25)) := (Below.refl _ _).alloc (Nat.le_refl _) _
  have HB7 := Lib.hid (bmore HB6.out h7 (Nat.le_refl _))
  have X := Lib.hid (Box.new w6 25 #[.int .i64 7, .slice AW 0 cW, .slice (some ⟨bd, od, none⟩) 2 dD])
  have E0 := Lib.hid ((h7.cell (cell_block e0)).trans e0)
  have E1 := Lib.hid ((h7.cell (cell_block e1)).trans e1)
  have F0 := Lib.hid ((h7.cell (cell_block hat0.1)).trans hat0.1)
  have F1 := Lib.hid ((h7.cell (cell_block hat1.1)).trans hat1.1)
  clear e0 e1 hat0 hat1 h7
  unfold vsk
  simp only [List.length_cons, List.length_nil, Nat.zero_add]
  go_upto_region 2 with (fail)
  generalize w6.alloc (.cells #[.int .i64 7, .slice AW 0 cW, .slice (some ⟨bd, od, none⟩) 2 dD] 25) = w7 at HB7 X E0 E1 F0 F1 ⊢
  generalize w6.heap.size = g7 at X ⊢
  obtain ⟨x0, x1, x2⟩ := box_sk X.out
  have e0 := E0.out
  have e1 := E1.out
  have f0 := F0.out
  have f1 := F1.out
  unfold msg at f0 f1
  simp only [Nat.zero_mul, Nat.one_mul, Nat.add_zero] at e0 e1 f0 f1
  go_wp2_with fail
  go_ret
  exact ⟨by first | rfl | simp, HB7.out⟩
end Go.Proofs.Ytnpgjcapekopnaa.KP
