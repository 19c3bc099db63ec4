/-
  The walk of SkeenRises (towncrierlaw15). Conditions: any clock, group, commands.
-/
import Derived.Test.YtnpgjcapekopnaaK17
import Derived.Test.YtnpgjcapekopnaaK21
import Derived.Test.YtnpgjcapekopnaaK22
import Derived.Test.YtnpgjcapekopnaaK23
import Derived.Test.YtnpgjcapekopnaaK24
import Derived.Test.YtnpgjcapekopnaaK02
namespace Go.Proofs.Ytnpgjcapekopnaa.KP
open Go.RowKit CP TP
open CM (Mg Cm)
open TM (Sp)
open KM (Wt Sk)
set_option linter.unusedVariables false
set_option linter.unusedSimpArgs false
set_option maxRecDepth 100000
set_option maxHeartbeats 32000000 in
theorem skeenRises_walk (v : Value) (x : Sk) (g : Int) (A2 : Option Addr) (n2 c2 : Nat) (es : List LP.El) (w : World) (hx : SkArg w v x) (hg : (Lit.int .i64 g).wf = true) (hc : CmsArg w A2 n2 c2 es) :
    Calls Try.prog 4 #[v, .int .i64 g, .slice A2 n2 c2] w fun e w' => e = .returned (.bool true) ∧ Below w.heap.size w w' := by
  obtain ⟨j0, hj, hy0, hy1, hy2⟩ := info_parts info_mg
  obtain ⟨hs, hf⟩ := hx
  have PA := papply15
  have KG := Lib.hid (fun W (hb : Below w.heap.size w W) => rgreat15_any v x W (hs.below hb) hf)
  have KLo := Lib.hid (fun W (hb : Below w.heap.size w W) => long15_any A2 n2 c2 es W (hc.below hb))
  have KT := Lib.hid (fun (h1 : x.ws.length ≤ 4096) (h2 : x.ds.length ≤ 4096) W (hb : Below w.heap.size w W) => ptwin15_any v x W (hs.below hb) h1 h2 (fun y hy => (hf.2.1 y hy).2))
  have KH := Lib.hid (fun W v' (h : SkIs W v' x) => pcheck15_any v' x W h hf)
  have HFX := Lib.hid hf
  have HSX := Lib.hid hs
  have HCA := Lib.hid (fun W (hb : Below w.heap.size w W) => hc.below hb)
  have HLE := Lib.hid hc.2.1
  have HFT := Lib.hid (fun e (he : e ∈ es) => (hc.2.2.2.2 e he).2.2)
  have hn63 := hc.small
  obtain ⟨A, ca, B, cb, rfl, r1, d1⟩ := hs
  obtain ⟨cs, hcs⟩ : ∃ cs, cs = es.map LP.El.x := ⟨_, rfl⟩
  have HCS := Lib.hid hcs
  have HCM := Lib.hid (show ∀ (k : Nat) e, es[k]? = some e → e.x ∈ cs from fun k e he => by rw [hcs]; exact List.mem_map.2 ⟨e, List.mem_of_getElem? he, rfl⟩)
  obtain ⟨n, hna⟩ : ∃ n, n = x.ws.length := ⟨_, rfl⟩
  obtain ⟨m, hmb⟩ : ∃ m, m = x.ds.length := ⟨_, rfl⟩
  have HNA := Lib.hid hna
  have HMB := Lib.hid hmb
  unfold vsk at KG KT HSX ⊢
  rw [← hna, ← hmb] at KG HSX ⊢
  have KT2 := Lib.hid (fun (h1 : n ≤ 4096) (h2 : m ≤ 4096) W (hb : Below w.heap.size w W) => show Calls Try.prog 15 #[.agg #[.int .i64 x.c, .slice A n ca, .slice B m cb]] W (SkNew x W) from by rw [hna, hmb]; exact KT.out (by omega) (by omega) W hb)
  clear hf hc hg hcs hna hmb r1 d1 KT
  have HB := Lib.hid (show Below w.heap.size w (w.alloc (.cells #[.int .i64 x.c, .slice A n ca, .slice B m cb] 25)) from (Below.refl _ _).alloc (Nat.le_refl _) _)
  have X := Lib.hid (Box.new w 25 #[.int .i64 x.c, .slice A n ca, .slice B m cb])
  go_enter Try.func4, Try.ntmps4
  go_upto_region 1 with (fail)
  generalize w.alloc (.cells #[.int .i64 x.c, .slice A n ca, .slice B m cb] 25) = w1 at HB X ⊢
  obtain ⟨p3, hp3⟩ : ∃ p3, w.heap.size = p3 := ⟨_, rfl⟩
  rw [hp3] at X
  simp only [hp3]
  have HP3 := Lib.hid hp3
  clear hp3
  go_wp2_with fail
  refine (alive15_any PA pnew15_any w1).mono ?_
  rintro e w2 ⟨rfl, hb⟩
  replace HB := Lib.hid (bmore HB.out hb (Nat.le_refl _))
  replace X := Lib.hid (X.out.below hb X.out.lt)
  clear hb
  obtain ⟨x0, x1, x2⟩ := box_sk X.out
  go_wp2_with fail
  refine (KG.out _ HB.out).mono ?_
  rintro e w3 ⟨b1, rfl, hfew, hb⟩
  replace HB := Lib.hid (bmore HB.out hb (Nat.le_refl _))
  replace X := Lib.hid (X.out.below hb X.out.lt)
  have HFEW := Lib.hid hfew
  clear hb hfew x0 x1 x2 KG
  rcases b1 with _ | _
  rotate_left
  · go_wp2_with fail
    go_ret
    exact ⟨rfl, HB.out⟩
  have HF := Lib.hid (HFEW.out rfl)
  go_wp2_with fail
  refine (KLo.out _ HB.out).mono ?_
  rintro e w4 ⟨b2, rfl, hsh, hb⟩
  replace HB := Lib.hid (bmore HB.out hb (Nat.le_refl _))
  replace X := Lib.hid (X.out.below hb X.out.lt)
  have HSHORT := Lib.hid hsh
  clear hb hsh KLo HFEW
  rcases b2 with _ | _
  rotate_left
  · go_wp2_with fail
    go_ret
    exact ⟨rfl, HB.out⟩
  have HSH := Lib.hid (HSHORT.out rfl)
  have hn60 : n2 ≤ 60 := by have := HSH.out.1; have := HLE.out; omega
  clear HSHORT
  obtain ⟨x0, x1, x2⟩ := box_sk X.out
  go_wp2_with fail
  refine (KT2.out (by have := HF.out.1; have := HNA.out; omega) (by have := HF.out.2; have := HMB.out; omega) _ HB.out).mono ?_
  rintro e w5 ⟨v5, rfl, ⟨vW5, vD5, rfl, hk1, hk2⟩, hb⟩
  obtain ⟨A5, c5, rfl, _⟩ := hk1.g
  obtain ⟨B5, d5, rfl, _, _⟩ := own_form hk2
  clear x0 x1 x2 KT2
  have hal : Below w5.heap.size w5 (w5.alloc (.cells #[.int .i64 x.c, .slice A5 x.ws.length c5, .slice B5 x.ds.length d5] 25)) := (Below.refl _ _).alloc (Nat.le_refl _) _
  have hst : RiR w p3 w5.heap.size x cs g x [] (.slice none 0 0) 0 (w5.alloc (.cells #[.int .i64 x.c, .slice A5 x.ws.length c5, .slice B5 x.ds.length d5] 25)) := by
    have h1 := X.out.lt
    have h2 := hb.size
    have h3 := HB.out.size
    have h4 := HP3.out
    refine ⟨bmore (bmore HB.out hb (Nat.le_refl _)) hal (Nat.le_refl _), ⟨by omega, by omega, by omega⟩, ⟨A, ca, B, cb, ?_, .inl ?_⟩, ⟨A5, c5, B5, d5, Box.new _ _ _, .inr ⟨_, _, rfl, KO.mono (hk1.below hal) h3, own_base (own_below3 hk2 hal) h3⟩⟩, HFX.out, kO_nil KM_ _ _ _, KM.run_start _ _ _, Nat.zero_le _⟩
    · have h5 := (X.out.below hb h1).alloc (.cells #[.int .i64 x.c, .slice A5 x.ws.length c5, .slice B5 x.ds.length d5] 25)
      rw [HNA.out, HMB.out] at h5
      exact h5
    · have h6 := HSX.out
      rw [HNA.out, HMB.out] at h6
      exact h6
  have HT := Lib.hid hst
  clear hst hal hk1 hk2 hb
  unfold vsk
  simp only
  go_upto_region 7 with (fail)
  generalize w5.alloc (.cells #[.int .i64 x.c, .slice A5 x.ws.length c5, .slice B5 x.ds.length d5] 25) = w6 at HT ⊢
  generalize w5.heap.size = p8 at HT ⊢
  clear HB X HSX
  go_wp2_with fail
  go_loopw [9, 10] (fun u9 u10 wr => ∃ (k : Nat) (E : Option Addr) (m9 f : Nat) (st : Sk) (all : List Mg), k ≤ n2 ∧ u9 = .slice E m9 f ∧ u10 = .int .i64 k ∧ Hid (RiR w p3 p8 x cs g st all (.slice E m9 f) k wr)) (fun _ i _ => n2 - (intOf i).toNat)
  case atStart => exact ⟨0, none, 0, 0, x, [], by omega, rfl, rfl, HT⟩
  case round =>
    clear HT
    obtain ⟨k, E, m9, f, st, all, hk, rfl, rfl, HT⟩ := hrel
    have HML := Lib.hid HT.out.ms.slice.1
    by_cases hlt : k < n2
    · obtain ⟨e, he⟩ : ∃ e, es[k]? = some e := ⟨_, List.getElem?_eq_getElem (by have := HLE.out; omega)⟩
      have HMEM := Lib.hid (HCM.out k e he)
      obtain ⟨S, hS⟩ : ∃ S, S = KM.applyF st g e.x := ⟨_, rfl⟩
      have HSE := Lib.hid hS
      have HSL := Lib.hid (show S.2.1.length ≤ 200 by rw [hS]; exact apply_len _ _ _)
      have hfe := HFT.out e (List.mem_of_getElem? he)
      have hge := (HSH.out.2 e (List.mem_of_getElem? he)).1
      obtain ⟨A5, c5, B5, d5, hbx, hcur⟩ := HT.out.v3
      obtain ⟨bl, o, rfl, _, hbl, hat, hr1, hr2⟩ := (HCA.out _ HT.out.bl).at_ he
      have KA := Lib.hid (fun W (hb : Below wr.heap.size wr W) => PA (vsk st.c (.slice A5 st.ws.length c5) (.slice B5 st.ds.length d5)) st g (.agg (ccells e.A e.c e.B e.d e.x)) e.x W ((hcur.is HT.out.bl).below hb) HT.out.fit ⟨e.A, e.c, e.B, e.d, rfl, hr1.below hb, hr2.below hb⟩ hfe (by omega))
      rw [← hS] at KA
      have HRN := Lib.hid (fun (hok : S.2.2 = 0) => KM.run_next HT.out.run HMEM.out (show (KM.applyF st g e.x).2.2 = 0 by rw [← hS]; exact hok))
      rw [← hS] at HRN
      have HSFIT := Lib.hid (show SkFit S.1 by rw [hS]; exact fit_apply _ _ _)
      have HST := Lib.hid (fun W (hb : Below wr.heap.size wr W) => (show SkIs W (vsk st.c (.slice A5 st.ws.length c5) (.slice B5 st.ds.length d5)) st from (hcur.is HT.out.bl).below hb))
      have HBX := Lib.hid hbx
      have hk0 : (0 : Int) ≤ (k : Int) := by omega
      have hkn : (k : Int) < (n2 : Int) := by omega
      clear he hS hfe hge hcur hr1 hr2 hbl
      obtain ⟨xc, hxc⟩ : ∃ xc, xc = e.x := ⟨_, rfl⟩
      have HXC := Lib.hid hxc
      clear hxc
      obtain ⟨P, q, Q, u, ⟨bk, ⟨ai, ag, at_, ak, ab⟩, bid, btm, bms, btp, bwh, bn⟩⟩ := e
      unfold ccells vsk at KA
      simp only at KA
      obtain ⟨x0, x1, x2⟩ := box_sk hbx
      obtain ⟨a0, a1, a2, a3, a4, a5, a6, a7, a8, a9, a10, a11⟩ := hat
      simp only at a0 a1 a2 a3 a4 a5 a6 a7 a8 a9 a10 a11
      clear hbx
      go_upto_region 11 with (fail)
      go_cut [11, 12, 13] (fun u9 u10 u11 wx => AfMid wr S u9 u10 u11 wx)
      case first =>
        have HSS := Lib.hid (fun (w' : World) (h : Below wr.heap.size wr w') => show w'.cell? ⟨p3, 0, none⟩ = some (.int .i64 st.c) ∧ w'.cell? ⟨p3, 1, none⟩ = some (.slice A5 st.ws.length c5) ∧ w'.cell? ⟨p3, 2, none⟩ = some (.slice B5 st.ds.length d5) ∧ w'.cell? ⟨bl, o + k * 12, none⟩ = some (.int .u8 bk) ∧ w'.cell? ⟨bl, o + k * 12 + 1, none⟩ = some (.int .i64 ai) ∧ w'.cell? ⟨bl, o + k * 12 + 2, none⟩ = some (.slice P ag.length q) ∧ w'.cell? ⟨bl, o + k * 12 + 3, none⟩ = some (.int .i64 at_) ∧ w'.cell? ⟨bl, o + k * 12 + 4, none⟩ = some (.string ak) ∧ w'.cell? ⟨bl, o + k * 12 + 5, none⟩ = some (.string ab) ∧ w'.cell? ⟨bl, o + k * 12 + 6, none⟩ = some (.int .i64 bid) ∧ w'.cell? ⟨bl, o + k * 12 + 7, none⟩ = some (.int .i64 btm) ∧ w'.cell? ⟨bl, o + k * 12 + 8, none⟩ = some (.slice Q bms.length u) ∧ w'.cell? ⟨bl, o + k * 12 + 9, none⟩ = some (.int .i64 btp) ∧ w'.cell? ⟨bl, o + k * 12 + 10, none⟩ = some (.int .i64 bwh) ∧ w'.cell? ⟨bl, o + k * 12 + 11, none⟩ = some (.int .i64 bn) from
          ⟨(h.cell (cell_block x0)).trans x0, (h.cell (cell_block x1)).trans x1, (h.cell (cell_block x2)).trans x2, (h.cell (cell_block a0)).trans a0, (h.cell (cell_block a1)).trans a1, (h.cell (cell_block a2)).trans a2, (h.cell (cell_block a3)).trans a3, (h.cell (cell_block a4)).trans a4, (h.cell (cell_block a5)).trans a5, (h.cell (cell_block a6)).trans a6, (h.cell (cell_block a7)).trans a7, (h.cell (cell_block a8)).trans a8, (h.cell (cell_block a9)).trans a9, (h.cell (cell_block a10)).trans a10, (h.cell (cell_block a11)).trans a11⟩)
        have bb1 : Below wr.heap.size wr wr.drew := (Below.refl _ _).drew
        obtain ⟨ud, hud⟩ : ∃ ud, ud = wr.drew := ⟨_, rfl⟩
        refine wp_region_held_drew (S := fun w' => w'.cell? ⟨p3, 0, none⟩ = some (.int .i64 st.c) ∧ w'.cell? ⟨p3, 1, none⟩ = some (.slice A5 st.ws.length c5) ∧ w'.cell? ⟨p3, 2, none⟩ = some (.slice B5 st.ds.length d5) ∧ w'.cell? ⟨bl, o + k * 12, none⟩ = some (.int .u8 bk) ∧ w'.cell? ⟨bl, o + k * 12 + 1, none⟩ = some (.int .i64 ai) ∧ w'.cell? ⟨bl, o + k * 12 + 2, none⟩ = some (.slice P ag.length q) ∧ w'.cell? ⟨bl, o + k * 12 + 3, none⟩ = some (.int .i64 at_) ∧ w'.cell? ⟨bl, o + k * 12 + 4, none⟩ = some (.string ak) ∧ w'.cell? ⟨bl, o + k * 12 + 5, none⟩ = some (.string ab) ∧ w'.cell? ⟨bl, o + k * 12 + 6, none⟩ = some (.int .i64 bid) ∧ w'.cell? ⟨bl, o + k * 12 + 7, none⟩ = some (.int .i64 btm) ∧ w'.cell? ⟨bl, o + k * 12 + 8, none⟩ = some (.slice Q bms.length u) ∧ w'.cell? ⟨bl, o + k * 12 + 9, none⟩ = some (.int .i64 btp) ∧ w'.cell? ⟨bl, o + k * 12 + 10, none⟩ = some (.int .i64 bwh) ∧ w'.cell? ⟨bl, o + k * 12 + 11, none⟩ = some (.int .i64 bn)) (by kernel_rfl) (HSS.out _ bb1) (fun hHeld => ?_)
        rw [← hud] at bb1 hHeld ⊢
        clear hud
        refine qT 0 ?_; try simp only [Act.put, qq]
        refine qT 1 ?_; try simp only [Act.put, qq]
        refine qT 2 ?_; try simp only [Act.put, qq]
        refine qT 3 ?_; try simp only [Act.put, qq]
        refine qT 4 ?_; try simp only [Act.put, qq]
        refine qT 5 ?_; try simp only [Act.put, qq]
        refine wpAnyH_ready (rs := [6, 11]) (by kernel_rfl) (by simp) ?_
        refine AllReadyH.cons rfl (fun K hK => ?_) (AllReadyH.cons rfl (fun K hK => ?_) AllReadyH.nil)
        · go_simp
          refine (KA.out ud bb1).mono ?_
          rintro e w7 ⟨v6, vm6, rfl, hso6, hkm6, hb6⟩
          obtain ⟨vW6, vD6, rfl, hk1, hk2⟩ := hso6
          obtain ⟨A6, c6, rfl, _⟩ := hk1.g
          obtain ⟨B6, d6, rfl, _, _⟩ := own_form hk2
          obtain ⟨E6, f6, rfl, _⟩ := hkm6.g
          unfold vsk
          have HT5 := Lib.hid (show wr.heap.size ≤ ud.heap.size from bb1.size)
          have bb6 := bmore bb1 hb6 (Nat.le_refl _)
          have HK1 := Lib.hid (hk1.mono HT5.out)
          have HK2 := Lib.hid (own_base hk2 HT5.out)
          have HK3 := Lib.hid (hkm6.mono HT5.out)
          clear hk1 hk2 hkm6 hb6
          refine hK.out _ _ (HSS.out _ bb6) (fun hHeld => ?_)
          clear hK
          try simp only [Act.put, qq]
          refine qT 7 ?_; try simp only [Act.put, qq]
          refine qT 8 ?_; try simp only [Act.put, qq]
          refine qT 9 ?_; try simp only [Act.put, qq]
          refine qT 10 ?_; try simp only [Act.put, qq]
          refine wpAnyH_ready (rs := [11]) (by kernel_rfl) (by simp) ?_
          refine AllReadyH.cons rfl (fun K hK => ?_) AllReadyH.nil
          go_simp
          have bb7 : Below wr.heap.size wr (w7.alloc (.cells #[.int .i64 0, .slice none 0 0, .slice none 0 0] 25)) := bmore bb6 ((Below.refl _ _).alloc (Nat.le_refl _) _) (Nat.le_refl _)
          have V := Lib.hid (Box.new w7 25 #[.int .i64 0, .slice none 0 0, .slice none 0 0])
          have HVW := Lib.hid (show Below w7.heap.size w7 (w7.alloc (.cells #[.int .i64 0, .slice none 0 0, .slice none 0 0] 25)) from (Below.refl _ _).alloc (Nat.le_refl _) _)
          have HV9 := Lib.hid (show wr.heap.size ≤ w7.heap.size from bb6.size)
          refine hK.out _ _ (HSS.out _ bb7) (fun hHeld => ?_)
          clear hK
          try simp only [Act.put, qq]
          generalize w7.alloc (.cells #[.int .i64 0, .slice none 0 0, .slice none 0 0] 25) = w8 at V HVW bb7 hHeld ⊢
          obtain ⟨p9, hp9⟩ : ∃ p9, w7.heap.size = p9 := ⟨_, rfl⟩
          rw [hp9] at V HV9
          simp only [hp9]
          clear hp9
          replace HK1 := Lib.hid (HK1.out.below HVW.out)
          replace HK2 := Lib.hid (own_below3 HK2.out HVW.out)
          replace HK3 := Lib.hid (HK3.out.below HVW.out)
          obtain ⟨q0, q1, q2, q3, q4, q5⟩ := V.out.three
          refine wpAnyH_ready (rs := [12]) (by kernel_rfl) (by simp) ?_
          refine AllReadyH.cons rfl (fun K hK => ?_) AllReadyH.nil
          go_simp
          have HKP := Lib.hid (kept_put3 V.out (.int .i64 S.1.c) (.slice A6 S.1.ws.length c6) (.slice B6 S.1.ds.length d6))
          have bbE := below_put3 bb7 HV9.out (.int .i64 S.1.c) (.slice A6 S.1.ws.length c6) (.slice B6 S.1.ds.length d6)
          refine hK.out _ _ (HSS.out _ bbE) (fun hHeld => ?_)
          clear hK
          try simp only [Act.put, qq]
          refine qT 13 ?_; try simp only [Act.put, qq]
          refine qT 14 ?_; try simp only [Act.put, qq]
          refine wpAnyH_done (by kernel_rfl) ?_ _
          go_wp2_with fail
          go_meet
          case rel => exact ⟨p9, A6, c6, B6, d6, E6, f6, rfl, rfl, rfl, HV9.out, Box.put3 V.out (.int .i64 S.1.c) (.slice A6 S.1.ws.length c6) (.slice B6 S.1.ds.length d6), KO.kept HKP.out (by decide) (by decide) HK1.out, HKP.out.own HK2.out (by decide), KO.kept HKP.out (by decide) (by decide) HK3.out, bbE⟩
        · go_simp
          have bb2 : Below wr.heap.size wr (ud.alloc (.cells #[.int .i64 0, .slice none 0 0, .slice none 0 0] 25)) := bmore bb1 ((Below.refl _ _).alloc (Nat.le_refl _) _) (Nat.le_refl _)
          have V := Lib.hid (Box.new ud 25 #[.int .i64 0, .slice none 0 0, .slice none 0 0])
          have HVW := Lib.hid (show Below ud.heap.size ud (ud.alloc (.cells #[.int .i64 0, .slice none 0 0, .slice none 0 0] 25)) from (Below.refl _ _).alloc (Nat.le_refl _) _)
          have HV9 := Lib.hid (show wr.heap.size ≤ ud.heap.size from bb1.size)
          refine hK.out _ _ (HSS.out _ bb2) (fun hHeld => ?_)
          clear hK
          try simp only [Act.put, qq]
          generalize ud.alloc (.cells #[.int .i64 0, .slice none 0 0, .slice none 0 0] 25) = w7 at V HVW bb2 hHeld ⊢
          obtain ⟨p9, hp9⟩ : ∃ p9, ud.heap.size = p9 := ⟨_, rfl⟩
          rw [hp9] at V HV9
          simp only [hp9]
          clear hp9
          refine wpAnyH_ready (rs := [6]) (by kernel_rfl) (by simp) ?_
          refine AllReadyH.cons rfl (fun K hK => ?_) AllReadyH.nil
          go_simp
          refine (KA.out w7 bb2).mono ?_
          rintro e w8 ⟨v6, vm6, rfl, hso6, hkm6, hb6⟩
          obtain ⟨vW6, vD6, rfl, hk1, hk2⟩ := hso6
          obtain ⟨A6, c6, rfl, _⟩ := hk1.g
          obtain ⟨B6, d6, rfl, _, _⟩ := own_form hk2
          obtain ⟨E6, f6, rfl, _⟩ := hkm6.g
          unfold vsk
          have HT5 := Lib.hid (show wr.heap.size ≤ w7.heap.size from bb2.size)
          have bb6 := bmore bb2 hb6 (Nat.le_refl _)
          have HK1 := Lib.hid (hk1.mono HT5.out)
          have HK2 := Lib.hid (own_base hk2 HT5.out)
          have HK3 := Lib.hid (hkm6.mono HT5.out)
          replace V := Lib.hid (V.out.below hb6 V.out.lt)
          clear hk1 hk2 hkm6 hb6
          refine hK.out _ _ (HSS.out _ bb6) (fun hHeld => ?_)
          clear hK
          try simp only [Act.put, qq]
          refine qT 7 ?_; try simp only [Act.put, qq]
          refine qT 8 ?_; try simp only [Act.put, qq]
          refine qT 9 ?_; try simp only [Act.put, qq]
          refine qT 10 ?_; try simp only [Act.put, qq]
          obtain ⟨q0, q1, q2, q3, q4, q5⟩ := V.out.three
          refine wpAnyH_ready (rs := [12]) (by kernel_rfl) (by simp) ?_
          refine AllReadyH.cons rfl (fun K hK => ?_) AllReadyH.nil
          go_simp
          have HKP := Lib.hid (kept_put3 V.out (.int .i64 S.1.c) (.slice A6 S.1.ws.length c6) (.slice B6 S.1.ds.length d6))
          have bbE := below_put3 bb6 HV9.out (.int .i64 S.1.c) (.slice A6 S.1.ws.length c6) (.slice B6 S.1.ds.length d6)
          refine hK.out _ _ (HSS.out _ bbE) (fun hHeld => ?_)
          clear hK
          try simp only [Act.put, qq]
          refine qT 13 ?_; try simp only [Act.put, qq]
          refine qT 14 ?_; try simp only [Act.put, qq]
          refine wpAnyH_done (by kernel_rfl) ?_ _
          go_wp2_with fail
          go_meet
          case rel => exact ⟨p9, A6, c6, B6, d6, E6, f6, rfl, rfl, rfl, HV9.out, Box.put3 V.out (.int .i64 S.1.c) (.slice A6 S.1.ws.length c6) (.slice B6 S.1.ds.length d6), KO.kept HKP.out (by decide) (by decide) HK1.out, HKP.out.own HK2.out (by decide), KO.kept HKP.out (by decide) (by decide) HK3.out, bbE⟩
      case rest =>
        obtain ⟨p9, A6, c6, B6, d6, E6, f6, rfl, rfl, rfl, hp9, hbx9, hk1, hk2, hk3, hbe⟩ := hcut
        clear KA x0 x1 x2 a0 a1 a2 a3 a4 a5 a6 a7 a8 a9 a10 a11
        generalize wc = wx at hbx9 hk1 hk2 hk3 hbe ⊢
        clear wc
        have HBE := Lib.hid hbe
        have HB9 := Lib.hid hbx9
        have HK1 := Lib.hid hk1
        have HK2 := Lib.hid hk2
        have HK3 := Lib.hid hk3
        clear hbx9 hk1 hk2 hk3 hbe hp9
        obtain ⟨er, her⟩ : ∃ er, er = S.2.2 := ⟨_, rfl⟩
        have HER := Lib.hid her
        rw [← her]
        clear her
        by_cases h0 : er = 0
        rotate_left
        · have NX := Lib.hid (HT.out.skip HBE.out)
          have h1 : (er == 0) = false := by simpa using h0
          go_wp2_with fail
          go_roundw
          case rel => exact ⟨k + 1, E, m9, f, st, all, by omega, rfl, by go_num, NX⟩
          case measure => simp [intOf]; omega
        subst h0
        have HR := Lib.hid (HRN.out HER.out.symm)
        have HCK := Lib.hid (fun W (hb : Below wx.heap.size wx W) => show Calls Try.prog 12 #[vsk S.1.c (.slice A6 S.1.ws.length c6) (.slice B6 S.1.ds.length d6)] W (IsN 0 W) from by
          have h1 := pcheck15_any (vsk S.1.c (.slice A6 S.1.ws.length c6) (.slice B6 S.1.ds.length d6)) S.1 W ((SkO.is ⟨_, _, rfl, HK1.out, HK2.out⟩).below hb) HSFIT.out
          rw [if_pos HR.out.2.1] at h1
          exact h1)
        have HSS1 := Lib.hid (fun W (hb : Below wx.heap.size wx W) => show Calls Try.prog 16 #[.slice B6 st.ds.length d6, .slice B5 st.ds.length d5] W (IsB true W) from by
          have h2 := skIs_ds (HST.out _ (bmore HBE.out hb (Nat.le_refl _)))
          have h3 := sps_take (sps_own (HK2.out) rfl) (show st.ds.length ≤ S.1.ds.length by have := HR.out.2.2.2.1; omega)
          rw [HR.out.2.2.2.2] at h3
          have h4 := rsameStamps_any B6 B5 st.ds.length st.ds.length d6 d5 st.ds st.ds W (h3.below hb) h2
          rw [decide_eq_true rfl] at h4
          exact h4)
        unfold vsk at HCK
        have hcl := HR.out.2.2.1
        have hc1 : decide (S.1.c < st.c) = false := by simp; omega
        have hlen : S.1.ds.length = st.ds.length + S.2.1.length := HR.out.2.2.2.1
        have HLEN := Lib.hid hlen
        have HD6 := Lib.hid (sps_own HK2.out rfl)
        have hd6 : S.1.ds.length ≤ d6 ∧ d6 ≤ maxLen := HD6.out.2.2
        unfold maxLen at hd6
        obtain ⟨y0, y1, y2⟩ := box_sk HB9.out
        obtain ⟨x0, x1, x2⟩ := box_sk (HBX.out.below HBE.out HBX.out.lt)
        obtain ⟨z1, hz1⟩ : ∃ z1, z1 = st.ds.length := ⟨_, rfl⟩
        obtain ⟨z2, hz2⟩ : ∃ z2, z2 = S.2.1.length := ⟨_, rfl⟩
        obtain ⟨z3, hz3⟩ : ∃ z3, z3 = S.1.ds.length := ⟨_, rfl⟩
        rw [← hz1, ← hz2, ← hz3] at hlen
        rw [← hz3] at hd6 y2 HCK
        rw [← hz1] at x2 HSS1
        rw [← hz2]
        have HZ1 := Lib.hid hz1
        have HZ2 := Lib.hid hz2
        have HZ3 := Lib.hid hz3
        have hw3 : IntKind.i64.wrap ((z1 : Int) + (z2 : Int)) = (z3 : Int) := by rw [IntKind.wrap_i64]; omega
        have hle1 : z1 ≤ d6 := by omega
        have hle2 : (z1 : Int) ≤ (d6 : Int) := by omega
        have hle3 : (0 : Int) ≤ (z1 : Int) := by omega
        clear hz1 hz2 hz3 hlen hcl
        go_upto_region 13 with (fail)
        have HSS := Lib.hid (fun (w' : World) (h : Below wx.heap.size wx w') => show w'.cell? ⟨p9, 0, none⟩ = some (.int .i64 S.1.c) ∧ w'.cell? ⟨p9, 1, none⟩ = some (.slice A6 S.1.ws.length c6) ∧ w'.cell? ⟨p9, 2, none⟩ = some (.slice B6 z3 d6) ∧ w'.cell? ⟨p3, 0, none⟩ = some (.int .i64 st.c) ∧ w'.cell? ⟨p3, 1, none⟩ = some (.slice A5 st.ws.length c5) ∧ w'.cell? ⟨p3, 2, none⟩ = some (.slice B5 z1 d5) from
          ⟨(h.cell (cell_block y0)).trans y0, (h.cell (cell_block y1)).trans y1, (h.cell (cell_block y2)).trans y2, (h.cell (cell_block x0)).trans x0, (h.cell (cell_block x1)).trans x1, (h.cell (cell_block x2)).trans x2⟩)
        have bb1 : Below wx.heap.size wx wx.drew := (Below.refl _ _).drew
        obtain ⟨ud, hud⟩ : ∃ ud, ud = wx.drew := ⟨_, rfl⟩
        refine wp_region_held_drew (S := fun w' => w'.cell? ⟨p9, 0, none⟩ = some (.int .i64 S.1.c) ∧ w'.cell? ⟨p9, 1, none⟩ = some (.slice A6 S.1.ws.length c6) ∧ w'.cell? ⟨p9, 2, none⟩ = some (.slice B6 z3 d6) ∧ w'.cell? ⟨p3, 0, none⟩ = some (.int .i64 st.c) ∧ w'.cell? ⟨p3, 1, none⟩ = some (.slice A5 st.ws.length c5) ∧ w'.cell? ⟨p3, 2, none⟩ = some (.slice B5 z1 d5)) (by kernel_rfl) (HSS.out _ bb1) (fun hHeld => ?_)
        rw [← hud] at bb1 hHeld ⊢
        clear hud
        refine qT 0 ?_; try simp only [Act.put, qq]
        refine wpAnyH_ready (rs := [1]) (by kernel_rfl) (by simp) ?_
        refine AllReadyH.cons rfl (fun K hK => ?_) AllReadyH.nil
        go_simp
        refine (HCK.out ud bb1).mono ?_
        rintro e w7 ⟨rfl, hb⟩
        have bb2 := bmore bb1 hb (Nat.le_refl _)
        clear hb
        refine hK.out _ _ (HSS.out _ bb2) (fun hHeld => ?_)
        clear hK
        try simp only [Act.put, qq]
        refine qT 2 ?_; try simp only [Act.put, qq]
        refine qT 3 ?_; try simp only [Act.put, qq]
        refine qT 4 ?_; try simp only [Act.put, qq]
        refine qT 5 ?_; try simp only [Act.put, qq]
        refine qT 6 ?_; try simp only [Act.put, qq]
        refine qT 7 ?_; try simp only [Act.put, qq]
        refine qT 8 ?_; try simp only [Act.put, qq]
        refine qT 9 ?_; try simp only [Act.put, qq]
        refine qT 10 ?_; try simp only [Act.put, qq]
        refine qT 11 ?_; try simp only [Act.put, qq]
        refine qT 12 ?_; try simp only [Act.put, qq]
        refine qT 13 ?_; try simp only [Act.put, qq]
        refine qT 14 ?_; try simp only [Act.put, qq]
        refine qT 15 ?_; try simp only [Act.put, qq]
        refine qT 16 ?_; try simp only [Act.put, qq]
        refine qT 17 ?_; try simp only [Act.put, qq]
        refine qT 18 ?_; try simp only [Act.put, qq]
        refine qT 19 ?_; try simp only [Act.put, qq]
        refine qT 20 ?_; try simp only [Act.put, qq]
        refine qT 21 ?_; try simp only [Act.put, qq]
        refine qT 22 ?_; try simp only [Act.put, qq]
        refine qT 23 ?_; try simp only [Act.put, qq]
        refine qT 24 ?_; try simp only [Act.put, qq]
        refine qT 25 ?_; try simp only [Act.put, qq]
        refine qT 26 ?_; try simp only [Act.put, qq]
        refine qT 27 ?_; try simp only [Act.put, qq]
        refine qT 28 ?_; try simp only [Act.put, qq]
        refine qT 29 ?_; try simp only [Act.put, qq]
        refine qT 30 ?_; try simp only [Act.put, qq]
        refine wpAnyH_ready (rs := [31]) (by kernel_rfl) (by simp) ?_
        refine AllReadyH.cons rfl (fun K hK => ?_) AllReadyH.nil
        go_simp
        refine (HSS1.out w7 bb2).mono ?_
        rintro e w8 ⟨rfl, hb⟩
        have bb3 := bmore bb2 hb (Nat.le_refl _)
        clear hb
        refine hK.out _ _ (HSS.out _ bb3) (fun hHeld => ?_)
        clear hK
        try simp only [Act.put, qq]
        refine qT 32 ?_; try simp only [Act.put, qq]
        refine qT 33 ?_; try simp only [Act.put, qq]
        refine wpAnyH_done (by kernel_rfl) ?_ _
        clear hHeld HSS
        clear HCK HSS1 x0 x1 x2 y0 y1 y2
        have HB5 := Lib.hid ((HBX.out.below HBE.out HBX.out.lt).below bb3 (HBX.out.below HBE.out HBX.out.lt).lt)
        have HB9n := Lib.hid (HB9.out.below bb3 HB9.out.lt)
        have HK1n := Lib.hid (HK1.out.below bb3)
        have HK2n := Lib.hid (own_below3 HK2.out bb3)
        have HK3n := Lib.hid (HK3.out.below bb3)
        have HBEn := Lib.hid (bmore HBE.out bb3 (Nat.le_refl _))
        clear bb1 bb2 bb3 HB9 HK1 HK2 HK3 HBE
        obtain ⟨y0, y1, y2⟩ := box_sk HB9n.out
        obtain ⟨t0, t1, t2, t3, t4, t5⟩ := HB5.out.three
        have KP1 := Lib.hid (kept_put3 HB5.out (.int .i64 S.1.c) (.slice A6 S.1.ws.length c6) (.slice B6 S.1.ds.length d6))
        have HMS := Lib.hid (KO.kept KP1.out (by decide) (by decide) (HT.out.ms.below HBEn.out))
        have HKG := Lib.hid (show KG KM_ (((w8.setCell ⟨p3, 0, none⟩ (.int .i64 S.1.c)).setCell ⟨p3, 1, none⟩ (.slice A6 S.1.ws.length c6)).setCell ⟨p3, 2, none⟩ (.slice B6 S.1.ds.length d6)) wr.heap.size E6 z2 f6 S.2.1 from by
          rw [HZ2.out]
          exact (KO.kept KP1.out (by decide) (by decide) HK3n.out).slice.2.2.2)
        have HMB9 := Lib.hid (fun g h => (HT.out.ms.blk (g := g) h).2)
        have HSZ := Lib.hid (show w.heap.size ≤ wr.heap.size from HT.out.bl.size)
        have HSZ2 := Lib.hid HBEn.out.size
        have hb1 := HT.out.le
        have hb2 : z2 ≤ 200 := by rw [HZ2.out]; exact HSL.out
        have hb3 : m9 ≤ 200 * k := by have := HML.out; omega
        go_upto_region 16 with (fail)
        clear t0 t1 t2 t3 t4 t5 y0 y1 y2
        go_wp2_with (at_builtin; refine wpList_append_kos (K := KM_) rfl _ _ 26 rfl j0 _ 72 Try.underlying26 hj hy0 hy1 hy2 rfl rfl HMS.out rfl HKG.out HSZ.out HMB9.out (by unfold maxLen; omega) (by omega) (by have h1 := HSZ.out; have h2 := HSZ2.out; simp; omega) ?_; intro A7 c7 w9 hko hgr hob; have HNX := Lib.hid (And.intro hgr hko); clear hko hgr hob)
        have HN := Lib.hid (HT.out.next (W2 := w9) (vm2 := .slice A7 (m9 + z2) c7) (c := ⟨bk, ⟨ai, ag, at_, ak, ab⟩, bid, btm, bms, btp, bwh, bn⟩) (A := A6) (B := B6) (ca := c6) (cb := d6) HBEn.out HMEM.out (by rw [← HSE.out]; exact HER.out.symm) HSZ.out (by rw [← HSE.out]; exact ⟨_, _, rfl, HK1n.out, HK2n.out⟩) (fun W0 hW => by rw [← HSE.out] at hW ⊢; subst hW; exact HNX.out))
        go_roundw
        case rel => exact ⟨k + 1, A7, _, c7, _, _, by omega, rfl, by go_num, HN⟩
        case measure => simp [intOf]; omega
    · have hlt0 : ¬ ((k : Int) < (n2 : Int)) := by omega
      obtain ⟨A5, c5, B5, d5, hb8, hcur8⟩ := HT.out.v8
      obtain ⟨A3, c3, B3, d3, hb3, hcur3⟩ := HT.out.v3
      have HB8 := Lib.hid hb8
      have HB3 := Lib.hid hb3
      have HI8 := Lib.hid (fun W (hb : Below wr.heap.size wr W) => (hcur8.is HT.out.bl).below hb)
      have HI3 := Lib.hid (fun W (hb : Below wr.heap.size wr W) => skIs_ds ((hcur3.is HT.out.bl).below hb))
      have HMR := Lib.hid (fun W (hb : Below wr.heap.size wr W) => (HT.out.ms.slice.2.2.2.r.below hb))
      have CH := Lib.hid (KH.out wr _ (HI8.out wr (Below.refl _ _)))
      have HBL := Lib.hid HT.out.bl
      clear hb8 hb3 hcur8 hcur3
      obtain ⟨x0, x1, x2⟩ := box_sk HB8.out
      unfold vsk at CH
      by_cases hmay : KM.may x
      rotate_left
      · rw [if_neg hmay] at CH
        have hall := (HT.out.run.un hmay).2
        have h9 : m9 = 0 := by have := HML.out; rw [hall] at this; exact this
        subst h9
        clear hall hmay
        go_wp2_with fail
        refine (CH.out).mono ?_
        rintro e w5 ⟨rfl, hb⟩
        have HBF := Lib.hid (bmore HBL.out hb (Nat.le_refl _))
        clear CH x0 x1 x2 hb
        go_wp2_with fail
        go_ret
        exact ⟨rfl, HBF.out⟩
      · rw [if_pos hmay] at CH
        obtain ⟨hd1, hd2, hd3⟩ := HT.out.run.done hmay
        have HD3 := Lib.hid hd3
        have HPR := Lib.hid (fun W (hb : Below wr.heap.size wr W) => show Calls Try.prog 17 #[.slice B3 st.ds.length d3] W (IsB true W) from by
          have h1 := prises_any B3 st.ds.length d3 st.ds W (HI3.out W hb)
          rw [hd2] at h1
          exact h1)
        obtain ⟨z1, hz1⟩ : ∃ z1, z1 = x.ds.length := ⟨_, rfl⟩
        obtain ⟨z3, hz3⟩ : ∃ z3, z3 = st.ds.length := ⟨_, rfl⟩
        have hml := HML.out
        have hf1 := HF.out.2
        have hle := HT.out.le
        rw [← hz1] at hd1 HD3 CH hf1
        rw [← hz3] at hd1 HPR
        have HZ1 := Lib.hid hz1
        have HZ3 := Lib.hid hz3
        have hz3m : z3 = z1 + m9 := by omega
        have hm9 : m9 ≤ 200 * k := by omega
        have hw3 : IntKind.i64.wrap ((z1 : Int) + (m9 : Int)) = (z3 : Int) := by rw [IntKind.wrap_i64]; omega
        have HZM := Lib.hid hz3m
        rw [← hz1] at x2
        clear hmay hd1 hd2 hd3 hz1 hz3 hz3m hml hle
        go_wp2_with fail
        refine (CH.out).mono ?_
        rintro e w5 ⟨rfl, hb⟩
        have HB5 := Lib.hid hb
        clear CH x0 x1 x2 hb
        obtain ⟨x0, x1, x2⟩ := box_sk (HB8.out.below HB5.out HB8.out.lt)
        obtain ⟨y0, y1, y2⟩ := box_sk (HB3.out.below HB5.out HB3.out.lt)
        rw [← HZ1.out] at x2
        rw [← HZ3.out] at y2
        go_wp2_with fail
        refine (HPR.out _ HB5.out).mono ?_
        rintro e w7 ⟨rfl, hb⟩
        have HB7 := Lib.hid (bmore HB5.out hb (Nat.le_refl _))
        clear HPR x0 x1 x2 y0 y1 y2 hb hw3 HB5
        go_wp2_with fail
        go_loopw [15] (fun u wq => ∃ i : Nat, i ≤ m9 ∧ u = .int .i64 i ∧ Hid (Below wr.heap.size wr wq)) (fun u _ => m9 - (intOf u).toNat)
        case atStart => exact ⟨0, by omega, rfl, HB7⟩
        case round =>
          obtain ⟨i, hi, rfl, HQ⟩ := hrel
          by_cases hlt : i < m9
          · obtain ⟨mg, hmg⟩ : ∃ mg, all[i]? = some mg := ⟨_, List.getElem?_eq_getElem (by have := HML.out; omega)⟩
            obtain ⟨y, hy1, hy2, hy3, hy4⟩ := HD3.out i mg hmg
            obtain ⟨bl, o, rfl, _, _, a0, a1⟩ := (HI3.out _ HQ.out).at_ hy1
            obtain ⟨bm, om, Q, q, rfl, _, _, hat, hrow⟩ := mgs_at (HMR.out _ HQ.out) hmg
            obtain ⟨c0, c1, c2', c3', c4⟩ := hat
            have KS1 := Lib.hid (fun W (hb : Below wr.heap.size wr W) => assigned15_any _ x A2 n2 c2 es g (.agg (mcells Q q mg)) mg true W (HI8.out W (bmore HQ.out hb (Nat.le_refl _))) (HCA.out W (bmore HBL.out (bmore HQ.out hb (Nat.le_refl _)) (Nat.le_refl _))) ⟨Q, q, rfl, hrow.below hb⟩ ⟨fun _ => by rw [← HCS.out]; exact hy3, fun _ => rfl⟩)
            have KS2 := Lib.hid (fun W (hb : Below wr.heap.size wr W) => finished15_any _ x A2 n2 c2 es y true W (HI8.out W (bmore HQ.out hb (Nat.le_refl _))) (HCA.out W (bmore HBL.out (bmore HQ.out hb (Nat.le_refl _)) (Nat.le_refl _))) ⟨fun _ => by rw [← HCS.out]; exact hy4, fun _ => rfl⟩)
            have hz9 : z1 + i < z3 := by have := HZM.out; omega
            have hw4 : IntKind.i64.wrap ((z1 : Int) + (i : Int)) = ((z1 + i : Nat) : Int) := by rw [IntKind.wrap_i64]; omega
            have hk0 : (0 : Int) ≤ ((z1 + i : Nat) : Int) := by omega
            have hk1 : ((z1 + i : Nat) : Int) < (z3 : Int) := by omega
            have hi0 : (0 : Int) ≤ (i : Int) := by omega
            have hi1 : (i : Int) < (m9 : Int) := by omega
            obtain ⟨y0, y1, y2⟩ := box_sk (HB3.out.below HQ.out HB3.out.lt)
            rw [← HZ3.out] at y2
            rw [← HZ1.out] at KS1 KS2
            clear hmg hy1 hy3 hy4 hrow hz9
            obtain ⟨mi, gs, mt, mk, mb⟩ := mg
            obtain ⟨yt, yi⟩ := y
            simp only at hy2
            subst hy2
            unfold vsk mcells at KS1
            unfold vsk vsp at KS2
            simp only at KS1 KS2 a0 a1 c0 c1 c2' c3' c4
            go_upto_region 26 with (fail)
            have bb0 : Below wr.heap.size wr (wr.alloc (.cells #[.int .i64 yt, .int .i64 yi] 50)) := (Below.refl _ _).alloc (Nat.le_refl _) _
            have HQ2 := Lib.hid (bmore HQ.out bb0 (Nat.le_refl _))
            have G := Lib.hid (Box.new wr 50 #[.int .i64 yt, .int .i64 yi])
            have E0 := Lib.hid (And.intro ((bb0.cell (cell_block c0)).trans c0) (And.intro ((bb0.cell (cell_block c1)).trans c1) (And.intro ((bb0.cell (cell_block c2')).trans c2') (And.intro ((bb0.cell (cell_block c3')).trans c3') ((bb0.cell (cell_block c4)).trans c4)))))
            replace KS1 := Lib.hid (fun W (hb : Below (wr.alloc (.cells #[.int .i64 yt, .int .i64 yi] 50)).heap.size (wr.alloc (.cells #[.int .i64 yt, .int .i64 yi] 50)) W) => KS1.out W (bmore bb0 hb (Nat.le_refl _)))
            replace KS2 := Lib.hid (fun W (hb : Below (wr.alloc (.cells #[.int .i64 yt, .int .i64 yi] 50)).heap.size (wr.alloc (.cells #[.int .i64 yt, .int .i64 yi] 50)) W) => KS2.out W (bmore bb0 hb (Nat.le_refl _)))
            clear a0 a1 c0 c1 c2' c3' c4 y0 y1 y2 bb0
            generalize wr.alloc (.cells #[.int .i64 yt, .int .i64 yi] 50) = w8 at HQ2 G E0 KS1 KS2 ⊢
            generalize wr.heap.size = g16 at G ⊢
            obtain ⟨c0, c1, c2', c3', c4⟩ := E0.out
            obtain ⟨a0, a1⟩ := box_two G.out
            obtain ⟨x0, x1, x2⟩ := box_sk (HB8.out.below HQ2.out HB8.out.lt)
            rw [← HZ1.out] at x2
            have HSS := Lib.hid (fun (w' : World) (h : Below w8.heap.size w8 w') => show w'.cell? ⟨g16, 0, none⟩ = some (.int .i64 yt) ∧ w'.cell? ⟨g16, 1, none⟩ = some (.int .i64 yi) ∧ w'.cell? ⟨bm, om + i * 5, none⟩ = some (.int .i64 yi) ∧ w'.cell? ⟨bm, om + i * 5 + 1, none⟩ = some (.slice Q gs.length q) ∧ w'.cell? ⟨bm, om + i * 5 + 2, none⟩ = some (.int .i64 mt) ∧ w'.cell? ⟨bm, om + i * 5 + 3, none⟩ = some (.string mk) ∧ w'.cell? ⟨bm, om + i * 5 + 4, none⟩ = some (.string mb) ∧ w'.cell? ⟨p8, 0, none⟩ = some (.int .i64 x.c) ∧ w'.cell? ⟨p8, 1, none⟩ = some (.slice A5 x.ws.length c5) ∧ w'.cell? ⟨p8, 2, none⟩ = some (.slice B5 z1 d5) from
              ⟨(h.cell (cell_block a0)).trans a0, (h.cell (cell_block a1)).trans a1, (h.cell (cell_block c0)).trans c0, (h.cell (cell_block c1)).trans c1, (h.cell (cell_block c2')).trans c2', (h.cell (cell_block c3')).trans c3', (h.cell (cell_block c4)).trans c4, (h.cell (cell_block x0)).trans x0, (h.cell (cell_block x1)).trans x1, (h.cell (cell_block x2)).trans x2⟩)
            have bb1 : Below w8.heap.size w8 w8.drew := (Below.refl _ _).drew
            obtain ⟨ud, hud⟩ : ∃ ud, ud = w8.drew := ⟨_, rfl⟩
            refine wp_region_held_drew (S := fun w' => w'.cell? ⟨g16, 0, none⟩ = some (.int .i64 yt) ∧ w'.cell? ⟨g16, 1, none⟩ = some (.int .i64 yi) ∧ w'.cell? ⟨bm, om + i * 5, none⟩ = some (.int .i64 yi) ∧ w'.cell? ⟨bm, om + i * 5 + 1, none⟩ = some (.slice Q gs.length q) ∧ w'.cell? ⟨bm, om + i * 5 + 2, none⟩ = some (.int .i64 mt) ∧ w'.cell? ⟨bm, om + i * 5 + 3, none⟩ = some (.string mk) ∧ w'.cell? ⟨bm, om + i * 5 + 4, none⟩ = some (.string mb) ∧ w'.cell? ⟨p8, 0, none⟩ = some (.int .i64 x.c) ∧ w'.cell? ⟨p8, 1, none⟩ = some (.slice A5 x.ws.length c5) ∧ w'.cell? ⟨p8, 2, none⟩ = some (.slice B5 z1 d5)) (by kernel_rfl) (HSS.out _ bb1) (fun hHeld => ?_)
            rw [← hud] at bb1 hHeld ⊢
            clear hud
            refine qT 0 ?_; try simp only [Act.put, qq]
            refine qT 1 ?_; try simp only [Act.put, qq]
            refine qT 2 ?_; try simp only [Act.put, qq]
            refine qT 3 ?_; try simp only [Act.put, qq]
            refine qT 4 ?_; try simp only [Act.put, qq]
            refine qT 5 ?_; try simp only [Act.put, qq]
            refine qT 6 ?_; try simp only [Act.put, qq]
            refine qT 7 ?_; try simp only [Act.put, qq]
            refine qT 8 ?_; try simp only [Act.put, qq]
            refine qT 9 ?_; try simp only [Act.put, qq]
            refine qT 10 ?_; try simp only [Act.put, qq]
            refine qT 11 ?_; try simp only [Act.put, qq]
            refine qT 12 ?_; try simp only [Act.put, qq]
            refine qT 13 ?_; try simp only [Act.put, qq]
            refine qT 14 ?_; try simp only [Act.put, qq]
            refine qT 15 ?_; try simp only [Act.put, qq]
            refine wpAnyH_ready (rs := [16]) (by kernel_rfl) (by simp) ?_
            refine AllReadyH.cons rfl (fun K hK => ?_) AllReadyH.nil
            go_simp
            refine (KS1.out ud bb1).mono ?_
            rintro e w9 ⟨rfl, hb⟩
            have bb2 := bmore bb1 hb (Nat.le_refl _)
            clear hb
            refine hK.out _ _ (HSS.out _ bb2) (fun hHeld => ?_)
            clear hK
            try simp only [Act.put, qq]
            refine qT 17 ?_; try simp only [Act.put, qq]
            refine qT 18 ?_; try simp only [Act.put, qq]
            refine qT 19 ?_; try simp only [Act.put, qq]
            refine qT 20 ?_; try simp only [Act.put, qq]
            refine qT 21 ?_; try simp only [Act.put, qq]
            refine qT 22 ?_; try simp only [Act.put, qq]
            refine wpAnyH_ready (rs := [23]) (by kernel_rfl) (by simp) ?_
            refine AllReadyH.cons rfl (fun K hK => ?_) AllReadyH.nil
            go_simp
            refine (KS2.out w9 bb2).mono ?_
            rintro e w10 ⟨rfl, hb⟩
            have bb3 := bmore bb2 hb (Nat.le_refl _)
            clear hb
            refine hK.out _ _ (HSS.out _ bb3) (fun hHeld => ?_)
            clear hK
            try simp only [Act.put, qq]
            refine qT 24 ?_; try simp only [Act.put, qq]
            refine qT 25 ?_; try simp only [Act.put, qq]
            refine wpAnyH_done (by kernel_rfl) ?_ _
            clear hHeld HSS
            clear KS1 KS2 a0 a1 c0 c1 c2' c3' c4 x0 x1 x2
            have HQ3 := Lib.hid (bmore HQ2.out bb3 (Nat.le_refl _))
            clear bb1 bb2 bb3
            go_wp2_with fail
            go_roundw
            case rel => exact ⟨i + 1, by omega, by go_num, HQ3⟩
            case measure => simp [intOf]; omega
          · go_wp2_with fail
            go_ret
            exact ⟨rfl, bmore HBL.out HQ.out (Nat.le_refl _)⟩
end Go.Proofs.Ytnpgjcapekopnaa.KP
namespace Go.Proofs.Ytnpgjcapekopnaa
open Go.RowKit
theorem skeenRises_walk (v : Value) (x : KM.Sk) (g : Int) (A2 : Option Addr) (n2 c2 : Nat) (es : List LP.El) (w : World) (hx : KP.SkArg w v x) (hg : (Lit.int .i64 g).wf = true) (hc : KP.CmsArg w A2 n2 c2 es) :
    Calls Try.prog 4 #[v, .int .i64 g, .slice A2 n2 c2] w fun e w' => e = .returned (.bool true) ∧ Below w.heap.size w w' := KP.skeenRises_walk v x g A2 n2 c2 es w hx hg hc
end Go.Proofs.Ytnpgjcapekopnaa
