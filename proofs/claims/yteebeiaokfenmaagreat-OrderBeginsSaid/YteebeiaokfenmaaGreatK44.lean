/-
  Package order: a player plays a log. Conditions: a log that may be; who is handed the steps keeps what is the player's.
  Package order: Play. Conditions: a log that reads as texts.
  Package order: Play. Conditions: a log that reads as texts.
-/
import Derived.Test.YteebeiaokfenmaaGreatK43
import Derived.Test.YteebeiaokfenmaaGreatK17
namespace Go.Proofs.YteebeiaokfenmaaGreat.KP
open Go.RowKit CP TP LP
open CM (Mg Cm)
open TM (Sp)
open KM (Wt Sk)
set_option linter.unusedVariables false
set_option linter.unusedSimpArgs false
set_option maxRecDepth 100000
set_option maxHeartbeats 4000000 in
theorem pplay_any (PA : PApply) (N : FuncId) (caps : Array Value) (g : Int) (cs : List Cm) (W0 w : World) (R : Nat → (Nat → Prop) → World → Prop) (X0 : Nat → Prop) (pc pg b0 : Nat) (sv : Value)
    (h1 : Box W0 pc 73 #[sv]) (h2 : Box W0 pg 3 #[.int .i64 g]) (h3 : CmsO W0 b0 sv cs) (hb : Below W0.heap.size W0 w) (hS : See N caps g cs W0 w.heap.size R) (hr0 : R 0 X0 w) (hX : ∀ q, X0 q → W0.heap.size ≤ q) (hg : 0 ≤ g ∧ g < 4) (hcs : ∀ c ∈ cs, CM.may c) :
    Calls Tryz.prog 56 #[.func (.func N) #[] caps, .pointer (some ⟨pc, 0, none⟩), .pointer (some ⟨pg, 0, none⟩)] w fun x w' => x = .returned (.tuple #[]) ∧ ∃ X', R cs.length X' w' ∧ KpX X0 w w' ∧ ∀ q, X' q → X0 q ∨ w.heap.size ≤ q := by
  obtain ⟨es, hes, hRow, hRs⟩ := cmsO_row h3
  obtain ⟨AA, cap, rfl, hAt⟩ := hRow.any
  obtain ⟨n, hn⟩ : ∃ n, n = es.length := ⟨_, rfl⟩
  have hn63 : n ≤ 9223372036854775807 := by
    obtain ⟨l, hl, ho, _⟩ := h3
    obtain ⟨A', c', e, k1, k2⟩ := own_form ho
    injection e with _ e _
    unfold maxLen at k2
    omega
  rw [← hn] at h1
  have HN := Lib.hid hn
  have HES := Lib.hid hes
  have HAT := Lib.hid hAt
  have HRS := Lib.hid hRs
  have H1 := Lib.hid h1
  have H2 := Lib.hid h2
  have HB := Lib.hid hb
  have HS := Lib.hid hS
  have HR := Lib.hid hr0
  have HX := Lib.hid hX
  have HC := Lib.hid hcs
  have HW := Lib.hid hb.size
  have hlen : cs.length = n := by rw [← hes, hn, List.length_map]
  have HLN := Lib.hid hlen
  have HMay := Lib.hid (fun k (hk : k ≤ n) => show KM.may (stA g cs k) from (OM.inv hg fun c hc => hcs c (List.mem_of_mem_take hc)).m)
  clear hn hes hRow hRs hAt h1 h2 h3 hb hS hr0 hX hcs hlen
  go_enter Tryz.func56, Tryz.ntmps56
  go_wp2_with fail
  refine (pnew15_any _).mono ?_
  rintro e w1 ⟨v, rfl, ⟨vw, vd, rfl, k1, k2⟩, hb1⟩
  obtain ⟨A4, c4, rfl, _⟩ := k1.g
  obtain ⟨B4, d4, rfl, _, _⟩ := own_form k2
  obtain ⟨vw, hvw⟩ : ∃ vw, vw = Value.slice A4 KM.zero.ws.length c4 := ⟨_, rfl⟩
  obtain ⟨vd, hvd⟩ : ∃ vd, vd = Value.slice B4 KM.zero.ds.length d4 := ⟨_, rfl⟩
  unfold vsk
  rw [← hvw] at k1
  rw [← hvd] at k2
  obtain ⟨p, hp⟩ : ∃ p, w1.heap.size = p := ⟨_, rfl⟩
  have hal : Below w1.heap.size w1 (w1.alloc (.cells #[.int .i64 KM.zero.c, vw, vd] 39)) := (Below.refl _ _).alloc (Nat.le_refl _) _
  have HP := Lib.hid (show PlR g cs W0 w X0 R p 0 X0 vw vd (w1.alloc (.cells #[.int .i64 KM.zero.c, vw, vd] 39)) from by
    have hb2 := bmore hb1 hal (Nat.le_refl _)
    refine ⟨bmore HB.out hb2 (Nat.le_refl _), by rw [← hp]; exact hb1.size, HS.out.keep _ _ _ _ HR.out hb2 (Kept.of_below hb2), KpX.of_below hb2, fun q hq => .inl hq, fun hq => ?_, Box.new_at _ hp, ?_⟩
    · have := HS.out.lt _ _ _ HR.out _ hq
      have := hb1.size
      omega
    · refine (stb_sk (b := w.heap.size) ⟨vw, vd, rfl, k1, k2⟩ fun q hq => ?_).below hal
      rcases hq with hq | hq
      · exact .inl (HS.out.lt _ _ _ HR.out _ hq)
      · exact .inr (by omega))
  rw [hvw, hvd] at HP
  clear k1 k2 hal
  go_upto_region 1 with (fail)
  generalize w1.alloc (.cells #[.int .i64 KM.zero.c, .slice A4 KM.zero.ws.length c4, .slice B4 KM.zero.ds.length d4] 39) = w2 at HP ⊢
  rw [← hvw, ← hvd] at HP
  clear hvw hvd
  try simp only [hp]
  have HB2 := Lib.hid HP.out.b0
  have c0 := (H1.out.below HB2.out H1.out.lt).cell 0
  simp at c0
  clear hp hb1
  go_wp2_with fail
  clear c0
  go_loopw [13] (fun i wr => ∃ (k : Nat) (X : Nat → Prop) (vw vd : Value), k ≤ n ∧ i = .int .i64 k ∧ Hid (PlR g cs W0 w X0 R p k X vw vd wr)) (fun i _ => n - (intOf i).toNat)
  case atStart => exact ⟨0, X0, vw, vd, by omega, rfl, HP⟩
  case round =>
    clear HP HB2
    obtain ⟨k, X, vw, vd, hk, rfl, HP⟩ := hrel
    by_cases hlt : k < n
    · obtain ⟨e, he⟩ : ∃ e, es[k]? = some e := ⟨_, List.getElem?_eq_getElem (by have := HN.out; omega)⟩
      have HE := Lib.hid (show cs[k]? = some e.x by rw [← HES.out, List.getElem?_map, he]; rfl)
      have HRE := Lib.hid (HRS.out e (List.mem_of_getElem? he))
      have HCM := Lib.hid (HC.out e.x (List.mem_of_getElem? HE.out))
      have HM := Lib.hid (HMay.out k hk)
      obtain ⟨bl, off, rfl, hbl, hat⟩ := HAT.out k e he
      obtain ⟨y0, y1, y2, y3, y4, y5, y6, y7, y8, y9, y10, y11⟩ := hat.below hbl HP.out.b0
      have pg0 := (H2.out.below HP.out.b0 H2.out.lt).cell 0
      have pg1 := (H2.out.below HP.out.b0 H2.out.lt)
      have HPG := Lib.hid pg1
      clear he hat pg1
      obtain ⟨A, c, B, d, x⟩ := e
      obtain ⟨xx, hxx⟩ : ∃ xx, xx = x := ⟨_, rfl⟩
      rw [← hxx] at HE HRE HCM
      have HXX := Lib.hid hxx
      obtain ⟨ck, ⟨ai, ag, at_, ak, ab⟩, bid, btm, bms, btp, bwh, bn⟩ := x
      simp only at y0 y1 y2 y3 y4 y5 y6 y7 y8 y9 y10 y11 HRE
      simp at pg0
      clear hxx
      have hk0 : (0 : Int) ≤ (k : Int) := by omega
      have hkn : (k : Int) < (n : Int) := by omega
      obtain ⟨A5, a5, B5, b5, n5, m5, rfl, rfl⟩ := skIs_form HP.out.st.at_
      obtain ⟨sc, hsc⟩ : ∃ sc, sc = (stA g cs k).c := ⟨_, rfl⟩
      have HSC := Lib.hid hsc
      have HSK := Lib.hid (fun W (hb : Below wr.heap.size wr W) => show SkIs W (.agg #[.int .i64 sc, .slice A5 n5 a5, .slice B5 m5 b5]) (stA g cs k) from by rw [hsc]; exact (HP.out.st.at_).below hb)
      have BX := Lib.hid (show Box wr p 39 #[.int .i64 sc, .slice A5 n5 a5, .slice B5 m5 b5] from by rw [hsc]; exact HP.out.bx)
      have HRA := Lib.hid (show RowIs W0 A c xx.m.gs ∧ RowIs W0 B d xx.ms from ⟨HRE.out.1, HRE.out.2.1⟩)
      obtain ⟨RR, hRR⟩ : ∃ RR, RR = KM.applyF (stA g cs k) g xx := ⟨_, rfl⟩
      have HRR := Lib.hid hRR
      have KA := Lib.hid (fun W (hb : Below wr.heap.size wr W) => show Calls Tryz.prog 57 #[.agg #[.int .i64 sc, .slice A5 n5 a5, .slice B5 m5 b5], .int .i64 g, .agg #[.int .u8 ck, .int .i64 ai, .slice A ag.length c, .int .i64 at_, .string ak, .string ab, .int .i64 bid, .int .i64 btm, .slice B bms.length d, .int .i64 btp, .int .i64 bwh, .int .i64 bn]] W (ApIs RR W) from by
        rw [hRR]
        exact PA _ _ _ _ _ _ (HSK.out W hb) (fit_may HM.out) ⟨A, c, B, d, by rw [HXX.out]; rfl, (HRA.out.1.below HP.out.b0).below hb, (HRA.out.2.below HP.out.b0).below hb⟩ (cm_fit HCM.out).1 (Nat.le_trans (cm_fit HCM.out).2 (by decide)))
      have HB3 := Lib.hid (show Below wr.heap.size wr (wr.alloc (.cells #[.int .u8 ck, .int .i64 ai, .slice A ag.length c, .int .i64 at_, .string ak, .string ab, .int .i64 bid, .int .i64 btm, .slice B bms.length d, .int .i64 btp, .int .i64 bwh, .int .i64 bn] 91)) from (Below.refl _ _).alloc (Nat.le_refl _) _)
      have Y := Lib.hid (Box.new wr 91 #[.int .u8 ck, .int .i64 ai, .slice A ag.length c, .int .i64 at_, .string ak, .string ab, .int .i64 bid, .int .i64 btm, .slice B bms.length d, .int .i64 btp, .int .i64 bwh, .int .i64 bn])
      clear hsc hRR
      go_upto_region 4 with (fail)
      clear y0 y1 y2 y3 y4 y5 y6 y7 y8 y9 y10 y11 pg0
      generalize wr.alloc (.cells #[.int .u8 ck, .int .i64 ai, .slice A ag.length c, .int .i64 at_, .string ak, .string ab, .int .i64 bid, .int .i64 btm, .slice B bms.length d, .int .i64 btp, .int .i64 bwh, .int .i64 bn] 91) = w3 at HB3 Y ⊢
      have HLT := Lib.hid (Y.out.lt)
      obtain ⟨p3, hp3⟩ : ∃ p3, wr.heap.size = p3 := ⟨_, rfl⟩
      rw [hp3] at Y HLT
      simp only [hp3]
      have HP3 := Lib.hid hp3
      clear hp3
      obtain ⟨x0, x1, x2⟩ := box_sk (BX.out.below HB3.out BX.out.lt)
      have y0 := Y.out.cell 0
      have y1 := Y.out.cell 1
      have y2 := Y.out.cell 2
      have y3 := Y.out.cell 3
      have y4 := Y.out.cell 4
      have y5 := Y.out.cell 5
      have y6 := Y.out.cell 6
      have y7 := Y.out.cell 7
      have y8 := Y.out.cell 8
      have y9 := Y.out.cell 9
      have y10 := Y.out.cell 10
      have y11 := Y.out.cell 11
      have z0 := (HPG.out.below HB3.out HPG.out.lt).cell 0
      simp at y0 y1 y2 y3 y4 y5 y6 y7 y8 y9 y10 y11 z0
      go_wp2_with fail
      refine (KA.out _ HB3.out).mono ?_
      rintro e w4 ⟨v, vm, rfl, ⟨vw6, vd6, rfl, k1, k2⟩, km, hb4⟩
      clear x0 x1 x2 y0 y1 y2 y3 y4 y5 y6 y7 y8 y9 y10 y11 z0 KA
      by_cases hp : (KM.putF (stA g cs k) g xx).2.2 = true
      rotate_left
      · have HO := Lib.hid (one_no hp)
        have hR2 : RR.2.2 = 9 := by rw [HRR.out, ap_no HM.out hg HCM.out hp]
        rw [hR2]
        obtain ⟨A6, c6, rfl, _⟩ := k1.g
        obtain ⟨B6, d6, rfl, _, _⟩ := own_form k2
        have HBB := Lib.hid (bmore HB3.out hb4 (Nat.le_refl _))
        clear k1 k2 km hb4 hp hR2
        unfold vsk
        go_upto_region 5 with (fail)
        have HBC := Lib.hid (bmore HBB.out ((Below.refl w4.heap.size w4).alloc (Nat.le_refl _) (.cells #[.int .i64 RR.1.c, .slice A6 RR.1.ws.length c6, .slice B6 RR.1.ds.length d6] 39)) (Nat.le_refl _))
        go_wp2_with fail
        go_roundw
        case rel => exact ⟨k + 1, X, _, _, by omega, by go_num, Lib.hid (HP.out.skip HS.out HE.out HO.out HBC.out)⟩
        case measure => simp [intOf]; omega
      · have hR2 : RR.2.2 = 0 := by rw [HRR.out, ap_yes HM.out hg HCM.out hp]
        have hR1 : RR.1 = (KM.putF (stA g cs k) g xx).1 := by rw [HRR.out, ap_yes HM.out hg HCM.out hp]
        have hR3 : RR.2.1 = (KM.putF (stA g cs k) g xx).2.1 := by rw [HRR.out, ap_yes HM.out hg HCM.out hp]
        rw [hR2]
        have HPP := Lib.hid hp
        rw [hR3] at km
        rw [hR1] at k1 k2
        rw [hR1]
        obtain ⟨S2, hS2⟩ : ∃ S2, S2 = (KM.putF (stA g cs k) g xx).1 := ⟨_, rfl⟩
        rw [← hS2] at k1 k2
        rw [← hS2]
        have HS2 := Lib.hid hS2
        obtain ⟨O2, hO2⟩ : ∃ O2, O2 = (KM.putF (stA g cs k) g xx).2.1 := ⟨_, rfl⟩
        rw [← hO2] at km
        have HO2 := Lib.hid hO2
        obtain ⟨A7, c7, rfl, _⟩ := km.g
        have K1 := Lib.hid k1
        have K2 := Lib.hid k2
        have KM_ := Lib.hid km
        obtain ⟨A6, c6, rfl, _⟩ := k1.g
        obtain ⟨B6, d6, rfl, _, _⟩ := own_form k2
        have HBB := Lib.hid (bmore HB3.out hb4 (Nat.le_refl _))
        have HB4 := Lib.hid hb4
        clear k1 k2 km hb4 hp hR2 hR1 hR3 hS2 hO2
        unfold vsk
        have hal := ((Below.refl w4.heap.size w4).alloc (Nat.le_refl _) (.cells #[.int .i64 S2.c, .slice A6 S2.ws.length c6, .slice B6 S2.ds.length d6] 39))
        have Z := Lib.hid (Box.new w4 39 #[.int .i64 S2.c, .slice A6 S2.ws.length c6, .slice B6 S2.ds.length d6])
        have HBC := Lib.hid (bmore HBB.out hal (Nat.le_refl _))
        have HB5 := Lib.hid hal
        clear hal
        go_upto_region 5 with (fail)
        generalize w4.alloc (.cells #[.int .i64 S2.c, .slice A6 S2.ws.length c6, .slice B6 S2.ds.length d6] 39) = w5 at Z HBC HB5 ⊢
        obtain ⟨p4, hp4⟩ : ∃ p4, w4.heap.size = p4 := ⟨_, rfl⟩
        rw [hp4] at Z
        simp only [hp4]
        have HP4 := Lib.hid hp4
        clear hp4
        have HPM := Lib.hid (HP.out.more HS.out HBC.out)
        have HXB := Lib.hid (show ∀ q, X q → q < w3.heap.size from fun q hq => by have := HS.out.lt _ _ _ HP.out.r q hq; have := HB3.out.size; omega)
        have HSO := Lib.hid (show SkO w5 w3.heap.size (vsk (KM.putF (stA g cs k) g xx).1.c (.slice A6 S2.ws.length c6) (.slice B6 S2.ds.length d6)) (KM.putF (stA g cs k) g xx).1 from by rw [← HS2.out]; exact SkO.below ⟨_, _, rfl, K1.out, K2.out⟩ HB5.out)
        have HGO := Lib.hid (show Calls Tryz.prog N (#[.agg #[.int .u8 ck, .int .i64 ai, .slice A ag.length c, .int .i64 at_, .string ak, .string ab, .int .i64 bid, .int .i64 btm, .slice B bms.length d, .int .i64 btp, .int .i64 bwh, .int .i64 bn, .int .i64 sc, .slice A5 n5 a5, .slice B5 m5 b5, .int .i64 S2.c, .slice A6 S2.ws.length c6, .slice B6 S2.ds.length d6, .slice A7 O2.length c7]] ++ caps) w5 (fun x W' => x = .returned (.tuple #[]) ∧ ∃ X', R (k + 1) X' W' ∧ KpX X w5 W' ∧ ∀ q, X' q → X q ∨ w5.heap.size ≤ q) from by
          have q := HS.out.go k ⟨A, c, B, d, xx⟩ X w5 (.slice A5 n5 a5) (.slice B5 m5 b5) (.slice A6 S2.ws.length c6) (.slice B6 S2.ds.length d6) (.slice A7 O2.length c7) w3.heap.size HE.out HPP.out HPM.out.r HPM.out.b0 HRA.out.1 HRA.out.2
            (by rw [← HSC.out]; exact HSK.out _ HBC.out) HXB.out (by have := HB4.out.size; have := HB5.out.size; omega) (Nat.le_trans HP.out.kp.size HB3.out.size) HSO.out (by rw [← HO2.out]; exact KM_.out.below HB5.out)
          unfold scells at q
          rw [← HSC.out, ← HS2.out] at q
          simp only [HXX.out] at q
          exact q)
        obtain ⟨x0, x1, x2⟩ := box_sk (HPM.out.bx)
        rw [← HSC.out] at x0
        obtain ⟨z0, z1, z2⟩ := box_sk Z.out
        have Y5 := (Y.out.below (bmore (Below.refl _ _) HB4.out (Nat.le_refl _)) Y.out.lt).below HB5.out (by have := Y.out.lt; have := HB4.out.size; omega)
        have y0 := Y5.cell 0
        have y1 := Y5.cell 1
        have y2 := Y5.cell 2
        have y3 := Y5.cell 3
        have y4 := Y5.cell 4
        have y5 := Y5.cell 5
        have y6 := Y5.cell 6
        have y7 := Y5.cell 7
        have y8 := Y5.cell 8
        have y9 := Y5.cell 9
        have y10 := Y5.cell 10
        have y11 := Y5.cell 11
        simp at y0 y1 y2 y3 y4 y5 y6 y7 y8 y9 y10 y11
        clear Y5
        have hen := HS.out.en
        go_wp2_with fail
        refine (HGO.out).mono ?_
        clear x0 x1 x2 z0 z1 z2 y0 y1 y2 y3 y4 y5 y6 y7 y8 y9 y10 y11 hen HGO
        rintro e w6 ⟨rfl, X', hR, hK, hX⟩
        have HST := Lib.hid (show PlR g cs W0 w X0 R p (k + 1) X' (.slice A6 S2.ws.length c6) (.slice B6 S2.ds.length d6) (((w6.setCell ⟨p, 0, none⟩ (.int .i64 S2.c)).setCell ⟨p, 1, none⟩ (.slice A6 S2.ws.length c6)).setCell ⟨p, 2, none⟩ (.slice B6 S2.ds.length d6)) from by
          have q := HPM.out.step (q := 0) HS.out HX.out HW.out HE.out HPP.out hR hK hX HSO.out HXB.out (by have := BX.out.lt; have := HB3.out.size; omega)
          rw [← HS2.out] at q
          exact q)
        obtain ⟨z0, z1, z2⟩ := box_sk (hK.box Z.out (fun q => by have := HS.out.lt _ _ _ HP.out.r _ q; have := HB3.out.size; have := HB4.out.size; have := HP4.out; omega))
        obtain ⟨x0, x1, x2, f0, f1, f2⟩ := (hK.box HPM.out.bx HP.out.xp).three
        clear hR hK hX
        go_wp2_with fail
        go_roundw
        case rel => exact ⟨k + 1, X', _, _, by omega, by go_num, HST⟩
        case measure => simp [intOf]; omega
    · obtain rfl : n = k := by omega
      go_wp2_with fail
      go_end0
      exact ⟨rfl, X, by rw [HLN.out]; exact HP.out.r, HP.out.kp, HP.out.xs⟩
end Go.Proofs.YteebeiaokfenmaaGreat.KP

namespace Go.Proofs.YteebeiaokfenmaaGreat.KP
open Go.RowKit CP TP LP
open CM (Mg Cm)
open TM (Sp)
open KM (Wt Sk)
set_option linter.unusedVariables false
set_option linter.unusedSimpArgs false
set_option maxRecDepth 100000
/-- what Play's own variables hold behind k commands: the clock at p1, the messages at p2 -/
structure RPl (g : Int) (cs : List Cm) (b p1 p2 : Nat) (k : Nat) (X : Nat → Prop) (W : World) : Prop where
  x : ∃ (A : Option Addr) (n c : Nat) (B : Option Addr) (m d : Nat) (C : Option Addr) (i j : Nat), Box W p1 39 #[.int .i64 (stA g cs k).c, .slice A n c, .slice B m d] ∧ Box W p2 40 #[.slice C i j] ∧
    SkO W b (vsk (stA g cs k).c (.slice A n c) (.slice B m d)) (stA g cs k) ∧ KO KM_ W b 33 (.slice C i j) (OM.play g (cs.take k)).2.1 ∧ X = fun q => q = p1 ∨ q = p2 ∨ (Value.slice C i j).ownBlock = some q
  k : k ≤ cs.length
theorem out_next {g : Int} {cs : List Cm} {k : Nat} {c : Cm} (h : cs[k]? = some c) : (OM.play g (cs.take (k + 1))).2.1 = (OM.play g (cs.take k)).2.1 ++ (OM.one (stA g cs k) g c).2 := by
  unfold stA
  rw [List.take_add_one, h]
  show (OM.play g (cs.take k ++ [c])).2.1 = _
  rw [OM.play_snoc]
  rfl
/-- at most 200 messages -/
theorem out_few {g : Int} {cs : List Cm} (hg : 0 ≤ g ∧ g < 4) (hc : ∀ c ∈ cs, CM.may c) (k : Nat) : (OM.play g (cs.take k)).2.1.length ≤ 200 := by
  have hI := OM.inv (l := cs.take k) hg fun c h => hc c (List.mem_of_mem_take h)
  obtain ⟨D, h1, h2, _⟩ := hI.ds
  have := hI.m.1.2.2.2
  rw [h1, List.length_map] at this
  rw [h2, List.length_map]
  exact this
theorem sko_kept {S : TypeId → Prop} {W W' : World} {b : Nat} {v : Value} {s : Sk} (h : SkO W b v s) (hk : Kept S W W') (h1 : ¬ S 3) (h2 : ¬ S 78) (h3 : ¬ S 46) : SkO W' b v s := by
  obtain ⟨vw, vd, e, k1, k2⟩ := h
  exact ⟨vw, vd, e, KO.kept hk h1 h2 k1, hk.own k2 h3⟩
theorem skO_form {W : World} {b : Nat} {c : Int} {vw vd : Value} {s : Sk} (h : SkO W b (vsk c vw vd) s) : ∃ A a B b, vw = .slice A s.ws.length a ∧ vd = .slice B s.ds.length b := by
  obtain ⟨vw', vd', e, k1, k2⟩ := h
  unfold vsk at e
  injection e with e
  injection e with e
  injection e with _ e
  injection e with e1 e
  injection e with e2 _
  obtain ⟨A, a, h1, _⟩ := k1.g
  obtain ⟨B, d, h2, _⟩ := own_form k2
  exact ⟨A, a, B, d, by rw [e1, h1], by rw [e2, h2]⟩
theorem notSk_int : ¬ (fun e => e = 39) 3 := by decide
theorem rPl_step {g : Int} {cs : List Cm} {b p1 p2 k bb : Nat} {W W3 : World} {c : Cm} {A : Option Addr} {n a : Nat} {B : Option Addr} {m d : Nat} {C : Option Addr} {i j : Nat} {E : Option Addr} {e r : Nat} {F : Option Addr} {f t : Nat} {G : Option Addr} {u v : Nat} {o : Obj}
    (hc : cs[k]? = some c) (hp : (KM.putF (stA g cs k) g c).2.2 = true) (hne : p1 ≠ p2) (k1 : Box W p1 39 #[.int .i64 (stA g cs k).c, .slice A n a, .slice B m d]) (k2 : Box W p2 40 #[.slice C i j])
    (k4 : KO KM_ W b 33 (.slice C i j) (OM.play g (cs.take k)).2.1) (hb : b ≤ bb) (hsb : SkO W bb (vsk (KM.putF (stA g cs k) g c).1.c (.slice E e r) (.slice F f t)) (KM.putF (stA g cs k) g c).1)
    (h1 : KO KM_ W3 b 33 (.slice G u v) ((OM.play g (cs.take k)).2.1 ++ (KM.putF (stA g cs k) g c).2.1))
    (hgr : ((((W.alloc o).setCell ⟨p1, 0, none⟩ (.int .i64 (KM.putF (stA g cs k) g c).1.c)).setCell ⟨p1, 1, none⟩ (.slice E e r)).setCell ⟨p1, 2, none⟩ (.slice F f t)).grownBy W3 (Value.slice C i j).ownBlock)
    (hob : (Value.slice G u v).ownBlock = (Value.slice C i j).ownBlock ∨ (Value.slice G u v).ownBlock = some ((((W.alloc o).setCell ⟨p1, 0, none⟩ (.int .i64 (KM.putF (stA g cs k) g c).1.c)).setCell ⟨p1, 1, none⟩ (.slice E e r)).setCell ⟨p1, 2, none⟩ (.slice F f t)).heap.size) :
    ∃ X', RPl g cs b p1 p2 (k + 1) X' (W3.setCell ⟨p2, 0, none⟩ (.slice G u v)) ∧ KpX (fun q => q = p1 ∨ q = p2 ∨ (Value.slice C i j).ownBlock = some q) W (W3.setCell ⟨p2, 0, none⟩ (.slice G u v)) ∧ ∀ q, X' q → (q = p1 ∨ q = p2 ∨ (Value.slice C i j).ownBlock = some q) ∨ W.heap.size ≤ q := by
  have e1 : stA g cs (k + 1) = (KM.putF (stA g cs k) g c).1 := by rw [stA_next hc, one_ok hp]
  have e2 : (OM.play g (cs.take (k + 1))).2.1 = (OM.play g (cs.take k)).2.1 ++ (KM.putF (stA g cs k) g c).2.1 := by rw [out_next hc, one_ok hp]
  obtain ⟨S2, hS2⟩ : ∃ S2, S2 = (KM.putF (stA g cs k) g c).1 := ⟨_, rfl⟩
  rw [← hS2] at hsb hgr hob e1
  obtain ⟨W2, hW2⟩ : ∃ W2, W2 = ((((W.alloc o).setCell ⟨p1, 0, none⟩ (.int .i64 S2.c)).setCell ⟨p1, 1, none⟩ (.slice E e r)).setCell ⟨p1, 2, none⟩ (.slice F f t)) := ⟨_, rfl⟩
  rw [← hW2] at hgr hob
  have hal : Below W.heap.size W (W.alloc o) := (Below.refl _ _).alloc (Nat.le_refl _) _
  have b1 : Box W2 p1 39 #[.int .i64 S2.c, .slice E e r, .slice F f t] := by rw [hW2]; exact (k1.below hal k1.lt).put3 _ _ _
  have b2 : Box W2 p2 40 #[.slice C i j] := by rw [hW2]; exact (k2.below hal k2.lt).putFar3 (fun e => hne e.symm) _ _ _
  have q1 : Kept (fun e => e = 39) W W2 := by rw [hW2]; exact (Kept.of_below hal).trans (kept_put3 (k1.below hal k1.lt) _ _ _)
  have s2 := sko_kept hsb q1 (by decide) (by decide) (by decide)
  have o2 := KO.kept q1 (by decide) (by decide) k4
  have q2 : Kept (fun e => e = 33) W2 W3 := by
    obtain ⟨es, _, ho, _⟩ := o2
    exact Kept.grown ho rfl hgr
  have s3 := sko_kept s2 q2 (by decide) (by decide) (by decide)
  have b13 := q2.box _ _ _ (by decide) b1
  have b23 := q2.box _ _ _ (by decide) b2
  have q3 : Kept (fun e => e = 40) W3 (W3.setCell ⟨p2, 0, none⟩ (.slice G u v)) := Kept.set (S := fun e => e = 40) b23 rfl _
  have hsz : W.heap.size ≤ W2.heap.size := q1.size
  refine ⟨_, ⟨⟨E, e, r, F, f, t, G, u, v, ?_, ?_, ?_, ?_, rfl⟩, (List.getElem?_eq_some_iff.1 hc).1⟩, ?_, fun q hq => ?_⟩
  · rw [e1]; exact b13.far (p := ⟨p2, 0, none⟩) hne _
  · have := b23.stored 0 (.slice G u v)
    simpa using this
  · rw [e1]
    obtain ⟨vw, vd, x1, x2, x3⟩ := sko_kept s3 q3 (by decide) (by decide) (by decide)
    exact ⟨vw, vd, x1, x2.mono hb, own_base x3 hb⟩
  · rw [e2]; exact KO.kept q3 (by decide) (by decide) h1
  · refine ⟨?_, ?_, ?_, ?_, fun q hq hn => ?_⟩
    · exact (q3.os.trans q2.os).trans q1.os
    · exact (q3.tape.trans q2.tape).trans q1.tape
    · exact (q3.output.trans q2.output).trans q1.output
    · exact Nat.le_trans (Nat.le_trans q1.size q2.size) q3.size
    · have n1 : q ≠ p1 := fun k => hn (.inl k)
      have n2 : q ≠ p2 := fun k => hn (.inr (.inl k))
      have n3 : some q ≠ (Value.slice C i j).ownBlock := fun k => hn (.inr (.inr k.symm))
      rw [Below.heap_setCell _ ⟨p2, 0, none⟩ _ q n2, hgr.block q (by omega) n3, hW2]
      exact (((Below.heap_setCell _ ⟨p1, 2, none⟩ _ q n1).trans (Below.heap_setCell _ ⟨p1, 1, none⟩ _ q n1)).trans (Below.heap_setCell _ ⟨p1, 0, none⟩ _ q n1)).trans (hal.block q hq)
  · rcases hq with k | k | k
    · exact .inl (.inl k)
    · exact .inl (.inr (.inl k))
    · rcases hob with z | z
      · exact .inl (.inr (.inr (z.symm.trans k)))
      · rw [z] at k; injection k with k; exact .inr (by omega)
set_option maxHeartbeats 4000000 in
theorem seePl (g : Int) (cs : List Cm) (W0 w : World) (b p1 p2 : Nat) (hg : 0 ≤ g ∧ g < 4) (hcs : ∀ c ∈ cs, CM.may c) (h1 : p1 < w.heap.size) (h2 : p2 < w.heap.size) (hne : p1 ≠ p2) (hb : b ≤ w.heap.size) :
    See 41 #[.pointer (some ⟨p1, 0, none⟩), .pointer (some ⟨p2, 0, none⟩)] g cs W0 w.heap.size (RPl g cs b p1 p2) := by
  refine ⟨fun args w => by rfl, fun k X W W' h hB hK => ?_, fun k X W h q hq => ?_, fun k c X W hc ho h => ?_, ?_⟩
  · obtain ⟨⟨A, n, c, B, m, d, C, i, j, k1, k2, k3, k4, rfl⟩, hk⟩ := h
    refine ⟨⟨A, n, c, B, m, d, C, i, j, k1.below hB h1, k2.below hB h2, sko_kept k3 hK (by decide) (by decide) (by decide), k4.kept hK (by decide) (by decide), rfl⟩, hk⟩
  · obtain ⟨⟨A, n, c, B, m, d, C, i, j, k1, k2, k3, k4, rfl⟩, hk⟩ := h
    rcases hq with rfl | rfl | hq
    · exact k1.lt
    · exact k2.lt
    · exact (k4.blk hq).2
  · obtain ⟨⟨A, n, c', B, m, d, C, i, j, k1, k2, k3, k4, rfl⟩, hk⟩ := h
    have e1 : stA g cs (k + 1) = stA g cs k := by rw [stA_next hc, ho]
    have e2 : (OM.play g (cs.take (k + 1))).2.1 = (OM.play g (cs.take k)).2.1 := by rw [out_next hc, ho, List.append_nil]
    exact ⟨⟨A, n, c', B, m, d, C, i, j, by rw [e1]; exact k1, k2, by rw [e1]; exact k3, by rw [e2]; exact k4, rfl⟩, (List.getElem?_eq_some_iff.1 hc).1⟩
  · intro k e X W va vda vb vdb vm bb hc hp hR hB0 r1 r2 hsa hX hbb hb1 hsb hm
    obtain ⟨⟨A, n, a, B, m, d, C, i, j, k1, k2, k3, k4, rfl⟩, hk⟩ := hR
    obtain ⟨A5, a5, B5, b5, n5, m5, rfl, rfl⟩ := skIs_form hsa
    obtain ⟨A6, a6, B6, b6, rfl, rfl⟩ := skO_form hsb
    obtain ⟨A7, a7, rfl, _⟩ := hm.g
    have hi : i = (OM.play g (cs.take k)).2.1.length := k4.slice.1
    have hfew : i + (KM.putF (stA g cs k) g e.x).2.1.length ≤ 200 := by
      have := out_few hg hcs (k + 1)
      rw [out_next hc, one_ok hp, List.length_append, ← hi] at this
      exact this
    obtain ⟨j0, hj, hy0, hy1, hy2⟩ := info_parts info_mg
    obtain ⟨q0, hq0⟩ : ∃ q0, W.heap.size = q0 := ⟨_, rfl⟩
    have hqn : q0 ≠ p1 := by have := k1.lt; omega
    have HST := Lib.hid (fun (W3 : World) (G : Option Addr) (u v : Nat) (o : Obj) h1 hgr hob => rPl_step (W3 := W3) (G := G) (u := u) (v := v) (o := o) hc hp hne k1 k2 k4 (Nat.le_trans hb hb1) hsb h1 hgr hob)
    have hne4 : ∀ q, (Value.slice C i j).ownBlock = some q → q < bb := fun q hq => hX q (.inr (.inr hq))
    have HN4 := Lib.hid hne4
    obtain ⟨O1, hO1⟩ : ∃ O1, O1 = (OM.play g (cs.take k)).2.1 := ⟨_, rfl⟩
    obtain ⟨O2, hO2⟩ : ∃ O2, O2 = (KM.putF (stA g cs k) g e.x).2.1 := ⟨_, rfl⟩
    obtain ⟨S1, hS1⟩ : ∃ S1, S1 = stA g cs k := ⟨_, rfl⟩
    rw [← hO1] at HST k4
    rw [← hO2] at HST hm hfew
    rw [← hS1] at HST hsa k1 hsb hO2 ⊢
    obtain ⟨S2, hS2⟩ : ∃ S2, S2 = (KM.putF S1 g e.x).1 := ⟨_, rfl⟩
    rw [← hS2] at HST hsb ⊢
    rw [← hO2]
    have X0 := Lib.hid k1
    have X2 := Lib.hid k2
    have HK4 := Lib.hid k4
    have HM := Lib.hid hm
    clear hne4 hsa hsb hX k1 k2 k3 k4 hm hO1 hO2 hS1 hS2 hB0 r1 r2 hc hp hi hk
    obtain ⟨A0, c0, B0, d0, ⟨ck, ⟨ai, ag, at_, ak, ab⟩, bid, btm, bms, btp, bwh, bn⟩⟩ := e
    unfold scells
    simp only
    show Calls Tryz.prog 41 #[.agg #[.int .u8 ck, .int .i64 ai, .slice A0 ag.length c0, .int .i64 at_, .string ak, .string ab, .int .i64 bid, .int .i64 btm, .slice B0 bms.length d0, .int .i64 btp, .int .i64 bwh, .int .i64 bn, .int .i64 S1.c, .slice A5 n5 a5, .slice B5 m5 b5, .int .i64 S2.c, .slice A6 S2.ws.length a6, .slice B6 S2.ds.length b6, .slice A7 O2.length a7], .pointer (some ⟨p1, 0, none⟩), .pointer (some ⟨p2, 0, none⟩)] W _
    have Y := Lib.hid (Box.new_at (w := W) (t := 93) (cs := #[.int .u8 ck, .int .i64 ai, .slice A0 ag.length c0, .int .i64 at_, .string ak, .string ab, .int .i64 bid, .int .i64 btm, .slice B0 bms.length d0, .int .i64 btp, .int .i64 bwh, .int .i64 bn, .int .i64 S1.c, .slice A5 n5 a5, .slice B5 m5 b5, .int .i64 S2.c, .slice A6 S2.ws.length a6, .slice B6 S2.ds.length b6, .slice A7 O2.length a7]) q0 hq0)
    obtain ⟨o, ho⟩ : ∃ o, o = Obj.cells #[.int .u8 ck, .int .i64 ai, .slice A0 ag.length c0, .int .i64 at_, .string ak, .string ab, .int .i64 bid, .int .i64 btm, .slice B0 bms.length d0, .int .i64 btp, .int .i64 bwh, .int .i64 bn, .int .i64 S1.c, .slice A5 n5 a5, .slice B5 m5 b5, .int .i64 S2.c, .slice A6 S2.ws.length a6, .slice B6 S2.ds.length b6, .slice A7 O2.length a7] 93 := ⟨_, rfl⟩
    have HO := Lib.hid ho
    have hal : Below W.heap.size W (W.alloc o) := (Below.refl _ _).alloc (Nat.le_refl _) _
    rw [← ho] at Y
    have X01 := Lib.hid (X0.out.below hal X0.out.lt)
    have X21 := Lib.hid (X2.out.below hal X2.out.lt)
    have HK41 := Lib.hid (HK4.out.below hal)
    have HM1 := Lib.hid (HM.out.below hal)
    have HST1 := Lib.hid (fun (W3 : World) (G : Option Addr) (u v : Nat) => HST.out W3 G u v o)
    have HBL := Lib.hid (show b ≤ W.heap.size from Nat.le_trans hb (Nat.le_trans hb1 hbb))
    have HBL1 := Lib.hid (Nat.le_trans HBL.out hal.size)
    have hbb' : b ≤ bb := Nat.le_trans hb hb1
    clear hal HST X0 X2 HK4 HM
    go_enter Tryz.func41, Tryz.ntmps41
    go_upto_region 1 with (fail)
    rw [← ho]
    clear ho
    generalize hW1 : W.alloc o = W1 at Y X01 X21 HK41 HM1 HST1 HBL1 ⊢
    try simp only [hq0]
    obtain ⟨x0, x1, x2, f0, f1, f2⟩ := X01.out.three
    have y15 := Y.out.cell 15
    have y16 := Y.out.cell 16
    have y17 := Y.out.cell 17
    simp at y15 y16 y17
    have P1 := Lib.hid (X01.out.put3 (.int .i64 S2.c) (.slice A6 S2.ws.length a6) (.slice B6 S2.ds.length b6))
    have P2 := Lib.hid (X21.out.putFar3 (fun e => hne e.symm) (.int .i64 S2.c) (.slice A6 S2.ws.length a6) (.slice B6 S2.ds.length b6))
    have PY := Lib.hid (Y.out.putFar3 hqn (.int .i64 S2.c) (.slice A6 S2.ws.length a6) (.slice B6 S2.ds.length b6))
    have HKP := kept_put3 X01.out (.int .i64 S2.c) (.slice A6 S2.ws.length a6) (.slice B6 S2.ds.length b6)
    have PK := Lib.hid (HK41.out.kept HKP (by decide) (by decide))
    have PM := Lib.hid (HM1.out.kept HKP (by decide) (by decide))
    have PS := Lib.hid (Nat.le_trans HBL1.out HKP.size)
    clear HKP hq0 hW1
    go_upto_region 2 with (fail)
    clear x0 x1 x2 f0 f1 f2 y15 y16 y17
    generalize (((W1.setCell ⟨p1, 0, none⟩ (.int .i64 S2.c)).setCell ⟨p1, 1, none⟩ (.slice A6 S2.ws.length a6)).setCell ⟨p1, 2, none⟩ (.slice B6 S2.ds.length b6)) = W2 at P1 P2 PY PK PM HST1 PS ⊢
    have z0 := P2.out.cell 0
    have y18 := PY.out.cell 18
    simp at z0 y18
    go_wp2_with (at_builtin; refine wpList_append_kos (K := KM_) rfl _ _ 40 rfl j0 _ 72 Tryz.underlying40 hj hy0 hy1 hy2 rfl rfl PK.out rfl PM.out hbb' (Below.refl _ _) (fun q hq => .inl (HN4.out q hq)) (by unfold maxLen; omega) (by omega) PS.out ?_; intro A8 c8 w3 hko hgr hob; have HF := Lib.hid (HST1.out w3 A8 _ c8 hko hgr hob); have HP2 := Lib.hid (P2.out.grown hgr (by obtain ⟨es, _, ho, _⟩ := PK.out; exact own_ne ho P2.out (by decide))); clear hko hgr hob z0 y18; have z0 := HP2.out.cell 0; have z1 := HP2.out.frozen 0; simp at z0)
    go_end0
    exact ⟨rfl, HF.out⟩
end Go.Proofs.YteebeiaokfenmaaGreat.KP

namespace Go.Proofs.YteebeiaokfenmaaGreat.KP
open Go.RowKit CP TP LP
open CM (Mg Cm)
open TM (Sp)
open KM (Wt Sk)
set_option linter.unusedVariables false
set_option linter.unusedSimpArgs false
set_option maxRecDepth 100000
set_option maxHeartbeats 4000000 in
theorem pplay16_any (g : Int) (A : Option Addr) (n c : Nat) (l : List ByteArray) (w : World) (h : TxIs w A n c l) : Calls Tryz.prog 14 #[.int .i64 g, .slice A n c] w (ApIs (playR g l) w) := by
  have HP := Lib.hid (fun W (hb : Below w.heap.size w W) => playerOf_any g A n c l W (h.below hb))
  unfold PoIs at HP
  have HA := Lib.hid (fun h0 => asked_zero (g := g) (l := l) h0)
  have HM := Lib.hid (fun h0 => log_may (l := l) h0)
  unfold playR
  obtain ⟨r, hr⟩ : ∃ r, r = asked g l := ⟨_, rfl⟩
  rw [← hr] at HP HA ⊢
  obtain ⟨cs, hcs⟩ : ∃ cs, cs = LM.cmds l := ⟨_, rfl⟩
  rw [← hcs] at HP HM ⊢
  obtain ⟨RR, hRR⟩ : ∃ RR, RR = (if r = 0 then ((OM.play g cs).1, (OM.play g cs).2.1, 0) else (KM.zero, [], r) : Sk × List Mg × Int) := ⟨_, rfl⟩
  rw [← hRR]
  have HRR := Lib.hid hRR
  clear h hr hcs hRR
  obtain ⟨q0, hq0⟩ : ∃ q0, w.heap.size = q0 := ⟨_, rfl⟩
  have HB := Lib.hid (show Below w.heap.size w (w.alloc (.cells #[.int .i64 0, .slice none 0 0, .slice none 0 0] 39)) from (Below.refl _ _).alloc (Nat.le_refl _) _)
  have X := Lib.hid (Box.new_at (w := w) (t := 39) (cs := #[.int .i64 0, .slice none 0 0, .slice none 0 0]) q0 hq0)
  have HQ0 := Lib.hid hq0
  go_enter Tryz.func14, Tryz.ntmps14
  go_upto_region 1 with (fail)
  generalize w.alloc (.cells #[.int .i64 0, .slice none 0 0, .slice none 0 0] 39) = w1 at HB X ⊢
  clear hq0
  go_wp2_with fail
  refine (HP.out _ HB.out).mono ?_
  rintro e w2 ⟨hb, ⟨h0, rfl⟩ | ⟨h0, v, rfl, hv⟩⟩
  · have hk : (r == 0) = false := by simpa using h0
    have HB2 := Lib.hid (bmore HB.out hb (Nat.le_refl _))
    have X2 := Lib.hid (X.out.below hb X.out.lt)
    have HF := Lib.hid (show RR = (KM.zero, [], r) by rw [HRR.out, if_neg h0])
    clear hb HP HA HM h0
    obtain ⟨x0, x1, x2, f0, f1, f2⟩ := X2.out.three
    have ZP := Lib.hid (X2.out.put3 (.int .i64 0) (.slice none 0 0) (.slice none 0 0))
    have ZB := Lib.hid (below_put3 HB2.out (by have := HQ0.out; omega) (.int .i64 0) (.slice none 0 0) (.slice none 0 0) (g := q0))
    go_wp2_with fail
    obtain ⟨u0, u1, u2⟩ := box_sk ZP.out
    exact bodyPost_ret (v := .tuple #[.agg #[.int .i64 0, .slice none 0 0, .slice none 0 0], .slice none 0 0, .int .i64 r]) (by simp [results, Tryz.results14, go_sem, u0, u1, u2]; try rfl) rfl ⟨_, _, by rw [HF.out], by rw [HF.out]; exact skO_zero _ _, by rw [HF.out]; exact kO_nil KM_ _ _ _, ZB.out⟩
  · subst h0
    obtain ⟨hg, hck⟩ := HA.out rfl
    obtain ⟨hmay, hlen⟩ := HM.out hck
    have HMay := Lib.hid hmay
    have HF := Lib.hid (show RR = ((OM.play g cs).1, (OM.play g cs).2.1, 0) by rw [HRR.out, if_pos rfl])
    obtain ⟨pc, pg, sv, b0, rfl, v1, v2, v3⟩ := hv
    have HV1 := Lib.hid v1
    have HV2 := Lib.hid v2
    have HV3 := Lib.hid v3
    have HB2 := Lib.hid (bmore HB.out hb (Nat.le_refl _))
    have X2 := Lib.hid (X.out.below hb X.out.lt)
    clear hb HP HA HM hck hmay hlen v1 v2 v3
    go_wp2_with fail
    refine (pnew15_any _).mono ?_
    rintro e w3 ⟨v, rfl, ⟨vw, vd, rfl, k1, k2⟩, hb3⟩
    obtain ⟨A4, c4, rfl, _⟩ := k1.g
    obtain ⟨B4, d4, rfl, _, _⟩ := own_form k2
    unfold vsk
    obtain ⟨p1, hp1⟩ : ∃ p1, w3.heap.size = p1 := ⟨_, rfl⟩
    obtain ⟨W4, hW4⟩ : ∃ W4, W4 = (w3.alloc (.cells #[.int .i64 KM.zero.c, .slice A4 KM.zero.ws.length c4, .slice B4 KM.zero.ds.length d4] 39)).alloc (.cells #[.slice none 0 0] 40) := ⟨_, rfl⟩
    have hal4 : Below w3.heap.size w3 W4 := by rw [hW4]; exact ((Below.refl _ _).alloc (Nat.le_refl _) _).alloc (by simp) _
    have HB4 := Lib.hid (show Below w2.heap.size w2 W4 from bmore hb3 hal4 (Nat.le_refl _))
    have P1 := Lib.hid (show Box W4 p1 39 #[.int .i64 KM.zero.c, .slice A4 KM.zero.ws.length c4, .slice B4 KM.zero.ds.length d4] from by rw [hW4]; exact (Box.new_at _ hp1).alloc _)
    have P2 := Lib.hid (show Box W4 (p1 + 1) 40 #[.slice none 0 0] from by rw [hW4]; exact Box.new_at _ (by rw [← hp1]; simp))
    have HLW := Lib.hid (show q0 < p1 ∧ w2.heap.size ≤ p1 from by have := X2.out.lt; have := hb3.size; omega)
    have HR0 := Lib.hid (show RPl g cs w.heap.size p1 (p1 + 1) 0 (fun q => q = p1 ∨ q = p1 + 1 ∨ (Value.slice none 0 0).ownBlock = some q) W4 from
      ⟨⟨A4, _, c4, B4, _, d4, none, 0, 0, P1.out, P2.out, (SkO.mono ⟨_, _, rfl, k1.below hal4, own_below3 k2 hal4⟩ HB2.out.size), kO_nil KM_ _ _ _, rfl⟩, Nat.zero_le _⟩)
    clear k1 k2 hb3 hal4
    go_upto_region 6 with (fail)
    rw [← hW4]
    clear hW4
    try simp only [hp1]
    clear hp1
    have HCA := Lib.hid (pplay_any papply15 41 #[.pointer (some ⟨p1, 0, none⟩), .pointer (some ⟨p1 + 1, 0, none⟩)] g cs w2 W4 (RPl g cs w.heap.size p1 (p1 + 1)) _ pc pg b0 sv HV1.out HV2.out HV3.out HB4.out
      (seePl g cs w2 W4 w.heap.size p1 (p1 + 1) hg HMay.out P1.out.lt P2.out.lt (by omega) (Nat.le_trans HB2.out.size HB4.out.size)) HR0.out (fun q hq => by have := HLW.out; rcases hq with rfl | rfl | hq; omega; omega; cases hq) hg HMay.out)
    go_wp2_with fail
    refine (HCA.out).mono ?_
    rintro e w5 ⟨rfl, X', hR, hK, hX⟩
    obtain ⟨⟨A, n', a, B, m, d, C, i, j, r1, r2, r3, r4, rfl⟩, _⟩ := hR
    have hq1 : q0 ≠ p1 := by have := HLW.out; omega
    have hq2 : q0 ≠ p1 + 1 := by have := HLW.out; omega
    have X4 := X2.out.below HB4.out X2.out.lt
    have X5 := Lib.hid (hK.box X4 (fun q => by rcases q with k | k | k; exact hq1 k; exact hq2 k; cases k))
    have HB5 := Lib.hid (show Below w.heap.size w w5 from (bmore HB2.out HB4.out (Nat.le_refl _)).trans (hK.below (Nat.le_trans HB2.out.size HB4.out.size) (fun q hq => by have := HLW.out; have := HB2.out.size; rcases hq with rfl | rfl | hq; omega; omega; cases hq)))
    have est : stA g cs cs.length = (OM.play g cs).1 := by unfold stA; rw [List.take_length]
    rw [est] at r1 r3
    rw [List.take_length] at r4
    have R3 := Lib.hid r3
    have R4 := Lib.hid r4
    have PQ1 := Lib.hid r1
    have PQ2 := Lib.hid r2
    obtain ⟨S2, hS2⟩ : ∃ S2, S2 = (OM.play g cs).1 := ⟨_, rfl⟩
    rw [← hS2] at R3 PQ1
    have HS2 := Lib.hid hS2
    clear HCA hX HR0 r1 r2 r3 r4 hK X4 est hS2
    have hq3 : ¬ p1 = q0 := fun e => hq1 e.symm
    have hq4 : ¬ p1 + 1 = q0 := fun e => hq2 e.symm
    obtain ⟨y0, y1, y2⟩ := box_sk PQ1.out
    have z0 := PQ2.out.cell 0
    simp at z0
    obtain ⟨x0, x1, x2, f0, f1, f2⟩ := X5.out.three
    have ZP := Lib.hid (fun W (hw : W = ((w5.setCell ⟨q0, 0, none⟩ (.int .i64 S2.c)).setCell ⟨q0, 1, none⟩ (.slice A n' a)).setCell ⟨q0, 2, none⟩ (.slice B m d)) => show Box W q0 39 #[.int .i64 S2.c, .slice A n' a, .slice B m d] ∧ Below w.heap.size w W ∧ SkO W w.heap.size (vsk S2.c (.slice A n' a) (.slice B m d)) S2 ∧ KO KM_ W w.heap.size 33 (.slice C i j) (OM.play g cs).2.1 from by
      have q1 := kept_put3 X5.out (.int .i64 S2.c) (.slice A n' a) (.slice B m d)
      subst hw
      exact ⟨X5.out.put3 _ _ _, below_put3 HB5.out (by have := HQ0.out; omega) _ _ _, sko_kept R3.out q1 (by decide) (by decide) (by decide), R4.out.kept q1 (by decide) (by decide)⟩)
    go_wp2_with fail
    go_region
    all_goals
      obtain ⟨z1, z2, z3, z4⟩ := ZP.out _ rfl
      have zd : Below (((w5.setCell ⟨q0, 0, none⟩ (.int .i64 S2.c)).setCell ⟨q0, 1, none⟩ (.slice A n' a)).setCell ⟨q0, 2, none⟩ (.slice B m d)).heap.size (((w5.setCell ⟨q0, 0, none⟩ (.int .i64 S2.c)).setCell ⟨q0, 1, none⟩ (.slice A n' a)).setCell ⟨q0, 2, none⟩ (.slice B m d)) (((w5.setCell ⟨q0, 0, none⟩ (.int .i64 S2.c)).setCell ⟨q0, 1, none⟩ (.slice A n' a)).setCell ⟨q0, 2, none⟩ (.slice B m d)).drew := below_drewN (Below.refl _ _) 1
      replace z1 := z1.below zd z1.lt
      replace z2 := bmore z2 zd (Nat.le_refl _)
      replace z3 := z3.below zd
      replace z4 := z4.below zd
      clear zd
      go_wp2_with fail
      generalize (((w5.setCell ⟨q0, 0, none⟩ (.int .i64 S2.c)).setCell ⟨q0, 1, none⟩ (.slice A n' a)).setCell ⟨q0, 2, none⟩ (.slice B m d)).drew = W9 at z1 z2 z3 z4 ⊢
      obtain ⟨u0, u1, u2⟩ := box_sk z1
      exact bodyPost_ret (v := .tuple #[.agg #[.int .i64 S2.c, .slice A n' a, .slice B m d], .slice C i j, .int .i64 0]) (by simp [results, Tryz.results14, go_sem, u0, u1, u2]; try rfl) rfl ⟨_, _, by rw [HF.out], by rw [HF.out, ← HS2.out]; exact z3, by rw [HF.out]; exact z4, z2⟩
end Go.Proofs.YteebeiaokfenmaaGreat.KP
