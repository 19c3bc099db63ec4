/- Contracts of functions, P17: each as its theorem says. -/
import Derived.Test.YteebeiaokfenmaaGreatP16
set_option linter.unusedVariables false
set_option linter.unusedSimpArgs false
set_option maxRecDepth 100000
set_option maxHeartbeats 16000000
namespace Go.Proofs.YteebeiaokfenmaaGreat
namespace KP
open Go.RowKit CP TP LP
open CM (Mg Cm)
open TM (Sp)
open KM (Wt Sk)
theorem pplay_any (PA : PApply) (N : FuncId) (caps : Array Value) (g : Int) (cs : List Cm) (W0 w : World) (R : Nat → (Nat → Prop) → World → Prop) (X0 : Nat → Prop) (pc pg b0 : Nat) (sv : Value)
  (h1 : Box W0 pc 73 #[sv]) (h2 : Box W0 pg 3 #[.int .i64 g]) (h3 : CmsO W0 b0 sv cs) (hb : Below W0.heap.size W0 w) (hS : See N caps g cs W0 w.heap.size R) (hr0 : R 0 X0 w) (hX : ∀ q, X0 q → W0.heap.size ≤ q) (hg : 0 ≤ g ∧ g < 4) (hcs : ∀ c ∈ cs, CM.may c) :
  Calls Tryz.prog 56 #[.func (.func N) #[] caps, .pointer (some ⟨pc, 0, none⟩), .pointer (some ⟨pg, 0, none⟩)] w fun x w' => x = .returned (.tuple #[]) ∧ ∃ X', R cs.length X' w' ∧ KpX X0 w w' ∧ ∀ q, X' q → X0 q ∨ w.heap.size ≤ q := by
 obtain ⟨es, hes, hRow, hRs⟩ := cmsO_row h3
 obtain ⟨AA, cap, rfl, hAt⟩ := hRow.any
 obtain ⟨n, hn⟩ : ∃ n, n = es.length := ⟨_, rfl⟩
 have hn63 : n ≤ 9223372036854775807 := by
  obtain ⟨l, hl, ho, _⟩ := h3
  obtain ⟨A', c', e, k1, k2⟩ := own_form ho
  injection e with _ e _
  unfold maxLen at k2
  omega
 rw [← hn] at h1
 have HN := h! hn
 have HES := h! hes
 have HAT := h! hAt
 have HRS := h! hRs
 have H1 := h! h1
 have H2 := h! h2
 have HB := h! hb
 have HS := h! hS
 have HR := h! hr0
 have HX := h! hX
 have HC := h! hcs
 have HW := h! hb.size
 have hlen : cs.length = n := by rw [← hes, hn, List.length_map]
 have HLN := h! hlen
 have HMay := h! (fun k (hk : k ≤ n) => show KM.may (stA g cs k) from (OM.inv hg fun c hc => hcs c (List.mem_of_mem_take hc)).m)
 clear hn hes hRow hRs hAt h1 h2 h3 hb hS hr0 hX hcs hlen
 go_enter Tryz.func56, Tryz.ntmps56
 go_wp2_with fail
 refine (pnew15_any _).mono ?_
 rintro e w1 ⟨v, rfl, ⟨vw, vd, rfl, k1, k2⟩, hb1⟩
 obtain ⟨A4, c4, rfl, _⟩ := k1.g
 obtain ⟨B4, d4, rfl, _, _⟩ := own_form k2
 obtain ⟨vw, hvw⟩ : ∃ vw, vw = Value.slice A4 KM.zero.ws.length c4 := ⟨_, rfl⟩
 obtain ⟨vd, hvd⟩ : ∃ vd, vd = Value.slice B4 KM.zero.ds.length d4 := ⟨_, rfl⟩
 unfold vsk
 rw [← hvw] at k1
 rw [← hvd] at k2
 obtain ⟨p, hp⟩ : ∃ p, w1.heap.size = p := ⟨_, rfl⟩
 have hal : Below w1.heap.size w1 (w1.alloc (.cells #[.int .i64 KM.zero.c, vw, vd] 39)) := b!
 have HP := h! (show PlR g cs W0 w X0 R p 0 X0 vw vd (w1.alloc (.cells #[.int .i64 KM.zero.c, vw, vd] 39)) from by
  have hb2 := bmore hb1 hal n!
  refine ⟨bmore HB.out hb2 n!, by rw [← hp]; exact hb1.size, HS.out.keep _ _ _ _ HR.out hb2 (Kept.of_below hb2), KpX.of_below hb2, fun q hq => .inl hq, fun hq => ?_, Box.new_at _ hp, ?_⟩
  ·have := HS.out.lt _ _ _ HR.out _ hq
   have := hb1.size
   omega
  ·refine (stb_sk (b := w.heap.size) ⟨vw, vd, rfl, k1, k2⟩ fun q hq => ?_).below hal
   rcases hq with hq | hq
   ·exact .inl (HS.out.lt _ _ _ HR.out _ hq)
   ·exact .inr (by omega))
 rw [hvw, hvd] at HP
 clear k1 k2 hal
 go_upto_region 1 with (fail)
 generalize w1.alloc (.cells #[.int .i64 KM.zero.c, .slice A4 KM.zero.ws.length c4, .slice B4 KM.zero.ds.length d4] 39) = w2 at HP ⊢
 rw [← hvw, ← hvd] at HP
 clear hvw hvd
 try simp only [hp]
 have HB2 := h! HP.out.b0
 have c0 := (H1.out.below HB2.out H1.out.lt).cell 0
 simp at c0
 clear hp hb1
 go_wp2_with fail
 clear c0
 go_loopw [13] (fun i wr => ∃ (k : Nat) (X : Nat → Prop) (vw vd : Value), k ≤ n ∧ i = .int .i64 k ∧ Hid (PlR g cs W0 w X0 R p k X vw vd wr)) (fun i _ => n - (intOf i).toNat)
 case atStart => exact ⟨0, X0, vw, vd, by omega, rfl, HP⟩
 case round =>
  clear HP HB2
  obtain ⟨k, X, vw, vd, hk, rfl, HP⟩ := hrel
  by_cases hlt : k < n
  ·obtain ⟨e, he⟩ : ∃ e, es[k]? = some e := ⟨_, List.getElem?_eq_getElem (by have := HN.out; omega)⟩
   have HE := h! (show cs[k]? = some e.x by rw [← HES.out, List.getElem?_map, he]; rfl)
   have HRE := h! (HRS.out e (List.mem_of_getElem? he))
   have HCM := h! (HC.out e.x (List.mem_of_getElem? HE.out))
   have HM := h! (HMay.out k hk)
   obtain ⟨bl, off, rfl, hbl, hat⟩ := HAT.out k e he
   obtain ⟨y0, y1, y2, y3, y4, y5, y6, y7, y8, y9, y10, y11⟩ := hat.below hbl HP.out.b0
   have pg0 := (H2.out.below HP.out.b0 H2.out.lt).cell 0
   have pg1 := (H2.out.below HP.out.b0 H2.out.lt)
   have HPG := h! pg1
   clear he hat pg1
   obtain ⟨A, c, B, d, x⟩ := e
   obtain ⟨xx, hxx⟩ : ∃ xx, xx = x := ⟨_, rfl⟩
   rw [← hxx] at HE HRE HCM
   have HXX := h! hxx
   obtain ⟨ck, ⟨ai, ag, at_, ak, ab⟩, bid, btm, bms, btp, bwh, bn⟩ := x
   simp only at y0 y1 y2 y3 y4 y5 y6 y7 y8 y9 y10 y11 HRE
   simp at pg0
   clear hxx
   have hk0 : (0 : Int) ≤ (k : Int) := by omega
   have hkn : (k : Int) < (n : Int) := by omega
   obtain ⟨A5, a5, B5, b5, n5, m5, rfl, rfl⟩ := skIs_form HP.out.st.at_
   obtain ⟨sc, hsc⟩ : ∃ sc, sc = (stA g cs k).c := ⟨_, rfl⟩
   have HSC := h! hsc
   have HSK := h! (fun W (hb : Below wr.heap.size wr W) => show SkIs W (.agg #[.int .i64 sc, .slice A5 n5 a5, .slice B5 m5 b5]) (stA g cs k) from by rw [hsc]; exact (HP.out.st.at_).below hb)
   have BX := h! (show Box wr p 39 #[.int .i64 sc, .slice A5 n5 a5, .slice B5 m5 b5] from by rw [hsc]; exact HP.out.bx)
   have HRA := h! (show RowIs W0 A c xx.m.gs ∧ RowIs W0 B d xx.ms from ⟨HRE.out.1, HRE.out.2.1⟩)
   obtain ⟨RR, hRR⟩ : ∃ RR, RR = KM.applyF (stA g cs k) g xx := ⟨_, rfl⟩
   have HRR := h! hRR
   have KA := h! (fun W (hb : Below wr.heap.size wr W) => show Calls Tryz.prog 57 #[.agg #[.int .i64 sc, .slice A5 n5 a5, .slice B5 m5 b5], .int .i64 g, .agg #[.int .u8 ck, .int .i64 ai, .slice A ag.length c, .int .i64 at_, .string ak, .string ab, .int .i64 bid, .int .i64 btm, .slice B bms.length d, .int .i64 btp, .int .i64 bwh, .int .i64 bn]] W (ApIs RR W) from by
    rw [hRR]
    exact PA _ _ _ _ _ _ (HSK.out W hb) (fit_may HM.out) ⟨A, c, B, d, by rw [HXX.out]; rfl, (HRA.out.1.below HP.out.b0).below hb, (HRA.out.2.below HP.out.b0).below hb⟩ (cm_fit HCM.out).1 (Nat.le_trans (cm_fit HCM.out).2 (by decide)))
   have HB3 := h! (show Below wr.heap.size wr (wr.alloc (.cells #[.int .u8 ck, .int .i64 ai, .slice A ag.length c, .int .i64 at_, .string ak, .string ab, .int .i64 bid, .int .i64 btm, .slice B bms.length d, .int .i64 btp, .int .i64 bwh, .int .i64 bn] 91)) from (Below.refl _ _).alloc n! _)
   have Y := h! (Box.new wr 91 #[.int .u8 ck, .int .i64 ai, .slice A ag.length c, .int .i64 at_, .string ak, .string ab, .int .i64 bid, .int .i64 btm, .slice B bms.length d, .int .i64 btp, .int .i64 bwh, .int .i64 bn])
   clear hsc hRR
   go_upto_region 4 with (fail)
   clear y0 y1 y2 y3 y4 y5 y6 y7 y8 y9 y10 y11 pg0
   generalize wr.alloc (.cells #[.int .u8 ck, .int .i64 ai, .slice A ag.length c, .int .i64 at_, .string ak, .string ab, .int .i64 bid, .int .i64 btm, .slice B bms.length d, .int .i64 btp, .int .i64 bwh, .int .i64 bn] 91) = w3 at HB3 Y ⊢
   have HLT := h! (Y.out.lt)
   obtain ⟨p3, hp3⟩ : ∃ p3, wr.heap.size = p3 := ⟨_, rfl⟩
   rw [hp3] at Y HLT
   simp only [hp3]
   have HP3 := h! hp3
   clear hp3
   obtain ⟨x0, x1, x2⟩ := box_sk (BX.out.below HB3.out BX.out.lt)
   have y0 := Y.out.cell 0
   have y1 := Y.out.cell 1
   have y2 := Y.out.cell 2
   have y3 := Y.out.cell 3
   have y4 := Y.out.cell 4
   have y5 := Y.out.cell 5
   have y6 := Y.out.cell 6
   have y7 := Y.out.cell 7
   have y8 := Y.out.cell 8
   have y9 := Y.out.cell 9
   have y10 := Y.out.cell 10
   have y11 := Y.out.cell 11
   have z0 := (HPG.out.below HB3.out HPG.out.lt).cell 0
   simp at y0 y1 y2 y3 y4 y5 y6 y7 y8 y9 y10 y11 z0
   go_wp2_with fail
   refine (KA.out _ HB3.out).mono ?_
   rintro e w4 ⟨v, vm, rfl, ⟨vw6, vd6, rfl, k1, k2⟩, km, hb4⟩
   clear x0 x1 x2 y0 y1 y2 y3 y4 y5 y6 y7 y8 y9 y10 y11 z0 KA
   by_cases hp : (KM.putF (stA g cs k) g xx).2.2 = true
   rotate_left
   ·have HO := h! (one_no hp)
    have hR2 : RR.2.2 = 9 := by rw [HRR.out, ap_no HM.out hg HCM.out hp]
    rw [hR2]
    obtain ⟨A6, c6, rfl, _⟩ := k1.g
    obtain ⟨B6, d6, rfl, _, _⟩ := own_form k2
    have HBB := h! (bmore HB3.out hb4 n!)
    clear k1 k2 km hb4 hp hR2
    unfold vsk
    go_upto_region 5 with (fail)
    have HBC := h! (bmore HBB.out ((Below.refl w4.heap.size w4).alloc n! (.cells #[.int .i64 RR.1.c, .slice A6 RR.1.ws.length c6, .slice B6 RR.1.ds.length d6] 39)) n!)
    go_wp2_with fail
    go_roundw
    case rel => exact ⟨k + 1, X, _, _, by omega, by go_num, h! (HP.out.skip HS.out HE.out HO.out HBC.out)⟩
    case measure => simp [intOf]; omega
   ·have hR2 : RR.2.2 = 0 := by rw [HRR.out, ap_yes HM.out hg HCM.out hp]
    have hR1 : RR.1 = (KM.putF (stA g cs k) g xx).1 := by rw [HRR.out, ap_yes HM.out hg HCM.out hp]
    have hR3 : RR.2.1 = (KM.putF (stA g cs k) g xx).2.1 := by rw [HRR.out, ap_yes HM.out hg HCM.out hp]
    rw [hR2]
    have HPP := h! hp
    rw [hR3] at km
    rw [hR1] at k1 k2
    rw [hR1]
    obtain ⟨S2, hS2⟩ : ∃ S2, S2 = (KM.putF (stA g cs k) g xx).1 := ⟨_, rfl⟩
    rw [← hS2] at k1 k2
    rw [← hS2]
    have HS2 := h! hS2
    obtain ⟨O2, hO2⟩ : ∃ O2, O2 = (KM.putF (stA g cs k) g xx).2.1 := ⟨_, rfl⟩
    rw [← hO2] at km
    have HO2 := h! hO2
    obtain ⟨A7, c7, rfl, _⟩ := km.g
    have K1 := h! k1
    have K2 := h! k2
    have KM_ := h! km
    obtain ⟨A6, c6, rfl, _⟩ := k1.g
    obtain ⟨B6, d6, rfl, _, _⟩ := own_form k2
    have HBB := h! (bmore HB3.out hb4 n!)
    have HB4 := h! hb4
    clear k1 k2 km hb4 hp hR2 hR1 hR3 hS2 hO2
    unfold vsk
    have hal := ((Below.refl w4.heap.size w4).alloc n! (.cells #[.int .i64 S2.c, .slice A6 S2.ws.length c6, .slice B6 S2.ds.length d6] 39))
    have Z := h! (Box.new w4 39 #[.int .i64 S2.c, .slice A6 S2.ws.length c6, .slice B6 S2.ds.length d6])
    have HBC := h! (bmore HBB.out hal n!)
    have HB5 := h! hal
    clear hal
    go_upto_region 5 with (fail)
    generalize w4.alloc (.cells #[.int .i64 S2.c, .slice A6 S2.ws.length c6, .slice B6 S2.ds.length d6] 39) = w5 at Z HBC HB5 ⊢
    obtain ⟨p4, hp4⟩ : ∃ p4, w4.heap.size = p4 := ⟨_, rfl⟩
    rw [hp4] at Z
    simp only [hp4]
    have HP4 := h! hp4
    clear hp4
    have HPM := h! (HP.out.more HS.out HBC.out)
    have HXB := h! (show ∀ q, X q → q < w3.heap.size from fun q hq => by have := HS.out.lt _ _ _ HP.out.r q hq; have := HB3.out.size; omega)
    have HSO := h! (show SkO w5 w3.heap.size (vsk (KM.putF (stA g cs k) g xx).1.c (.slice A6 S2.ws.length c6) (.slice B6 S2.ds.length d6)) (KM.putF (stA g cs k) g xx).1 from by rw [← HS2.out]; exact SkO.below ⟨_, _, rfl, K1.out, K2.out⟩ HB5.out)
    have HGO := h! (show Calls Tryz.prog N (#[.agg #[.int .u8 ck, .int .i64 ai, .slice A ag.length c, .int .i64 at_, .string ak, .string ab, .int .i64 bid, .int .i64 btm, .slice B bms.length d, .int .i64 btp, .int .i64 bwh, .int .i64 bn, .int .i64 sc, .slice A5 n5 a5, .slice B5 m5 b5, .int .i64 S2.c, .slice A6 S2.ws.length c6, .slice B6 S2.ds.length d6, .slice A7 O2.length c7]] ++ caps) w5 (fun x W' => x = .returned (.tuple #[]) ∧ ∃ X', R (k + 1) X' W' ∧ KpX X w5 W' ∧ ∀ q, X' q → X q ∨ w5.heap.size ≤ q) from by
     have q := HS.out.go k ⟨A, c, B, d, xx⟩ X w5 (.slice A5 n5 a5) (.slice B5 m5 b5) (.slice A6 S2.ws.length c6) (.slice B6 S2.ds.length d6) (.slice A7 O2.length c7) w3.heap.size HE.out HPP.out HPM.out.r HPM.out.b0 HRA.out.1 HRA.out.2
      (by rw [← HSC.out]; exact HSK.out _ HBC.out) HXB.out (by have := HB4.out.size; have := HB5.out.size; omega) (Nat.le_trans HP.out.kp.size HB3.out.size) HSO.out (by rw [← HO2.out]; exact KM_.out.below HB5.out)
     unfold scells at q
     rw [← HSC.out, ← HS2.out] at q
     simp only [HXX.out] at q
     exact q)
    obtain ⟨x0, x1, x2⟩ := box_sk (HPM.out.bx)
    rw [← HSC.out] at x0
    obtain ⟨z0, z1, z2⟩ := box_sk Z.out
    have Y5 := (Y.out.below (bmore (Below.refl _ _) HB4.out n!) Y.out.lt).below HB5.out (by have := Y.out.lt; have := HB4.out.size; omega)
    have y0 := Y5.cell 0
    have y1 := Y5.cell 1
    have y2 := Y5.cell 2
    have y3 := Y5.cell 3
    have y4 := Y5.cell 4
    have y5 := Y5.cell 5
    have y6 := Y5.cell 6
    have y7 := Y5.cell 7
    have y8 := Y5.cell 8
    have y9 := Y5.cell 9
    have y10 := Y5.cell 10
    have y11 := Y5.cell 11
    simp at y0 y1 y2 y3 y4 y5 y6 y7 y8 y9 y10 y11
    clear Y5
    have hen := HS.out.en
    go_wp2_with fail
    refine (HGO.out).mono ?_
    clear x0 x1 x2 z0 z1 z2 y0 y1 y2 y3 y4 y5 y6 y7 y8 y9 y10 y11 hen HGO
    rintro e w6 ⟨rfl, X', hR, hK, hX⟩
    have HST := h! (show PlR g cs W0 w X0 R p (k + 1) X' (.slice A6 S2.ws.length c6) (.slice B6 S2.ds.length d6) (((w6.setCell ⟨p, 0, none⟩ (.int .i64 S2.c)).setCell ⟨p, 1, none⟩ (.slice A6 S2.ws.length c6)).setCell ⟨p, 2, none⟩ (.slice B6 S2.ds.length d6)) from by
     have q := HPM.out.step (q := 0) HS.out HX.out HW.out HE.out HPP.out hR hK hX HSO.out HXB.out (by have := BX.out.lt; have := HB3.out.size; omega)
     rw [← HS2.out] at q
     exact q)
    obtain ⟨z0, z1, z2⟩ := box_sk (hK.box Z.out (fun q => by have := HS.out.lt _ _ _ HP.out.r _ q; have := HB3.out.size; have := HB4.out.size; have := HP4.out; omega))
    obtain ⟨x0, x1, x2, f0, f1, f2⟩ := (hK.box HPM.out.bx HP.out.xp).three
    clear hR hK hX
    go_wp2_with fail
    go_roundw
    case rel => exact ⟨k + 1, X', _, _, by omega, by go_num, HST⟩
    case measure => simp [intOf]; omega
  ·obtain rfl : n = k := by omega
   go_wp2_with fail
   go_end0
   exact ⟨rfl, X, by rw [HLN.out]; exact HP.out.r, HP.out.kp, HP.out.xs⟩
def asked (g : Int) (l : List ByteArray) : Int := if 0 ≤ g ∧ g < 4 then LM.chk l else 2
theorem asked_cases (g : Int) (l : List ByteArray) : (asked g l = 2 ∧ ¬ (0 ≤ g ∧ g < 4)) ∨ (asked g l = LM.chk l ∧ 0 ≤ g ∧ g < 4) := by
 unfold asked
 by_cases h : 0 ≤ g ∧ g < 4
 ·rw [if_pos h]; exact .inr ⟨rfl, h⟩
 ·rw [if_neg h]; exact .inl ⟨rfl, h⟩
theorem asked_zero {g : Int} {l : List ByteArray} (h : asked g l = 0) : (0 ≤ g ∧ g < 4) ∧ LM.chk l = 0 := by
 rcases asked_cases g l with ⟨h1, _⟩ | ⟨h1, h2⟩
 ·rw [h1] at h; exact absurd h (by decide)
 ·exact ⟨h2, by rw [← h1]; exact h⟩
theorem log_may {l : List ByteArray} (h : LM.chk l = 0) : (∀ c ∈ LM.cmds l, CM.may c) ∧ (LM.cmds l).length ≤ 200 := by
 refine ⟨fun x hx => ?_, by rw [LM.cmds, List.length_map]; exact (LM.chk_zero.1 h).1⟩
 obtain ⟨s, hs, rfl⟩ := List.mem_map.1 hx
 exact (LM.cm_may ((LM.chk_zero.1 h).2 s hs)).1
def playR (g : Int) (l : List ByteArray) : Sk × List Mg × Int := if asked g l = 0 then ((OM.play g (LM.cmds l)).1, (OM.play g (LM.cmds l)).2.1, 0) else (KM.zero, [], asked g l)
def PoQ (r : Int) (g : Int) (cs : List Cm) (w : World) (x : Ending) (w' : World) : Prop :=
 Below w.heap.size w w' ∧ ((r ≠ 0 ∧ x = .returned (.tuple #[.nilFunc, .int .i64 r])) ∨ (r = 0 ∧ ∃ v, x = .returned (.tuple #[v, .int .i64 0]) ∧ PlrIs w' v g cs))
def PoIs (g : Int) (l : List ByteArray) (w : World) : Ending → World → Prop := PoQ (asked g l) g (LM.cmds l) w
theorem poQ_bad {r g : Int} {cs : List Cm} {w w' : World} (h : r ≠ 0) (hb : Below w.heap.size w w') : PoQ r g cs w (.returned (.tuple #[.nilFunc, .int .i64 r])) w' := ⟨hb, .inl ⟨h, rfl⟩⟩
theorem poQ_ok {g : Int} {cs : List Cm} {w w' : World} {v : Value} (hb : Below w.heap.size w w') (h : PlrIs w' v g cs) : PoQ 0 g cs w (.returned (.tuple #[v, .int .i64 0])) w' := ⟨hb, .inr ⟨rfl, v, rfl, h⟩⟩
theorem playerOf_any (g : Int) (A : Option Addr) (n c : Nat) (l : List ByteArray) (w : World) (h : TxIs w A n c l) : Calls Tryz.prog 30 #[.int .i64 g, .slice A n c] w (PoIs g l w) := by
 have HC := h! (fun W (hb : Below w.heap.size w W) => pcommands_any A n c l W (h.below hb))
 have HA := h! (asked_cases g l)
 unfold PoIs
 obtain ⟨r, hr⟩ : ∃ r, r = asked g l := ⟨_, rfl⟩
 rw [← hr] at HA ⊢
 unfold CoIs at HC
 obtain ⟨y, hy⟩ : ∃ y, y = LM.chk l := ⟨_, rfl⟩
 rw [← hy] at HA HC
 obtain ⟨cs, hcs⟩ : ∃ cs, cs = LM.cmds l := ⟨_, rfl⟩
 rw [← hcs] at HC ⊢
 clear h hr hy hcs
 obtain ⟨p, hp⟩ : ∃ p, w.heap.size = p := ⟨_, rfl⟩
 have HB := h! (show Below w.heap.size w (w.alloc (.cells #[.int .i64 g] 3)) from (Below.refl _ _).alloc n! _)
 have X := h! (Box.new_at (w := w) (t := 3) (cs := #[.int .i64 g]) p hp)
 go_enter Tryz.func30, Tryz.ntmps30
 go_upto_region 1 with (fail)
 generalize w.alloc (.cells #[.int .i64 g] 3) = w1 at HB X ⊢
 have x0 := X.out.cell 0
 simp at x0
 rcases HA.out with ⟨rfl, h2⟩ | ⟨rfl, h2⟩
 ·by_cases h3 : g < 0
  ·go_wp2_with fail
   go_ret2
   exact poQ_bad (by decide) HB.out
  ·have h4 : 4 ≤ g := by omega
   go_wp2_with fail
   go_ret2
   exact poQ_bad (by decide) HB.out
 ·have h3 : ¬ g < 0 := by omega
  have h4 : ¬ 4 ≤ g := by omega
  go_wp2_with fail
  refine (HC.out _ HB.out).mono ?_
  rintro e w2 ⟨hb, ⟨h0, rfl⟩ | ⟨h0, v, rfl, hv⟩⟩
  ·have hk : (r == 0) = false := by simpa using h0
   have HB2 := h! (bmore HB.out hb n!)
   clear hb
   go_wp2_with fail
   go_ret2
   exact poQ_bad h0 (bmore HB2.out ((Below.refl _ _).alloc n! _) n!)
  ·subst h0
   obtain ⟨q, hq⟩ : ∃ q, w2.heap.size = q := ⟨_, rfl⟩
   have HB2 := h! (bmore HB.out hb n!)
   have X2 := h! (X.out.below hb X.out.lt)
   obtain ⟨A2, n2, c2, rfl⟩ : ∃ A2 n2 c2, v = .slice A2 n2 c2 := by
    obtain ⟨_, _, ho, _⟩ := hv
    obtain ⟨A2, c2, e, _⟩ := own_form ho
    exact ⟨_, _, _, e⟩
   have HV := h! hv
   clear hb hv
   go_wp2_with fail
   go_ret2
   exact poQ_ok (bmore HB2.out ((Below.refl _ _).alloc n! _) n!) ⟨q, p, _, _, rfl, Box.new_at _ hq, X2.out.alloc _, HV.out.below ((Below.refl _ _).alloc n! _)⟩
theorem times_len (g : Int) : ∀ r : List Cm, (OM.play g r.reverse).2.2.length ≤ r.length
 | [] => Nat.le_refl _
 | c :: r => by
  rw [List.reverse_cons, OM.play_snoc]
  have := times_len g r
  show ((OM.play g r.reverse).2.2 ++ OM.tm1 (OM.play g r.reverse).1 (OM.one (OM.play g r.reverse).1 g c).1 c).length ≤ _
  have h1 : (OM.tm1 (OM.play g r.reverse).1 (OM.one (OM.play g r.reverse).1 g c).1 c).length ≤ 1 := by unfold OM.tm1; split <;> simp
  rw [List.length_append, List.length_cons]
  omega
theorem fins_len (g : Int) : ∀ r : List Cm, (OM.fins g r.reverse).length ≤ r.length
 | [] => Nat.le_refl _
 | c :: r => by
  rw [List.reverse_cons, OM.fins_snoc, List.length_append, List.length_cons]
  have := fins_len g r
  have h1 : (OM.fin1 (OM.play g r.reverse).1 (OM.one (OM.play g r.reverse).1 g c).1 c).length ≤ 1 := by unfold OM.fin1; split <;> simp
  omega
theorem told_few (g : Int) (l : List Cm) : (OM.play g l).2.2.length ≤ l.length ∧ (OM.fins g l).length ≤ l.length := by
 have h1 := times_len g l.reverse
 have h2 := fins_len g l.reverse
 rw [List.reverse_reverse, List.length_reverse] at h1 h2
 exact ⟨h1, h2⟩
structure RTe (g : Int) (cs : List Cm) (W0 : World) (b p : Nat) (k : Nat) (X : Nat → Prop) (W : World) : Prop where
 x : ∃ (C : Option Addr) (i j : Nat) (D : Option Addr) (u v : Nat), Box W p 75 #[.slice C i j, .map none, .slice D u v] ∧ KX KW W0 W b 78 (.slice C i j) ((OM.play g (cs.take k)).2.2.map toWt) ∧ CX W0 W b (.slice D u v) (OM.fins g (cs.take k)) ∧
  X = fun q => q = p ∨ (Value.slice C i j).ownBlock = some q ∨ (Value.slice D u v).ownBlock = some q
 k : k ≤ cs.length
section
variable {g : Int} {cs : List Cm} {W0 W W' : World} {b p k : Nat} {c : Cm} {C : Option Addr} {i j : Nat} {D : Option Addr} {u v : Nat}
theorem tm_next (h : cs[k]? = some c) (hg : 0 ≤ g ∧ g < 4) (hcs : ∀ c ∈ cs, CM.may c) (hp : (KM.putF (stA g cs k) g c).2.2 = true) :
  (OM.play g (cs.take (k + 1))).2.2 = (OM.play g (cs.take k)).2.2 ++ (if decide (c.k = 1 ∧ stA g cs k ≠ (KM.putF (stA g cs k) g c).1) = true then [((KM.putF (stA g cs k) g c).1.c, c.m)] else []) ∧
  OM.fins g (cs.take (k + 1)) = OM.fins g (cs.take k) ++ (if decide (c.k = 2 ∧ stA g cs k ≠ (KM.putF (stA g cs k) g c).1) = true then [c] else []) := by
 have hI := OM.inv (l := cs.take k) hg fun c h => hcs c (List.mem_of_mem_take h)
 have hm := OM.tm1_is hI.m hg (hcs c (List.mem_of_getElem? h))
 have ho := one_ok hp
 unfold stA at *
 rw [ho] at hm
 rw [List.take_add_one, h]
 have e : cs.take k ++ (some c).toList = cs.take k ++ [c] := rfl
 rw [e, OM.times_snoc, OM.fins_snoc, OM.play_snoc]
 unfold OM.nx
 simp only [ho]
 rw [hm]
 unfold OM.fin1
 have hiff : ∀ a b : Sk, (b ≠ a) = (a ≠ b) := fun a b => by rw [ne_comm]
 simp only [decide_eq_true_eq, hiff (OM.play g (cs.take k)).1]
 exact ⟨by first | rfl | trivial, by first | rfl | trivial⟩
theorem rTe_same {X : Nat → Prop} (h : RTe g cs W0 b p k X W) (hc : cs[k]? = some c) (h1 : (OM.play g (cs.take (k + 1))).2.2 = (OM.play g (cs.take k)).2.2) (h2 : OM.fins g (cs.take (k + 1)) = OM.fins g (cs.take k)) (hb : Below W.heap.size W W') : RTe g cs W0 b p (k + 1) X W' := by
 obtain ⟨⟨C, i, j, D, u, v, k1, k2, k3, rfl⟩, _⟩ := h
 exact ⟨⟨C, i, j, D, u, v, k1.below hb k1.lt, by rw [h1]; exact k2.below hb, by rw [h2]; exact k3.below hb, rfl⟩, (List.getElem?_eq_some_iff.1 hc).1⟩
theorem rTe_b {Wa W3 : World} {G : Option Addr} {x y : Nat} (hc : cs[k]? = some c) (k1 : Box W p 75 #[.slice C i j, .map none, .slice D u v]) (k3 : CX W0 W b (.slice D u v) (OM.fins g (cs.take k)))
  (k2 : KX KW W0 W b 78 (.slice C i j) ((OM.play g (cs.take k)).2.2.map toWt)) (hb : Below W.heap.size W Wa) (h1 : KX KW W0 W3 b 78 (.slice G x y) ((OM.play g (cs.take (k + 1))).2.2.map toWt)) (h2 : OM.fins g (cs.take (k + 1)) = OM.fins g (cs.take k))
  (hgr : Wa.grownBy W3 (Value.slice C i j).ownBlock) (hob : (Value.slice G x y).ownBlock = (Value.slice C i j).ownBlock ∨ (Value.slice G x y).ownBlock = some Wa.heap.size) :
  ∃ X', RTe g cs W0 b p (k + 1) X' (W3.setCell ⟨p, 0, none⟩ (.slice G x y)) ∧ KpX (fun q => q = p ∨ (Value.slice C i j).ownBlock = some q ∨ (Value.slice D u v).ownBlock = some q) W (W3.setCell ⟨p, 0, none⟩ (.slice G x y)) ∧
   ∀ q, X' q → (q = p ∨ (Value.slice C i j).ownBlock = some q ∨ (Value.slice D u v).ownBlock = some q) ∨ W.heap.size ≤ q := by
 have a1 := k1.below hb k1.lt
 have a2 := k2.below hb
 have a3 := k3.below hb
 have q2 : Kept (fun e => e = 78) Wa W3 := by
  obtain ⟨es, _, ho, _⟩ := a2
  exact Kept.grown ho rfl hgr
 have b1 := q2.box _ _ _ (by decide) a1
 have q3 : Kept (fun e => e = 75) W3 (W3.setCell ⟨p, 0, none⟩ (.slice G x y)) := Kept.set (S := fun e => e = 75) b1 rfl _
 refine ⟨_, ⟨⟨G, x, y, D, u, v, ?_, h1.kept q3 (by decide), ?_, rfl⟩, (List.getElem?_eq_some_iff.1 hc).1⟩, ⟨?_, ?_, ?_, ?_, fun q hq hn => ?_⟩, fun q hq => ?_⟩
 ·have := b1.stored 0 (.slice G x y)
  simpa using this
 ·rw [h2]; exact (a3.kept q2 (by decide)).kept q3 (by decide)
 ·exact (q3.os.trans q2.os).trans hb.os
 ·exact (q3.tape.trans q2.tape).trans hb.tape
 ·exact (q3.output.trans q2.output).trans hb.output
 ·exact Nat.le_trans (Nat.le_trans hb.size q2.size) q3.size
 ·have n1 : q ≠ p := fun k => hn (.inl k)
  have n3 : some q ≠ (Value.slice C i j).ownBlock := fun k => hn (.inr (.inl k.symm))
  rw [Below.heap_setCell _ ⟨p, 0, none⟩ _ q n1, hgr.block q (Nat.lt_of_lt_of_le hq hb.size) n3]
  exact hb.block q hq
 ·rcases hq with k | k | k
  ·exact .inl (.inl k)
  ·rcases hob with z | z
   ·exact .inl (.inr (.inl (z.symm.trans k)))
   ·rw [z] at k; injection k with k; exact .inr (by have := hb.size; omega)
  ·exact .inl (.inr (.inr k))
theorem rTe_f {Wa W3 : World} {G : Option Addr} {x y : Nat} (hc : cs[k]? = some c) (k1 : Box W p 75 #[.slice C i j, .map none, .slice D u v]) (k3 : CX W0 W b (.slice D u v) (OM.fins g (cs.take k)))
  (k2 : KX KW W0 W b 78 (.slice C i j) ((OM.play g (cs.take k)).2.2.map toWt)) (hb : Below W.heap.size W Wa) (h1 : CX W0 W3 b (.slice G x y) (OM.fins g (cs.take (k + 1)))) (h2 : (OM.play g (cs.take (k + 1))).2.2 = (OM.play g (cs.take k)).2.2)
  (hgr : Wa.grownBy W3 (Value.slice D u v).ownBlock) (hob : (Value.slice G x y).ownBlock = (Value.slice D u v).ownBlock ∨ (Value.slice G x y).ownBlock = some Wa.heap.size) :
  ∃ X', RTe g cs W0 b p (k + 1) X' (W3.setCell ⟨p, 2, none⟩ (.slice G x y)) ∧ KpX (fun q => q = p ∨ (Value.slice C i j).ownBlock = some q ∨ (Value.slice D u v).ownBlock = some q) W (W3.setCell ⟨p, 2, none⟩ (.slice G x y)) ∧
   ∀ q, X' q → (q = p ∨ (Value.slice C i j).ownBlock = some q ∨ (Value.slice D u v).ownBlock = some q) ∨ W.heap.size ≤ q := by
 have a1 := k1.below hb k1.lt
 have a2 := k2.below hb
 have a3 := k3.below hb
 have q2 : Kept (fun e => e = 91) Wa W3 := by
  obtain ⟨es, _, ho, _⟩ := a3
  exact Kept.grown ho rfl hgr
 have b1 := q2.box _ _ _ (by decide) a1
 have q3 : Kept (fun e => e = 75) W3 (W3.setCell ⟨p, 2, none⟩ (.slice G x y)) := Kept.set (S := fun e => e = 75) b1 rfl _
 refine ⟨_, ⟨⟨C, i, j, G, x, y, ?_, ?_, h1.kept q3 (by decide), rfl⟩, (List.getElem?_eq_some_iff.1 hc).1⟩, ⟨?_, ?_, ?_, ?_, fun q hq hn => ?_⟩, fun q hq => ?_⟩
 ·have := b1.stored 2 (.slice G x y)
  simpa using this
 ·rw [h2]; exact (a2.kept q2 (by decide)).kept q3 (by decide)
 ·exact (q3.os.trans q2.os).trans hb.os
 ·exact (q3.tape.trans q2.tape).trans hb.tape
 ·exact (q3.output.trans q2.output).trans hb.output
 ·exact Nat.le_trans (Nat.le_trans hb.size q2.size) q3.size
 ·have n1 : q ≠ p := fun k => hn (.inl k)
  have n3 : some q ≠ (Value.slice D u v).ownBlock := fun k => hn (.inr (.inr k.symm))
  rw [Below.heap_setCell _ ⟨p, 2, none⟩ _ q n1, hgr.block q (Nat.lt_of_lt_of_le hq hb.size) n3]
  exact hb.block q hq
 ·rcases hq with k | k | k
  ·exact .inl (.inl k)
  ·exact .inl (.inr (.inl k))
  ·rcases hob with z | z
   ·exact .inl (.inr (.inr (z.symm.trans k)))
   ·rw [z] at k; injection k with k; exact .inr (by have := hb.size; omega)
end
end KP
namespace KP
open Go.RowKit CP TP LP
theorem asked16_any (g : Int) (A : Option Addr) (n c : Nat) (l : List ByteArray) (w : World) (h : TxIs w A n c l) :
  Calls Tryz.prog 45 #[.int .i64 g, .slice A n c] w (NumIs (asked g l) w) := by
 have HC := h! (fun W (hb : Below w.heap.size w W) => check13_any A n c l W (h.below hb))
 have HA := h! (asked_cases g l)
 obtain ⟨r, hr⟩ : ∃ r, r = asked g l := ⟨_, rfl⟩
 rw [← hr] at HA ⊢
 obtain ⟨y, hy⟩ : ∃ y, y = LM.chk l := ⟨_, rfl⟩
 rw [← hy] at HA HC
 clear h hr hy
 have HB := h! (Below.refl w.heap.size w)
 go_enter Tryz.func45, Tryz.ntmps45
 rcases HA.out with ⟨rfl, h2⟩ | ⟨rfl, h2⟩
 ·by_cases h3 : g < 0
  ·go_wp2_with fail
   go_ret
   exact ⟨rfl, HB.out⟩
  ·have h4 : 4 ≤ g := by omega
   go_wp2_with fail
   go_ret
   exact ⟨rfl, HB.out⟩
 ·have h3 : ¬ g < 0 := by omega
  have h4 : ¬ 4 ≤ g := by omega
  go_wp2_with fail
  refine (HC.out _ HB.out).mono ?_
  rintro e w2 ⟨rfl, hb⟩
  go_wp2_with fail
  go_ret
  exact ⟨rfl, hb⟩
end KP
end Go.Proofs.YteebeiaokfenmaaGreat
