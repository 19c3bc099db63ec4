/-
  Package order: areFinal. Conditions: what logs that may be gave times.
  Package order: Honest. Conditions: logs that read as rows of texts.
  What the walk of OrderAgrees stands on: the rows of deliveries, and what honest logs say of them. Conditions: as each theorem says.
  Package order: Final. Conditions: logs that read as rows of texts; a message that reads.
  What the walk of OrderFinal stands on: times told, and logs of which one has a command more. Conditions: as each theorem says.
-/
import Derived.Test.YteebeiaokfenmaaGreatK01
import Derived.Test.YteebeiaokfenmaaGreatK39
import Derived.Test.YteebeiaokfenmaaGreatK38
import Derived.Test.YteebeiaokfenmaaGreatK37
import Derived.Test.YteebeiaokfenmaaGreatK22
import Derived.Test.YteebeiaokfenmaaGreatK16
import Derived.Test.YteebeiaokfenmaaGreatK18
import Derived.Test.YteebeiaokfenmaaGreatK09
namespace Go.Proofs.YteebeiaokfenmaaGreat.KP
open Go.RowKit CP TP LP
open CM (Mg Cm)
open TM (Sp)
open KM (Wt Sk)
set_option linter.unusedVariables false
set_option linter.unusedSimpArgs false
set_option maxRecDepth 100000
theorem fins_mem {g : Int} {l : List Cm} {c : Cm} (h : c ∈ OM.fins g l) : c ∈ l := by
 obtain ⟨k, h1, _⟩ := OM.mem_fins.1 h
 exact List.mem_of_getElem? h1
theorem lg_mem {L : List (List Cm)} {g : Nat} (hg : g < L.length) : OM.lg L g ∈ L := by
 rw [OM.lg_at (List.getElem?_eq_getElem hg)]
 exact List.getElem_mem hg
theorem fdm_ok {L : List (List Cm)} (hL : OM.Logs L) {g : Nat} (hg : g < L.length) (id : Int) : (∀ x ∈ (OM.fdm (OM.tg L g) id).gs, 0 ≤ x) ∧ i64In (OM.fdm (OM.tg L g) id).id := by
 unfold OM.fdm
 rcases hf : OM.fd (OM.tg L g) id with _ | p
 ·exact ⟨fun x hx => by simp [CM.mz] at hx, by unfold i64In; simp [CM.mz]⟩
 ·have hp := (OM.fd_some hf).1
  exact ⟨fun x hx => ((OM.mg_groups ((hL.inv2 hg).tm p hp).2.2.2.1).2 x hx).1, (AlIs.facts (w := default) (A := none) hL hg).2 p hp⟩
set_option maxHeartbeats 4000000 in
theorem areFinal_any (A : Option Addr) (L : List (List Cm)) (w : World) (h : AlIs w A L) (hL : OM.Logs L) (h200 : ∀ l ∈ L, l.length ≤ 200) :
  Calls Tryz.prog 39 #[.slice A L.length L.length] w fun e w' => ∃ b : Bool, e = .returned (.bool b) ∧ (b = true ↔ OM.finB L) ∧ Below w.heap.size w w' := by
 obtain ⟨n, hn⟩ : ∃ n, n = L.length := ⟨_, rfl⟩
 have KT := h! (fun W (hb : Below w.heap.size w W) vm m (hm : MgIs W vm m) hg hid => finalTime_any A L.length L vm m W (h.below hb) hL hm hg hid)
 rw [← hn] at KT ⊢
 have HN := h! hn
 have H := h! h
 have HL := h! hL
 have H2 := h! h200
 have hn4 : n ≤ 4 := by have := hL.1; omega
 clear h hL hn h200
 go_enter Tryz.func39, Tryz.ntmps39
 go_wp2_with fail
 go_loopw [13] (fun i wr => ∃ g : Nat, g ≤ n ∧ i = .int .i64 g ∧ Below w.heap.size w wr ∧ Hid (∀ g' : Nat, g' < g → ∀ c ∈ OM.fins g' (OM.lg L g'), OM.lastF L (OM.fdm (OM.tg L g') c.id) = (c.tm, true))) (fun i _ => n - (intOf i).toNat)
 case atStart => exact ⟨0, by omega, rfl, Below.refl _ _, h! fun g' hg => absurd hg (by omega)⟩
 case round =>
  obtain ⟨g, hgn, rfl, hb, HG⟩ := hrel
  have HB := h! hb
  by_cases hlt : g < n
  ·have hgL : g < L.length := by have := HN.out; omega
   obtain ⟨bl, o, A1, n1, c1, b1, B1, m1, d1, rfl, hbl, z0, z1, z2, hto⟩ := H.out g hgL
   have HTO := h! (hto.below hb)
   have hkr := hto
   obtain ⟨_, _, _, _, _, _, _, e1, _, _, hcr⟩ := hkr
   injection e1 with e1
   injection e1 with e1
   injection e1 with _ e1
   injection e1 with _ e1
   injection e1 with e2 _
   injection e2 with e3 e4 e5
   subst e3 e4 e5
   obtain ⟨F, hF⟩ : ∃ F, F = OM.fins g (OM.lg L g) := ⟨_, rfl⟩
   rw [← hF] at hcr
   have HFF := h! hF
   obtain ⟨es, hes, hRow, hRs⟩ := hcr.below hb
   obtain ⟨AA, cap, eA, hAt⟩ := hRow.any
   injection eA with e1 hm1 e3
   subst e1 e3
   have hm63 : m1 ≤ 9223372036854775807 := by
    have h1 := (told_few g (OM.lg L g)).2
    rw [← hF, ← hes, List.length_map] at h1
    have h2 := H2.out _ (lg_mem hgL)
    omega
   have HES := h! hes
   have HM1 := h! hm1
   have HAT := h! hAt
   have HRS := h! hRs
   have HGL := h! hgL
   have x0 := (hb.cell (p := ⟨bl, o + g * 3, none⟩) hbl).trans z0
   have x1 := (hb.cell (p := ⟨bl, o + g * 3 + 1, none⟩) hbl).trans z1
   have x2 := (hb.cell (p := ⟨bl, o + g * 3 + 2, none⟩) hbl).trans z2
   have hg0 : (0 : Int) ≤ (g : Int) := by omega
   have hgn2 : (g : Int) < (n : Int) := by omega
   have hnd := (AlIs.facts (w := w) (A := none) HL.out hgL).1
   have HND := h! hnd
   obtain ⟨T, hT⟩ : ∃ T, T = OM.tg L g := ⟨_, rfl⟩
   rw [← hT] at HTO HND
   rw [← hF] at HTO
   have HTT := h! hT
   have HFM := h! (fun id => fdm_ok HL.out hgL id)
   rw [← hT] at HFM
   have HCM := h! (show ∀ c ∈ F, CM.may c from fun c hc => HL.out.2 _ (lg_mem hgL) c (fins_mem (by rw [← hF]; exact hc)))
   have HAL := h! (show Below wr.heap.size wr (wr.alloc (.cells #[.slice A1 n1 c1, .map (some b1), .slice B1 m1 d1] 75)) from (Below.refl _ _).alloc n! _)
   have X := h! (Box.new wr 75 #[.slice A1 n1 c1, .map (some b1), .slice B1 m1 d1])
   have HBB := h! (hb.size)
   clear z0 z1 z2 hto hm1 hb hbl hgL hnd hT hF hes hRow hRs hAt
   go_upto_region 4 with (fail)
   clear x0 x1 x2
   generalize wr.alloc (.cells #[.slice A1 n1 c1, .map (some b1), .slice B1 m1 d1] 75) = w1 at HAL X ⊢
   obtain ⟨p4, hp4⟩ : ∃ p4, wr.heap.size = p4 := ⟨_, rfl⟩
   rw [hp4] at X
   try simp only [hp4]
   clear hp4
   have HB1 := h! (bmore HB.out HAL.out n!)
   have x2 := X.out.cell 2
   simp at x2
   go_wp2_with fail
   clear x2
   go_loopw [20] (fun i wr => ∃ j : Nat, j ≤ m1 ∧ i = .int .i64 j ∧ Below w1.heap.size w1 wr ∧ Hid (∀ c ∈ F.take j, OM.lastF L (OM.fdm T c.id) = (c.tm, true))) (fun i _ => m1 - (intOf i).toNat)
   case atStart => exact ⟨0, by omega, rfl, Below.refl _ _, h! (by simp)⟩
   case round =>
    obtain ⟨j, hjm, rfl, hb, HJ⟩ := hrel
    have HB2 := h! hb
    have HBW := h! (bmore HB1.out hb n!)
    have HBR := h! (bmore HAL.out hb n!)
    by_cases hlt2 : j < m1
    ·obtain ⟨e, he⟩ : ∃ e, es[j]? = some e := ⟨_, List.getElem?_eq_getElem (by have := HM1.out; omega)⟩
     have hc : F[j]? = some e.x := by rw [← HES.out, List.getElem?_map, he]; rfl
     have HC := h! hc
     have hmay := HCM.out e.x (List.mem_of_getElem? hc)
     have hfit := (cm_fit hmay).1
     have hidc : i64In e.x.id := hfit.2.2.1
     obtain ⟨bl2, off, e0, hbl2, hat⟩ := HAT.out j e he
     subst e0
     obtain ⟨y0, y1, y2, y3, y4, y5, y6, y7, y8, y9, y10, y11⟩ := hat.below hbl2 HBR.out
     have HNX := h! (show OM.lastF L (OM.fdm T e.x.id) = (e.x.tm, true) → ∀ c ∈ F.take (j + 1), OM.lastF L (OM.fdm T c.id) = (c.tm, true) from fun k c hc2 => by
      rw [List.take_add_one, hc] at hc2
      rcases List.mem_append.1 hc2 with q | q
      ·exact HJ.out c q
      ·obtain rfl := List.mem_singleton.1 q
       exact k)
     have HNO := h! (show OM.lastF L (OM.fdm T e.x.id) ≠ (e.x.tm, true) → ¬ OM.finB L from fun k1 k => k1 (by
      have := k g HGL.out e.x (by rw [← HFF.out]; exact List.mem_of_getElem? hc)
      rwa [← HTT.out] at this))
     have KF := h! (fun W (hb : Below wr.heap.size wr W) => pfind_any _ _ _ e.x.id wr W (HTO.out.below HBR.out) hb HND.out hidc)
     have HFO := h! (HFM.out e.x.id)
     obtain ⟨R, hR⟩ : ∃ R, R = OM.lastF L (OM.fdm T e.x.id) := ⟨_, rfl⟩
     rw [← hR] at HNX HNO
     have HR := h! hR
     clear he hc hmay hfit hidc hat hb hR
     obtain ⟨Ae, ce, Be, de, x⟩ := e
     obtain ⟨ck, ⟨ai, ag, at_, ak, ab⟩, bid, btm, bms, btp, bwh, bn⟩ := x
     simp only at y0 y1 y2 y3 y4 y5 y6 y7 y8 y9 y10 y11 HNX HNO KF HFO HR
     have hj0 : (0 : Int) ≤ (j : Int) := by omega
     have hjm2 : (j : Int) < (m1 : Int) := by omega
     have HAL2 := h! (show Below wr.heap.size wr (wr.alloc (.cells #[.int .u8 ck, .int .i64 ai, .slice Ae ag.length ce, .int .i64 at_, .string ak, .string ab, .int .i64 bid, .int .i64 btm, .slice Be bms.length de, .int .i64 btp, .int .i64 bwh, .int .i64 bn] 91)) from (Below.refl _ _).alloc n! _)
     have Y := h! (Box.new wr 91 #[.int .u8 ck, .int .i64 ai, .slice Ae ag.length ce, .int .i64 at_, .string ak, .string ab, .int .i64 bid, .int .i64 btm, .slice Be bms.length de, .int .i64 btp, .int .i64 bwh, .int .i64 bn])
     have X2 := h! (X.out.below HB2.out X.out.lt)
     go_upto_region 7 with (fail)
     clear y0 y1 y2 y3 y4 y5 y6 y7 y8 y9 y10 y11
     generalize wr.alloc (.cells #[.int .u8 ck, .int .i64 ai, .slice Ae ag.length ce, .int .i64 at_, .string ak, .string ab, .int .i64 bid, .int .i64 btm, .slice Be bms.length de, .int .i64 btp, .int .i64 bwh, .int .i64 bn] 91) = w3 at HAL2 Y ⊢
     obtain ⟨p6, hp6⟩ : ∃ p6, wr.heap.size = p6 := ⟨_, rfl⟩
     rw [hp6] at Y
     try simp only [hp6]
     clear hp6
     obtain ⟨u0, u1, u2⟩ := box_sk (X2.out.below HAL2.out X2.out.lt)
     have y6 := Y.out.cell 6
     simp at y6
     go_wp2_with fail
     refine (KF.out _ HAL2.out).mono ?_
     rintro e w5 ⟨bz, A8, c8, y, rfl, hb5, hrw, hcd⟩
     unfold vwt
     have hb25 := bmore HAL2.out hb5 n!
     have HY := h! (show y.m = OM.fdm T bid from by
      unfold OM.fdm
      rcases hcd with ⟨_, pp, hfd, rfl⟩ | ⟨_, hfd, rfl⟩
      ·rw [hfd]; rfl
      ·rw [hfd]; rfl)
     have HROW8 := h! (hrw.below hb25)
     have Y5 := h! (Y.out.below hb5 Y.out.lt)
     have HB6 := h! (bmore HB2.out hb25 n!)
     have HBW3 := h! (bmore HBW.out hb25 n!)
     clear u0 u1 u2 y6 hrw hb5 KF hb25 hcd
     obtain ⟨⟨bi, bg, bt, bk, bb⟩, ty, fy⟩ := y
     simp only at HY HROW8 ⊢
     have hal : Below w5.heap.size w5 (w5.alloc (.cells #[.int .i64 bi, .slice A8 bg.length c8, .int .i64 bt, .string bk, .string bb, .int .i64 ty, .bool fy] 78)) := b!
     have HAL5 := h! hal
     have Z := h! (Box.new w5 78 #[.int .i64 bi, .slice A8 bg.length c8, .int .i64 bt, .string bk, .string bb, .int .i64 ty, .bool fy])
     have Y6 := h! (Y5.out.below hal Y5.out.lt)
     have HBW5 := h! (bmore HBW3.out hal n!)
     have KTT := h! (fun W (hb : Below w5.heap.size w5 W) => show Calls Tryz.prog 36 #[.slice (some ⟨bl, o, none⟩) n n, .agg #[.int .i64 bi, .slice A8 bg.length c8, .int .i64 bt, .string bk, .string bb]] W (fun e w' => e = .returned (.tuple #[.int .i64 R.1, .bool R.2]) ∧ Below W.heap.size W w') from by
      rw [HR.out, ← HY.out]
      refine KT.out W (bmore HBW3.out hb n!) _ _ ⟨A8, c8, rfl, HROW8.out.below hb⟩ ?_ ?_
      ·rw [HY.out]; exact HFO.out.1
      ·rw [HY.out]; exact HFO.out.2)
     clear hal
     go_upto_region 8 with (fail)
     generalize w5.alloc (.cells #[.int .i64 bi, .slice A8 bg.length c8, .int .i64 bt, .string bk, .string bb, .int .i64 ty, .bool fy] 78) = w6 at HAL5 Z Y6 HBW5 ⊢
     generalize w5.heap.size = p7 at Z ⊢
     obtain ⟨u0, u1, u2, u3, u4, u5, u6⟩ := box_wt Z.out
     go_wp2_with fail
     refine (KTT.out _ HAL5.out).mono ?_
     rintro e w7 ⟨rfl, hb7⟩
     have HB7 := h! (bmore HB6.out (bmore HAL5.out hb7 n!) n!)
     have HBW7 := h! (bmore HBW5.out hb7 n!)
     have y7 := (Y6.out.below hb7 Y6.out.lt).cell 7
     simp at y7
     clear hb7 u0 u1 u2 u3 u4 u5 u6 KTT
     obtain ⟨r1, r2⟩ := R
     simp only at HNX HNO ⊢
     rcases r2 with _ | _
     ·have HF := h! (HNO.out (fun k => by injection k with _ k; cases k))
      go_wp2_with fail
      go_ret
      exact ⟨false, rfl, ⟨fun k => (by cases k), fun k => absurd k HF.out⟩, HBW7.out⟩
     ·by_cases hrt : r1 = btm
      ·have HF := h! (HNX.out (by rw [hrt]))
       have hbt : (r1 == btm) = true := by simpa using hrt
       clear hrt
       go_wp2_with fail
       go_roundw
       case rel => exact ⟨j + 1, by omega, by go_num, HB7.out, HF⟩
       case measure => simp [intOf]; omega
      ·have HF := h! (HNO.out (fun k => hrt (by injection k)))
       have hbt : (r1 == btm) = false := by simpa using hrt
       clear hrt
       go_wp2_with fail
       go_ret
       exact ⟨false, rfl, ⟨fun k => (by cases k), fun k => absurd k HF.out⟩, HBW7.out⟩
    ·obtain rfl : m1 = j := by omega
     have HF := h! (show ∀ g' : Nat, g' < g + 1 → ∀ c ∈ OM.fins g' (OM.lg L g'), OM.lastF L (OM.fdm (OM.tg L g') c.id) = (c.tm, true) from fun g' k2 => by
      by_cases e : g' < g
      ·exact HG.out g' e
      ·obtain rfl : g' = g := by omega
       have := HJ.out
       rw [List.take_of_length_le (by rw [← HES.out, List.length_map]; have := HM1.out; omega)] at this
       rw [← HFF.out, ← HTT.out]
       exact this)
     go_wp2_with fail
     go_roundw
     case rel => exact ⟨g + 1, by omega, by go_num, HBW.out, HF⟩
     case measure => simp [intOf]; omega
  ·obtain rfl : n = g := by omega
   go_wp2_with fail
   go_ret
   exact ⟨true, rfl, ⟨fun _ => fun g' k2 => HG.out g' (by have := HN.out; omega), fun _ => rfl⟩, HB.out⟩
end Go.Proofs.YteebeiaokfenmaaGreat.KP

namespace Go.Proofs.YteebeiaokfenmaaGreat.KP
open Go.RowKit CP TP LP SP
open CM (Mg Cm)
open TM (Sp)
open KM (Wt Sk)
set_option linter.unusedVariables false
set_option linter.unusedSimpArgs false
set_option maxRecDepth 100000
def HoL (r : Int) (P : Prop) (w : World) (e : Ending) (w' : World) : Prop := ∃ b : Bool, e = .returned (.tuple #[.bool b, .int .i64 r]) ∧ (b = true ↔ r = 0 ∧ P) ∧ Below w.heap.size w w'
def HoQ (ls : List (List ByteArray)) : World → Ending → World → Prop := HoL (allE ls) (OM.honest (cmL ls))
theorem hoL_no {r : Int} {P : Prop} {w w' : World} (h : ¬ (r = 0 ∧ P)) (hb : Below w.heap.size w w') : HoL r P w (.returned (.tuple #[.bool false, .int .i64 r])) w' := ⟨false, rfl, ⟨fun k => (by cases k), fun k => absurd k h⟩, hb⟩
theorem hoL_is {P : Prop} {b : Bool} {w w' : World} (h : b = true ↔ P) (hb : Below w.heap.size w w') : HoL 0 P w (.returned (.tuple #[.bool b, .int .i64 0])) w' := ⟨b, rfl, ⟨fun k => ⟨rfl, h.1 k⟩, fun k => h.2 k.2⟩, hb⟩
theorem cmL_len (ls : List (List ByteArray)) : (cmL ls).length = ls.length := by unfold cmL; rw [List.length_map]
theorem cmL_few {ls : List (List ByteArray)} (h : allE ls = 0) : ∀ l ∈ cmL ls, l.length ≤ 200 := fun l hl => by
 obtain ⟨x, hx, rfl⟩ := List.mem_map.1 hl
 exact (log_may ((allE_zero h).2.2 x hx)).2
set_option maxHeartbeats 2000000 in
theorem phonest16_any (A : Option Addr) (n c : Nat) (ls : List (List ByteArray)) (w : World) (h : LogsIs w A n c ls) (hs : ∀ l ∈ ls, ∀ t ∈ l, t.size ≤ maxLen) : Calls Tryz.prog 13 #[.slice A n c] w (HoQ ls w) := by
 have HP := h! (playersOf_any A n c ls w h hs)
 have HZ := h! (fun h0 => allE_zero (ls := ls) h0)
 have HFW := h! (fun h0 => cmL_few (ls := ls) h0)
 have HLN := h! (cmL_len ls)
 unfold HoQ
 obtain ⟨L, hL⟩ : ∃ L, L = cmL ls := ⟨_, rfl⟩
 rw [← hL] at HP HZ HFW HLN ⊢
 obtain ⟨r, hr⟩ : ∃ r, r = allE ls := ⟨_, rfl⟩
 rw [← hr] at HP HZ HFW ⊢
 obtain ⟨PH, hPH⟩ : ∃ PH, PH = OM.honest L := ⟨_, rfl⟩
 rw [← hPH]
 have HPH := h! hPH
 clear h hs hL hr hPH
 go_enter Tryz.func13, Tryz.ntmps13
 go_wp2_with fail
 refine (HP.out).mono ?_
 rintro e w2 ⟨hb, ⟨h0, rfl⟩ | ⟨h0, A2, c2, rfl, hps, _, _⟩⟩
 ·have hk : (r == 0) = false := by simpa using h0
  have HF := h! (hoL_no (P := PH) (w := w) (w' := w2) (fun k => absurd k.1 h0) hb)
  clear hb h0 HP HZ HFW
  go_wp2_with fail
  go_ret2
  exact HF.out
 ·subst h0
  have HLg := h! (HZ.out rfl).1
  have h4 : ls.length ≤ 4 := (HZ.out rfl).2.1
  have hpsB : PsIs w2 A2 L := hps
  have HTA := h! (show Calls Tryz.prog 37 #[.slice A2 ls.length c2] w2 (fun e w' => ∃ A', e = .returned (.slice A' ls.length ls.length) ∧ AlIs w' A' L ∧ Below w2.heap.size w2 w') from by
   have := tellAll_any A2 c2 L w2 hpsB HLg.out (HFW.out rfl)
   rwa [HLN.out] at this)
  have HB2 := h! hb
  have HFF := h! (HFW.out rfl)
  have hn63 : ls.length ≤ 9223372036854775807 := by omega
  clear hb hps hpsB HP HZ HFW
  go_wp2_with fail
  refine (HTA.out).mono ?_
  rintro e w3 ⟨A3, rfl, hal, hb3⟩
  have HO := h! (show Calls Tryz.prog 38 #[.slice A3 ls.length ls.length] w3 (fun e w' => ∃ b : Bool, e = .returned (.bool b) ∧ (b = true ↔ OM.oneB L) ∧ Below w3.heap.size w3 w') from by
   have := areOne_any A3 L w3 hal HLg.out
   rwa [HLN.out] at this)
  have HFn := h! (fun W (hb : Below w3.heap.size w3 W) => show Calls Tryz.prog 39 #[.slice A3 ls.length ls.length] W (fun e w' => ∃ b : Bool, e = .returned (.bool b) ∧ (b = true ↔ OM.finB L) ∧ Below W.heap.size W w') from by
   have := areFinal_any A3 L W (hal.below hb) HLg.out HFF.out
   rwa [HLN.out] at this)
  have HB3 := h! (bmore HB2.out hb3 n!)
  have HIF := h! (show PH ↔ OM.oneB L ∧ OM.finB L by rw [HPH.out]; exact OM.honest_iff HLg.out)
  clear hb3 hal HTA
  go_wp2_with fail
  refine (HO.out).mono ?_
  rintro e w4 ⟨b1, rfl, h1, hb4⟩
  have HB4 := h! (bmore HB3.out hb4 n!)
  have H34 := h! hb4
  have H1 := h! h1
  clear HO h1 hb4
  rcases b1 with _ | _
  ·have HF := h! (hoL_no (r := 0) (P := PH) (w := w) (w' := w4) (fun k => absurd (H1.out.2 (HIF.out.1 k.2).1) (by decide)) HB4.out)
   clear HFn
   go_wp2_with fail
   go_ret2
   exact HF.out
  ·go_wp2_with fail
   refine (HFn.out _ H34.out).mono ?_
   rintro e w5 ⟨b2, rfl, h2, hb5⟩
   have HF := h! (hoL_is (P := PH) (b := b2) (w := w) (w' := w5) ⟨fun k => HIF.out.2 ⟨H1.out.1 (by trivial), h2.1 k⟩, fun k => h2.2 (HIF.out.1 k).2⟩ (bmore HB4.out hb5 n!))
   clear HFn h2 hb5
   go_wp2_with fail
   go_ret2
   exact HF.out
end Go.Proofs.YteebeiaokfenmaaGreat.KP

namespace Go.Proofs.YteebeiaokfenmaaGreat.KP
open Go.RowKit CP TP LP SP
open CM (Mg Cm)
open TM (Sp)
open KM (Wt Sk)
set_option linter.unusedVariables false
set_option linter.unusedSimpArgs false
set_option maxRecDepth 100000
def pL (L : List (List Cm)) (g : Nat) : Sk × List Mg × List (Int × Mg) := OM.play (g : Int) (OM.lg L g)
theorem pL_at {ls : List (List ByteArray)} {g : Nat} {l : List ByteArray} (h : ls[g]? = some l) : pL (cmL ls) g = OM.play (g : Int) (LM.cmds l) := by
 unfold pL
 rw [OM.lg_at (l := LM.cmds l) (by unfold cmL; rw [List.getElem?_map, h]; rfl)]
theorem playR_pL {ls : List (List ByteArray)} {g : Nat} {l : List ByteArray} (h : ls[g]? = some l) (h0 : allE ls = 0) : playR (g : Int) l = ((pL (cmL ls) g).1, (pL (cmL ls) g).2.1, 0) := by
 obtain ⟨_, h4, hc⟩ := allE_zero h0
 have hg := (List.getElem?_eq_some_iff.1 h).1
 have ha : asked (g : Int) l = 0 := by unfold asked; rw [if_pos (by omega)]; exact hc l (List.mem_of_getElem? h)
 unfold playR
 rw [if_pos ha, pL_at h]
section
variable {L : List (List Cm)}
theorem pL_facts (hL : OM.Logs L) {g : Nat} (h : g < L.length) : TM.rises (pL L g).1.ds = true ∧ (pL L g).2.1.length = (pL L g).1.ds.length ∧ (pL L g).1.ds.length ≤ 200 ∧ ∀ s ∈ (pL L g).1.ds, i64In s.i := by
 have hI := hL.inv2 h
 unfold pL
 obtain ⟨hs, hd, _, _⟩ := hI.m
 obtain ⟨D, d1, d2, _⟩ := hI.ds
 refine ⟨hd.2.1, by rw [d1, d2, List.length_map, List.length_map], hs.2.2.2, fun s k => ?_⟩
 have := (hd.1 s k).1
 unfold TM.ok at this
 unfold i64In
 omega
theorem pL_agree (hL : OM.Logs L) (hH : OM.honest L) {a b : Nat} (ha : a < L.length) (hb : b < L.length) : OM.agreeF (pL L a).1.ds (pL L b).1.ds = true := by
 have h1 := (pL_facts hL ha).1
 have h2 := (pL_facts hL hb).1
 have e1 : L[a]? = some L[a] := List.getElem?_eq_getElem ha
 have e2 : L[b]? = some L[b] := List.getElem?_eq_getElem hb
 refine OM.agree_of ((TM.rises_iff _).1 h1) ((TM.rises_iff _).1 h2) fun d hd d' hd' he => ?_
 unfold pL at hd hd'
 rw [OM.lg_at e1] at hd
 rw [OM.lg_at e2] at hd'
 exact OM.same_stamp hL hH e1 e2 hd hd' he
theorem pL_whole (hL : OM.Logs L) (hH : OM.honest L) {a b : Nat} (ha : a < L.length) (hb : b < L.length) (i : Nat) (d : Sp) (m : Mg) (hd : (pL L a).1.ds[i]? = some d) (hm : (pL L a).2.1[i]? = some m) (hg : (b : Int) ∈ m.gs)
  (e : Sp) (hz : (pL L b).1.ds.getLast? = some e) (hl : TM.less e d = false) : d ∈ (pL L b).1.ds := by
 have e1 : L[a]? = some L[a] := List.getElem?_eq_getElem ha
 have e2 : L[b]? = some L[b] := List.getElem?_eq_getElem hb
 unfold pL at hd hm hz ⊢
 rw [OM.lg_at e1] at hd hm
 rw [OM.lg_at e2] at hz ⊢
 exact OM.no_gap hL hH e1 e2 hd hm hg hz hl
end
structure AgR (L : List (List Cm)) (w : World) (kd ks : Nat) (ud us : Value) (wr : World) : Prop where
 bl : Below w.heap.size w wr
 dn : ∃ vs : List Value, wr.ownsRow w.heap.size 22 1 ud kd vs ∧ vs.length = kd ∧ ∀ (g : Nat) v, vs[g]? = some v → wr.ownsRow w.heap.size 46 2 v (pL L g).1.ds.length (flat spc (pL L g).1.ds)
 sd : ∃ vs : List Value, wr.ownsRow w.heap.size 40 1 us ks vs ∧ vs.length = ks ∧ ∀ (g : Nat) v, vs[g]? = some v → KO KM_ wr w.heap.size 33 v (pL L g).2.1
section
variable {L : List (List Cm)} {w wr w' : World} {kd ks : Nat} {ud us v v2 : Value} {vs : List Value}
theorem AgR.start : AgR L w 0 0 (.slice none 0 0) (.slice none 0 0) w :=
 ⟨Below.refl _ _, ⟨[], World.ownsRow_nil _ _ _ _, rfl, fun g v hv => by simp at hv⟩, ⟨[], World.ownsRow_nil _ _ _ _, rfl, fun g v hv => by simp at hv⟩⟩
theorem AgR.below (h : AgR L w kd ks ud us wr) (hb : Below wr.heap.size wr w') : AgR L w kd ks ud us w' := by
 obtain ⟨vs, h1, h2, h3⟩ := h.dn
 obtain ⟨ws, g1, g2, g3⟩ := h.sd
 exact ⟨bmore h.bl hb n!, ⟨vs, own_below3 h1 hb, h2, fun g v hv => own_below3 (h3 g v hv) hb⟩, ⟨ws, own_below3 g1 hb, g2, fun g v hv => (g3 g v hv).below hb⟩⟩
theorem AgR.dnext (h : AgR L w kd ks ud us wr) (ho : wr.ownsRow w.heap.size 22 1 ud kd vs) (hl : vs.length = kd) (hvs : ∀ (g : Nat) v, vs[g]? = some v → wr.ownsRow w.heap.size 46 2 v (pL L g).1.ds.length (flat spc (pL L g).1.ds))
  (hv : wr.ownsRow w.heap.size 46 2 v (pL L kd).1.ds.length (flat spc (pL L kd).1.ds)) (hg : wr.grownBy w' ud.ownBlock) (ho2 : w'.ownsRow w.heap.size 22 1 v2 (kd + 1) (vs ++ [v])) : AgR L w (kd + 1) ks v2 us w' := by
 have k : Kept (fun e => e = 22) wr w' := Kept.grown ho rfl hg
 obtain ⟨ws, g1, g2, g3⟩ := h.sd
 refine ⟨below_row h.bl ho h.bl.size hg, ⟨vs ++ [v], ho2, by simp [hl], fun g u hu => ?_⟩, ⟨ws, k.own g1 (by decide), g2, fun g u hu => (g3 g u hu).kept k (by decide) (by decide)⟩⟩
 by_cases hgl : g < vs.length
 ·rw [List.getElem?_append_left hgl] at hu
  exact k.own (hvs g u hu) (by decide)
 ·have := (List.getElem?_eq_some_iff.1 hu).1
  rw [List.length_append, List.length_singleton] at this
  obtain rfl : g = kd := by omega
  rw [List.getElem?_append_right (by omega), hl, Nat.sub_self] at hu
  injection hu with hu
  subst hu
  exact k.own hv (by decide)
theorem AgR.snext (h : AgR L w kd ks ud us wr) (ho : wr.ownsRow w.heap.size 40 1 us ks vs) (hl : vs.length = ks) (hvs : ∀ (g : Nat) v, vs[g]? = some v → KO KM_ wr w.heap.size 33 v (pL L g).2.1)
  (hv : KO KM_ wr w.heap.size 33 v (pL L ks).2.1) (hg : wr.grownBy w' us.ownBlock) (ho2 : w'.ownsRow w.heap.size 40 1 v2 (ks + 1) (vs ++ [v])) : AgR L w kd (ks + 1) ud v2 w' := by
 have k : Kept (fun e => e = 40) wr w' := Kept.grown ho rfl hg
 obtain ⟨ws, g1, g2, g3⟩ := h.dn
 refine ⟨below_row h.bl ho h.bl.size hg, ⟨ws, k.own g1 (by decide), g2, fun g u hu => k.own (g3 g u hu) (by decide)⟩, ⟨vs ++ [v], ho2, by simp [hl], fun g u hu => ?_⟩⟩
 by_cases hgl : g < vs.length
 ·rw [List.getElem?_append_left hgl] at hu
  exact (hvs g u hu).kept k (by decide) (by decide)
 ·have := (List.getElem?_eq_some_iff.1 hu).1
  rw [List.length_append, List.length_singleton] at this
  obtain rfl : g = ks := by omega
  rw [List.getElem?_append_right (by omega), hl, Nat.sub_self] at hu
  injection hu with hu
  subst hu
  exact hv.kept k (by decide) (by decide)
theorem own_at {base n c g : Nat} {T : TypeId} {A : Option Addr} (h : wr.ownsRow base T 1 (.slice A n c) n vs) (hl : vs.length = n) (hg : g < n) : ∃ q o v, A = some ⟨q, o, none⟩ ∧ q < wr.heap.size ∧ vs[g]? = some v ∧ wr.cell? ⟨q, o + g, none⟩ = some v := by
 obtain ⟨q, cap, hv, _, hlt⟩ := h.form (by omega)
 injection hv with hv _ _
 subst hv
 have hvg : vs[g]? = some vs[g] := List.getElem?_eq_getElem (by omega)
 have := h.cells (g := q) rfl g _ hvg
 rw [add_none] at this
 exact ⟨q, 0, _, rfl, hlt, hvg, this⟩
theorem AgR.dat {n c9 g : Nat} {A9 : Option Addr} (h : AgR L w n ks (.slice A9 n c9) us wr) (hg : g < n) : ∃ q o B d, A9 = some ⟨q, o, none⟩ ∧ q < wr.heap.size ∧ wr.cell? ⟨q, o + g, none⟩ = some (.slice B (pL L g).1.ds.length d) ∧ SpsIs wr B (pL L g).1.ds.length d (pL L g).1.ds := by
 obtain ⟨vs, h1, h2, h3⟩ := h.dn
 obtain ⟨q, o, v, rfl, hq, hv, hc⟩ := own_at h1 h2 hg
 obtain ⟨B, d, rfl, hs⟩ := sps_new (h3 g v hv)
 exact ⟨q, o, B, d, rfl, hq, hc, hs⟩
theorem AgR.sat {n c9 g : Nat} {A9 : Option Addr} (h : AgR L w kd n ud (.slice A9 n c9) wr) (hg : g < n) : ∃ q o B d, A9 = some ⟨q, o, none⟩ ∧ q < wr.heap.size ∧ wr.cell? ⟨q, o + g, none⟩ = some (.slice B (pL L g).2.1.length d) ∧ KR KM_ wr B (pL L g).2.1.length d (pL L g).2.1 := by
 obtain ⟨vs, h1, h2, h3⟩ := h.sd
 obtain ⟨q, o, v, rfl, hq, hv, hc⟩ := own_at h1 h2 hg
 obtain ⟨B, d, rfl, hs⟩ := (h3 g v hv).g
 exact ⟨q, o, B, d, rfl, hq, hc, hs.r⟩
end
theorem info_sps : (Tryz.prog.info? 22).map (fun i => (i.zero, i.size, i.bytes)) = some (some (.slice none 0 0), 1, 24) := by kernel_rfl
theorem info_mgs : (Tryz.prog.info? 40).map (fun i => (i.zero, i.size, i.bytes)) = some (some (.slice none 0 0), 1, 24) := by kernel_rfl
end Go.Proofs.YteebeiaokfenmaaGreat.KP

namespace Go.Proofs.YteebeiaokfenmaaGreat.KP
open Go.RowKit CP TP LP SP
open CM (Mg Cm)
open TM (Sp)
open KM (Wt Sk)
set_option linter.unusedVariables false
set_option linter.unusedSimpArgs false
set_option maxRecDepth 100000
def finR (ls : List (List ByteArray)) (m : Mg) : Int × Bool × Int := if allE ls ≠ 0 then (0, false, allE ls) else if CM.mgOk m then ((OM.lastF (cmL ls) m).1, (OM.lastF (cmL ls) m).2, 0) else (0, false, 8)
def F3Q (R : Int × Bool × Int) (w : World) (e : Ending) (w' : World) : Prop := e = .returned (.tuple #[.int .i64 R.1, .bool R.2.1, .int .i64 R.2.2]) ∧ Below w.heap.size w w'
theorem f3q {R : Int × Bool × Int} {a c : Int} {b : Bool} {w w' : World} (h : R = (a, b, c)) (hb : Below w.heap.size w w') : F3Q R w (.returned (.tuple #[.int .i64 a, .bool b, .int .i64 c])) w' := by rw [h]; exact ⟨rfl, hb⟩
set_option maxHeartbeats 2000000 in
theorem pfinal16_any (A : Option Addr) (n c : Nat) (ls : List (List ByteArray)) (vm : Value) (m : Mg) (w : World) (h : LogsIs w A n c ls) (hs : ∀ l ∈ ls, ∀ t ∈ l, t.size ≤ maxLen) (hm : MgIs w vm m) (hf : MgFit m) :
  Calls Tryz.prog 11 #[.slice A n c, vm] w (F3Q (finR ls m) w) := by
 have HP := h! (fun W (hb : Below w.heap.size w W) => playersOf_any A n c ls W (h.below hb) hs)
 have HZ := h! (fun h0 => allE_zero (ls := ls) h0)
 have HFW := h! (fun h0 => cmL_few (ls := ls) h0)
 have HLN := h! (cmL_len ls)
 have HCK := h! (fun W (hb : Below w.heap.size w W) => pcheckMg_any m vm W (hm.below hb) hf)
 have HMM := h! (fun W (hb : Below w.heap.size w W) => hm.below hb)
 unfold finR
 obtain ⟨L, hL⟩ : ∃ L, L = cmL ls := ⟨_, rfl⟩
 rw [← hL] at HP HZ HFW HLN ⊢
 obtain ⟨r, hr⟩ : ∃ r, r = allE ls := ⟨_, rfl⟩
 rw [← hr] at HP HZ HFW ⊢
 obtain ⟨R, hR⟩ : ∃ R, R = (if r ≠ 0 then (0, false, r) else if CM.mgOk m then ((OM.lastF L m).1, (OM.lastF L m).2, 0) else (0, false, 8) : Int × Bool × Int) := ⟨_, rfl⟩
 rw [← hR]
 have HR := h! hR
 have HID := h! hf.1
 obtain ⟨mm, hmm⟩ : ∃ mm, mm = m := ⟨_, rfl⟩
 rw [← hmm] at HCK HMM HR HID
 obtain ⟨A1, c1, rfl, _⟩ := hm
 clear h hs hL hr hR hf
 obtain ⟨ai, ag, at_, ak, ab⟩ := m
 unfold mcells at HCK HMM ⊢
 simp only at HCK HMM ⊢
 obtain ⟨ec, hec⟩ : ∃ ec : Int, ec = if CM.mgOk mm then 0 else 120 := ⟨_, rfl⟩
 rw [← hec] at HCK
 have HE := h! hec
 clear hmm hec
 obtain ⟨p3, hp3⟩ : ∃ p3, w.heap.size = p3 := ⟨_, rfl⟩
 have HB := h! (show Below w.heap.size w (w.alloc (.cells #[.int .i64 ai, .slice A1 ag.length c1, .int .i64 at_, .string ak, .string ab] 33)) from (Below.refl _ _).alloc n! _)
 have X := h! (Box.new_at (w := w) (t := 33) (cs := #[.int .i64 ai, .slice A1 ag.length c1, .int .i64 at_, .string ak, .string ab]) p3 hp3)
 go_enter Tryz.func11, Tryz.ntmps11
 go_upto_region 1 with (fail)
 generalize w.alloc (.cells #[.int .i64 ai, .slice A1 ag.length c1, .int .i64 at_, .string ak, .string ab] 33) = w1 at HB X ⊢
 clear hp3
 go_wp2_with fail
 refine (HP.out _ HB.out).mono ?_
 rintro e w2 ⟨hb, ⟨h0, rfl⟩ | ⟨h0, A2, c2, rfl, hps, _, _⟩⟩
 ·have hk : (r == 0) = false := by simpa using h0
  have HF := h! (show R = (0, false, r) by rw [HR.out, if_pos h0])
  have HB2 := h! (bmore HB.out hb n!)
  clear hb h0 HP HZ HFW
  go_wp2_with fail
  go_ret3
  exact f3q HF.out HB2.out
 ·subst h0
  have HLg := h! (HZ.out rfl).1
  have h4 : ls.length ≤ 4 := (HZ.out rfl).2.1
  have HTA := h! (fun W (hb : Below w2.heap.size w2 W) => show Calls Tryz.prog 37 #[.slice A2 ls.length c2] W (fun e w' => ∃ A', e = .returned (.slice A' ls.length ls.length) ∧ AlIs w' A' L ∧ Below W.heap.size W w') from by
   have := tellAll_any A2 c2 L W (hps.below hb) HLg.out (HFW.out rfl)
   rwa [HLN.out] at this)
  have HB2 := h! (bmore HB.out hb n!)
  have X2 := h! (X.out.below hb X.out.lt)
  clear hb hps HP HZ HFW
  have s0 := X2.out.cell 0
  have s1 := X2.out.cell 1
  have s2 := X2.out.cell 2
  have s3 := X2.out.cell 3
  have s4 := X2.out.cell 4
  simp at s0 s1 s2 s3 s4
  go_wp2_with fail
  refine (HCK.out _ HB2.out).mono ?_
  rintro e w3 ⟨rfl, hb3⟩
  have HB3 := h! (bmore HB2.out hb3 n!)
  have H23 := h! hb3
  have X3 := h! (X2.out.below hb3 X2.out.lt)
  clear s0 s1 s2 s3 s4 hb3 HCK
  by_cases hok : CM.mgOk mm
  rotate_left
  ·have he : ec = 120 := by rw [HE.out, if_neg hok]
   subst he
   have HF := h! (show R = (0, false, 8) by rw [HR.out, if_neg (fun k => k rfl), if_neg hok])
   clear hok
   go_wp2_with fail
   go_ret3
   exact f3q HF.out HB3.out
  ·have he : ec = 0 := by rw [HE.out, if_pos hok]
   subst he
   have HF := h! (show R = ((OM.lastF L mm).1, (OM.lastF L mm).2, 0) by rw [HR.out, if_neg (fun k => k rfl), if_pos hok])
   obtain ⟨R2, hR2⟩ : ∃ R2, R2 = OM.lastF L mm := ⟨_, rfl⟩
   rw [← hR2] at HF
   have HGS := h! (fun x hx => ((OM.mg_groups hok).2 x hx).1)
   have KT := h! (fun W A3 (hal : AlIs W A3 L) (hb : Below w.heap.size w W) => show Calls Tryz.prog 36 #[.slice A3 ls.length ls.length, .agg #[.int .i64 ai, .slice A1 ag.length c1, .int .i64 at_, .string ak, .string ab]] W (fun e w' => e = .returned (.tuple #[.int .i64 R2.1, .bool R2.2]) ∧ Below W.heap.size W w') from by
    have := finalTime_any A3 ls.length L _ mm W hal HLg.out (HMM.out W hb) HGS.out HID.out
    rw [HLN.out, ← hR2] at this
    exact this)
   clear hok hR2 HMM
   go_upto_region 6 with (fail)
   have HSS := h! (fun (w' : World) (h : Below w3.heap.size w3 w') => show w'.cell? ⟨p3, 0, none⟩ = some (.int .i64 ai) ∧ w'.cell? ⟨p3, 1, none⟩ = some (.slice A1 ag.length c1) ∧ w'.cell? ⟨p3, 2, none⟩ = some (.int .i64 at_) ∧ w'.cell? ⟨p3, 3, none⟩ = some (.string ak) ∧ w'.cell? ⟨p3, 4, none⟩ = some (.string ab) from by
    have hx := X3.out.below h X3.out.lt
    exact ⟨hx.cell 0, hx.cell 1, hx.cell 2, hx.cell 3, hx.cell 4⟩)
   have bb1 : Below w3.heap.size w3 w3.drew := (Below.refl _ _).drew
   obtain ⟨ud, hud⟩ : ∃ ud, ud = w3.drew := ⟨_, rfl⟩
   refine wp_region_held_drew (S := fun w' => w'.cell? ⟨p3, 0, none⟩ = some (.int .i64 ai) ∧ w'.cell? ⟨p3, 1, none⟩ = some (.slice A1 ag.length c1) ∧ w'.cell? ⟨p3, 2, none⟩ = some (.int .i64 at_) ∧ w'.cell? ⟨p3, 3, none⟩ = some (.string ak) ∧ w'.cell? ⟨p3, 4, none⟩ = some (.string ab)) (by kernel_rfl) (HSS.out _ bb1) (fun hHeld => ?_)
   rw [← hud] at bb1 hHeld ⊢
   clear hud
   refine qT 0 ?_; try simp only [Act.put, qq]
   refine qT 2 ?_; try simp only [Act.put, qq]
   refine qR 1 fun K hK => ?_
   go_simp
   refine (HTA.out _ (bmore H23.out bb1 n!)).mono ?_
   rintro e w5 ⟨A3, rfl, hal, hb5⟩
   have bb5 := bmore bb1 hb5 n!
   have HAL := h! hal
   clear hal hb5
   refine hK.out _ _ (HSS.out _ bb5) (fun hHeld => ?_)
   clear hK
   try simp only [Act.put, qq]
   refine qR 3 fun K hK => ?_
   go_simp
   refine (KT.out w5 A3 HAL.out (bmore HB3.out bb5 n!)).mono ?_
   rintro e w6 ⟨rfl, hb6⟩
   have bb6 := bmore bb5 hb6 n!
   clear hb6
   refine hK.out _ _ (HSS.out _ bb6) (fun hHeld => ?_)
   clear hK
   try simp only [Act.put, qq]
   refine qT 4 ?_; try simp only [Act.put, qq]
   refine qT 5 ?_; try simp only [Act.put, qq]
   refine qT 6 ?_; try simp only [Act.put, qq]
   refine qT 7 ?_; try simp only [Act.put, qq]
   refine qT 8 ?_; try simp only [Act.put, qq]
   refine wpAnyH_done (by kernel_rfl) ?_ _
   go_wp2_with fail
   go_ret3
   exact f3q HF.out (bmore HB3.out bb6 n!)
end Go.Proofs.YteebeiaokfenmaaGreat.KP

namespace Go.Proofs.YteebeiaokfenmaaGreat.KP
open Go.RowKit CP TP LP SP
open CM (Mg Cm)
open TM (Sp)
open KM (Wt Sk)
set_option linter.unusedVariables false
set_option linter.unusedSimpArgs false
set_option maxRecDepth 100000
def eqL (L : List (List Cm)) (t id g : Int) : Bool := (stps (OM.tg L g)).any fun s => s.t == t && s.i == id
section
variable {L : List (List Cm)} {x : Mg} {t : Int}
theorem eqL_some (hL : OM.Logs L) (hx : CM.mgOk x) (h : OM.lastF L x = (t, true)) : (x.gs.any fun g => eqL L t x.id g) = true := by
 obtain ⟨g, hg, hm⟩ := OM.final_is hL hx h
 refine List.any_eq_true.2 ⟨g, hg, ?_⟩
 unfold eqL stps
 exact List.any_eq_true.2 ⟨⟨t, x.id⟩, List.mem_map.2 ⟨(t, x), hm, rfl⟩, by simp⟩
theorem most_all (hL : OM.Logs L) (hx : CM.mgOk x) (h : OM.lastF L x = (t, true)) {g : Int} (hg : g ∈ x.gs) {s : Sp} (hs : s ∈ stps (OM.tg L g)) (hi : s.i = x.id) : s.t ≤ t := by
 unfold stps at hs
 obtain ⟨p, hp, rfl⟩ := List.mem_map.1 hs
 exact OM.final_most hL hx h hg hp hi
theorem gs_in (hx : CM.mgOk x) (h : OM.lastF L x = (t, true)) {g : Int} (hg : g ∈ x.gs) : 0 ≤ g ∧ g < L.length := ⟨((OM.mg_groups hx).2 g hg).1, ((OM.lastG_true h).1 g hg).1⟩
theorem last_pos (hL : OM.Logs L) (hx : CM.mgOk x) (h : OM.lastF L x = (t, true)) : 1 ≤ t ∧ t ≤ 1073741824 := by
 obtain ⟨g, hg, hm⟩ := OM.final_is hL hx h
 have hI := OM.tg_inv hL (gs_in hx h hg).1 (gs_in hx h hg).2
 have h1 := hI.tm _ hm
 have h2 := hI.m.1.2.1
 exact ⟨h1.1, by have := h1.2.1; simp only at this; omega⟩
end
theorem loc_tg {ls : List (List ByteArray)} {g : Nat} {l : List ByteArray} (h : ls[g]? = some l) (h0 : allE ls = 0) : asked (g : Int) l = 0 ∧ locS (g : Int) l = stps (OM.tg (cmL ls) (g : Int)) := by
 obtain ⟨_, h4, hc⟩ := allE_zero h0
 have hg := (List.getElem?_eq_some_iff.1 h).1
 have ha : asked (g : Int) l = 0 := by unfold asked; rw [if_pos (by omega)]; exact hc l (List.mem_of_getElem? h)
 refine ⟨ha, ?_⟩
 unfold locS OM.tg
 rw [if_pos ha, OM.lg_at (l := LM.cmds l) (by unfold cmL; rw [List.getElem?_map, h]; rfl)]
theorem firstE_of : ∀ {ls : List (List ByteArray)}, (∀ l ∈ ls, LM.chk l = 0) → firstE ls = 0
 | [], _ => rfl
 | l :: r, h => by
  unfold firstE
  rw [if_pos (h l (List.mem_cons_self ..))]
  exact firstE_of fun q hq => h q (List.mem_cons_of_mem _ hq)
theorem more_ok {ls : List (List ByteArray)} {g : Nat} {l : List ByteArray} {c : Cm} (h : ls[g]? = some l) (h0 : allE ls = 0) (hl : l.length < 200) (hc : CM.may c) :
  allE (ls.set g (l ++ [txt c])) = 0 ∧ cmL (ls.set g (l ++ [txt c])) = (cmL ls).set g (LM.cmds l ++ [c]) := by
 obtain ⟨_, h4, hk⟩ := allE_zero h0
 obtain ⟨c1, c2⟩ := cm_txt hc
 constructor
 ·unfold allE
  rw [List.length_set, if_neg (by omega)]
  refine firstE_of fun q hq => ?_
  rcases List.mem_or_eq_of_mem_set hq with hq | rfl
  ·exact hk q hq
  ·have := LM.chk_zero.1 (hk l (List.mem_of_getElem? h))
   refine LM.chk_zero.2 ⟨by rw [List.length_append, List.length_singleton]; omega, fun s hs => ?_⟩
   rcases List.mem_append.1 hs with hs | hs
   ·exact this.2 s hs
   ·rw [List.mem_singleton.1 hs]; exact c2
 ·unfold cmL LM.cmds
  rw [List.map_set, List.map_append, List.map_singleton, c1]
theorem honest_more {ls : List (List ByteArray)} {g : Nat} {l : List ByteArray} {x : Mg} {t : Int} (h : ls[g]? = some l) (h0 : allE ls = 0) (hl : l.length < 200) (hH : OM.honest (cmL ls)) (hx : CM.mgOk x) (hf : OM.lastF (cmL ls) x = (t, true)) :
  allE (ls.set g (l ++ [txt (finE x.id t)])) = 0 ∧ OM.honest (cmL (ls.set g (l ++ [txt (finE x.id t)]))) ∧ (txt (finE x.id t)).size ≤ maxLen := by
 have hL := (allE_zero h0).1
 have hm : CM.may (finE x.id t) := may_fin hx.1 (last_pos hL hx hf)
 obtain ⟨k1, k2⟩ := more_ok h h0 hl hm
 refine ⟨k1, ?_, txt_size (by have := (CM.wr_len hm).2; omega)⟩
 rw [k2]
 exact OM.final_honest hL hH hx hf (by unfold cmL; rw [List.getElem?_map, h]; rfl) hm rfl rfl rfl
section
variable {W : World} {base n c q i : Nat} {e : TypeId} {xs : List Value}
theorem rd_put (h : W.ownsRow base e 1 (.slice (some ⟨q, 0, none⟩) n c) n xs) (hl : xs.length = n) (hi : i < n) (u : Value) :
  Rd (W.setCell ⟨q, i, none⟩ u) (some ⟨q, 0, none⟩) n (xs.set i u) ∧ base ≤ q ∧ q < W.heap.size ∧ (∃ y, W.cell? ⟨q, i, none⟩ = some y) ∧ W.frozen? ⟨q, i, none⟩ = false ∧ ∃ cur, Box W q e cur := by
 obtain ⟨hb, cur, hx⟩ := own_block h (g := q) rfl
 have hc := h.cells (g := q) rfl
 have hcur : ∀ j u, xs[j]? = some u → cur[j]? = some u := fun j u hj => by
  have := hc j u hj
  rw [add_none, Nat.zero_add, hx.cell] at this
  exact this
 obtain ⟨y, hy⟩ : ∃ y, xs[i]? = some y := ⟨_, List.getElem?_eq_getElem (by omega)⟩
 have hsz := (Array.getElem?_eq_some_iff.1 (hcur i y hy)).1
 refine ⟨⟨by rw [List.length_set]; exact hl, fun _ => ⟨_, rfl, by simpa using hx.lt, fun j z hj => ?_⟩⟩, hb, hx.lt, ⟨y, (hx.cell i).trans (hcur i y hy)⟩, hx.frozen i, cur, hx⟩
 rw [add_none, Nat.zero_add, (hx.stored i u).cell]
 rw [List.getElem?_set] at hj
 by_cases hij : i = j
 ·subst hij
  rw [if_pos rfl, if_pos (by omega)] at hj
  simp [hsz]
  injection hj
 ·rw [if_neg hij] at hj
  rw [Array.getElem?_setIfInBounds_ne hij]
  exact hcur j z hj
end
theorem next_logs {w W : World} {B : Option Addr} {n q cn g base b2 d : Nat} {ls : List (List ByteArray)} {l : List ByteArray} {s : ByteArray} {rows : List Value} (hr : Rws w rows ls) (hn : ls.length = n) (hb : Below w.heap.size w W) (hbase : w.heap.size ≤ base)
  (h : W.ownsRow base 26 1 (.slice (some ⟨q, 0, none⟩) n cn) n rows) (hg : ls[g]? = some l) (h2 : W.ownsRow b2 9 1 (.slice B (l.length + 1) d) (l.length + 1) (tcx l ++ [.string s])) :
  LogsIs (W.setCell ⟨q, g, none⟩ (.slice B (l.length + 1) d)) (some ⟨q, 0, none⟩) n cn (ls.set g (l ++ [s])) := by
 have hgl := (List.getElem?_eq_some_iff.1 hg).1
 have hrl : rows.length = n := by rw [hr.1, hn]
 obtain ⟨r1, r2, r3, _, _, cur, r6⟩ := rd_put h hrl (i := g) (by omega) (.slice B (l.length + 1) d)
 obtain ⟨_, _, e, f1, f2⟩ := own_form h
 injection e with _ _ e
 subst e
 have hbw : Below w.heap.size w (W.setCell ⟨q, g, none⟩ (.slice B (l.length + 1) d)) := hb.setCell (p := ⟨q, g, none⟩) (by show w.heap.size ≤ q; omega) _
 refine ⟨_, r1, ⟨by rw [List.length_set, List.length_set]; exact hr.1, fun i l' hi => ?_⟩, by rw [List.length_set]; exact hn, f1, f2⟩
 rw [List.getElem?_set] at hi
 rw [List.getElem?_set]
 by_cases hig : g = i
 ·subst hig
  rw [if_pos rfl, if_pos hgl] at hi
  injection hi with hi
  subst hi
  obtain ⟨_, _, e, k1, k2⟩ := own_form h2
  injection e with _ _ e
  subst e
  have := Rd.of_own (ownsRow_setCell_other h2 (a := ⟨q, g, none⟩) (own_ne h2 r6 (by decide)).symm (.slice B (l.length + 1) d))
  refine ⟨B, d, by rw [if_pos rfl, if_pos (by omega), List.length_append, List.length_singleton], ?_, by rw [List.length_append, List.length_singleton]; exact k1, k2⟩
  rw [List.length_append, List.length_singleton]
  have e2 : tc (l ++ [s]) = tcx l ++ [.string s] := by simp [tc, tcx]
  rw [e2]
  exact this
 ·rw [if_neg hig] at hi ⊢
  obtain ⟨B', c', h1, h2', h3, h4⟩ := hr.2 i l' hi
  exact ⟨B', c', h1, h2'.below hbw, h3, h4⟩
end Go.Proofs.YteebeiaokfenmaaGreat.KP
