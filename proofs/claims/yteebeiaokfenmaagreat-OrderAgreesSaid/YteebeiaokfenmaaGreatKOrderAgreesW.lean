/-
  The walk of OrderAgrees. Conditions: as the walk says.
-/
import Derived.Test.YteebeiaokfenmaaGreatK01
import Derived.Test.YteebeiaokfenmaaGreatK40
import Derived.Test.YteebeiaokfenmaaGreatK39
import Derived.Test.YteebeiaokfenmaaGreatK08
import Derived.Test.YteebeiaokfenmaaGreatK15
import Derived.Test.YteebeiaokfenmaaGreatK09
namespace Go.Proofs.YteebeiaokfenmaaGreat.KP
open Go.RowKit CP TP LP SP
open CM (Mg Cm)
open TM (Sp)
open KM (Wt Sk)
set_option linter.unusedVariables false
set_option linter.unusedSimpArgs false
set_option maxRecDepth 100000
set_option maxHeartbeats 1600000 in
theorem orderAgrees_walk0 (A : Option Addr) (n c : Nat) (ls : List (List ByteArray)) (w : World) (h : LogsIs w A n c ls) (hs : ∀ l ∈ ls, ∀ t ∈ l, t.size ≤ maxLen) :
  Calls Tryz.prog 6 #[.slice A n c] w fun e w' => e = .returned (.bool true) ∧ Below w.heap.size w w' := by
 have hln : ls.length = n := by obtain ⟨_, _, _, h1, _⟩ := h; exact h1
 have hn63 : n ≤ 9223372036854775807 := by
  obtain ⟨_, _, _, _, h1, h2⟩ := h
  unfold maxLen at h2
  omega
 obtain ⟨i0, hi, hz0, hz1, hz2⟩ := info_parts info_sps
 obtain ⟨j0, hj, hy0, hy1, hy2⟩ := info_parts info_mgs
 have H := h! (fun W (hb : Below w.heap.size w W) => h.below hb)
 have HS := h! hs
 have HLN := h! hln
 clear h hs hln
 go_enter Tryz.func6, Tryz.ntmps6
 go_wp2_with fail
 refine (alive16_any _).mono ?_
 rintro e w1 ⟨rfl, hb1⟩
 have HB1 := h! hb1
 have HG := h! (OP.great16_any A n c ls w1 (H.out w1 hb1) HS.out)
 clear hb1
 go_wp2_with fail
 refine (HG.out).mono ?_
 rintro e w2 ⟨bg, rfl, _, hb⟩
 have HB2 := h! (bmore HB1.out hb n!)
 clear hb HG HB1
 rcases bg with _ | _
 rotate_left
 ·go_wp2_with fail
  go_ret
  exact ⟨rfl, HB2.out⟩
 have HO := h! (phonest16_any A n c ls w2 (H.out w2 HB2.out) HS.out)
 unfold HoQ at HO
 have HZ := h! (fun h0 => allE_zero (ls := ls) h0)
 have HPL := h! (fun (h0 : allE ls = 0) g l hl => playR_pL (ls := ls) (g := g) (l := l) hl h0)
 have HCL := h! (cmL_len ls)
 obtain ⟨L, hL⟩ : ∃ L, L = cmL ls := ⟨_, rfl⟩
 rw [← hL] at HO HZ HPL HCL
 obtain ⟨r, hr⟩ : ∃ r, r = allE ls := ⟨_, rfl⟩
 rw [← hr] at HO HZ HPL
 clear hL hr
 go_wp2_with fail
 refine (HO.out).mono ?_
 rintro e w3 ⟨b, rfl, hbb, hb⟩
 have HB3 := h! (bmore HB2.out hb n!)
 have HBB := h! hbb
 clear hb HO HB2 hbb
 by_cases h0 : r = 0
 rotate_left
 ·have hq : (r == 0) = false := by simpa using h0
  go_wp2_with fail
  go_ret
  exact ⟨rfl, HB3.out⟩
 subst h0
 rcases b with _ | _
 ·go_wp2_with fail
  go_ret
  exact ⟨rfl, HB3.out⟩
 have HHo := h! (HBB.out.1 rfl).2
 have HLg := h! (HZ.out rfl).1
 have hn4 : n ≤ 4 := by have := (HZ.out rfl).2.1; have := HLN.out; omega
 have HPR := h! (HPL.out rfl)
 have HNL := h! (show n = L.length by rw [HCL.out, HLN.out])
 have HT := h! (AgR.start (L := L) (w := w3))
 clear HBB HZ HPL HCL
 go_wp2_with fail
 go_loopw [6, 7, 8] (fun u s i wr => ∃ k : Nat, k ≤ n ∧ i = .int .i64 k ∧ Hid (AgR L w3 k k u s wr)) (fun _ _ i _ => n - (intOf i).toNat)
 case atStart => exact ⟨0, by omega, rfl, HT⟩
 case round =>
  clear HT
  obtain ⟨k, hk, rfl, HT⟩ := hrel
  by_cases hlt : k < n
  ·obtain ⟨l, hl⟩ : ∃ l, ls[k]? = some l := ⟨_, List.getElem?_eq_getElem (by have := HLN.out; omega)⟩
   obtain ⟨ad, B, d, rfl, _, q1, q2, q3, q4⟩ := logs_get (H.out _ (bmore HB3.out HT.out.bl n!)) hl
   have HP := h! (pplay16_any k B l.length d l wr ⟨q2, q3, q4, HS.out l (List.mem_of_getElem? hl)⟩)
   rw [HPR.out k l hl] at HP
   obtain ⟨hri, hlo, h200, _⟩ := pL_facts HLg.out (g := k) (by have := HNL.out; omega)
   obtain ⟨S, hS⟩ : ∃ S, S = (pL L k).1 := ⟨_, rfl⟩
   obtain ⟨O, hO⟩ : ∃ O, O = (pL L k).2.1 := ⟨_, rfl⟩
   rw [← hS, ← hO] at HP hlo
   rw [← hS] at hri h200
   have HSE := h! hS
   have HOE := h! hO
   clear hl q2 q3 q4 hS hO
   have hk0 : (0 : Int) ≤ (k : Int) := by omega
   have hkn : (k : Int) < (n : Int) := by omega
   go_wp2_with fail
   clear q1
   refine (HP.out).mono ?_
   rintro e w4 ⟨v, vm, rfl, ⟨vw, vd, rfl, k1, k2⟩, km, hb⟩
   obtain ⟨A4, c4, rfl, _⟩ := k1.g
   obtain ⟨B4, d4, rfl, k3, k4⟩ := own_form k2
   obtain ⟨C4, f4, rfl, kg⟩ := km.g
   unfold vsk
   obtain ⟨nd, hnd⟩ : ∃ nd, nd = S.ds.length := ⟨_, rfl⟩
   rw [← hnd] at k2 k3 h200 hlo ⊢
   rw [hlo] at km ⊢
   have hal : Below w4.heap.size w4 (w4.alloc (.cells #[.int .i64 S.c, .slice A4 S.ws.length c4, .slice B4 nd d4] 39)) := b!
   have X9 := h! (Box.new w4 39 #[.int .i64 S.c, .slice A4 S.ws.length c4, .slice B4 nd d4])
   have hw3 : w3.heap.size ≤ wr.heap.size := HT.out.bl.size
   have HOD := h! (own_below3 (own_base k2 hw3) hal)
   have HOM := h! ((KO.mono km hw3).below hal)
   have HTA := h! (HT.out.below (bmore hb hal n!))
   have HRI := h! hri
   have HND := h! hnd
   have HSP := h! (show SpsIs w4 B4 nd d4 S.ds from ⟨rdg_own k2, hnd.symm, k3, k4⟩)
   replace HSP := h! (HSP.out.below hal)
   clear k1 k2 k3 k4 km kg hb hal hri hnd hw3 HP HT
   go_upto_region 15 with (fail)
   generalize w4.alloc (.cells #[.int .i64 S.c, .slice A4 S.ws.length c4, .slice B4 nd d4] 39) = w5 at X9 HOD HOM HTA HSP ⊢
   obtain ⟨p9, hp9⟩ : ∃ p9, w4.heap.size = p9 := ⟨_, rfl⟩
   rw [hp9] at X9
   try simp only [hp9]
   clear hp9
   obtain ⟨x0, x1, x2⟩ := box_sk X9.out
   have hne : ((nd : Int) != (nd : Int)) = false := by simp
   go_wp2_with fail
   clear x0 x1 x2
   refine (show Calls Tryz.prog 28 #[.slice B4 nd d4] w5 (IsB true w5) from by have := prises_any B4 nd d4 S.ds w5 HSP.out; rw [HRI.out] at this; exact this).mono ?_
   rintro e w6 ⟨rfl, hb⟩
   have X6 := h! (X9.out.below hb X9.out.lt)
   have HT6 := h! (HTA.out.below hb)
   have HOD6 := h! (own_below3 HOD.out hb)
   have HOM6 := h! (HOM.out.below hb)
   clear hb HTA HOD HOM X9 HSP
   obtain ⟨x0, x1, x2⟩ := box_sk X6.out
   obtain ⟨vs, o1, o2, o3⟩ := HT6.out.dn
   obtain ⟨A9, c9, rfl, hc9, hm9⟩ := own_form o1
   obtain ⟨_, g1, _, _⟩ := HT6.out.sd
   obtain ⟨C9, e9, rfl, _, _⟩ := own_form g1
   have hal : Below w6.heap.size w6 (w6.alloc (.cells #[.slice B4 nd d4] 22)) := b!
   have HT7 := h! (HT6.out.below hal)
   have HO7 := h! (own_below3 o1 hal)
   have HO2 := h! o2
   have HV7 := h! (fun g v hv => own_below3 (o3 g v hv) hal)
   have HOD7 := h! (show (w6.alloc (.cells #[.slice B4 nd d4] 22)).ownsRow w3.heap.size 46 2 (.slice B4 nd d4) (pL L k).1.ds.length (flat spc (pL L k).1.ds) by rw [← HSE.out, ← HND.out]; exact own_below3 HOD6.out hal)
   have HOM7 := h! (HOM6.out.below hal)
   have HRG := h! (rdG_box (s := 1) (n := 1) (Box.new w6 22 #[.slice B4 nd d4]) (xs := [.slice B4 nd d4]) rfl rfl)
   clear o1 o2 o3 g1 hal HT6 HOD6 HOM6 hc9 hm9
   go_upto_region 18 with (at_builtin; refine wpList_append_g _ rfl _ _ 62 rfl w3.heap.size 22 i0 _ 1 24 Tryz.underlying62 hi hz0 hz1 hz2 rfl (by omega) (.slice A9 k c9) k vs rfl HO7.out (some ⟨w6.heap.size, 0, none⟩) 1 1 [.slice B4 nd d4] rfl HRG.out (fun u hu => by rw [List.mem_singleton] at hu; subst hu; rfl) (by unfold maxLen; omega) (by omega) HT7.out.bl.size ?_; intro v2 w7 hown hgr hob; have NX7 := h! (HT7.out.dnext HO7.out HO2.out HV7.out HOD7.out hgr hown); have HOM8 := h! (HOM7.out.kept (Kept.grown (S := fun e => e = 22) HO7.out rfl hgr) (by decide) (by decide)); clear hown hgr hob)
   clear HT7 HO7 HO2 HV7 HOD7 HOM7 HRG x0 x1 x2
   obtain ⟨ws, g1, g2, g3⟩ := NX7.out.sd
   have hal : Below w7.heap.size w7 (w7.alloc (.cells #[.slice C4 nd f4] 40)) := b!
   have HT7 := h! (NX7.out.below hal)
   have HO7 := h! (own_below3 g1 hal)
   have HO2 := h! g2
   have HV7 := h! (fun g v hv => (g3 g v hv).below hal)
   have HOM9 := h! (show KO KM_ (w7.alloc (.cells #[.slice C4 nd f4] 40)) w3.heap.size 33 (.slice C4 nd f4) (pL L k).2.1 by rw [← HOE.out]; exact HOM8.out.below hal)
   have HRG := h! (rdG_box (s := 1) (n := 1) (Box.new w7 40 #[.slice C4 nd f4]) (xs := [.slice C4 nd f4]) rfl rfl)
   clear g1 g2 g3 hal NX7 HOM8
   go_wp2_with (at_builtin; refine wpList_append_g _ rfl _ _ 63 rfl w3.heap.size 40 j0 _ 1 24 Tryz.underlying63 hj hy0 hy1 hy2 rfl (by omega) (.slice C9 k e9) k ws rfl HO7.out (some ⟨w7.heap.size, 0, none⟩) 1 1 [.slice C4 nd f4] rfl HRG.out (fun u hu => by rw [List.mem_singleton] at hu; subst hu; rfl) (by unfold maxLen; omega) (by omega) HT7.out.bl.size ?_; intro v3 w8 hown hgr hob; have NX := h! (HT7.out.snext HO7.out HO2.out HV7.out HOM9.out hgr hown); clear hown hgr hob)
   go_roundw
   case rel => exact ⟨k + 1, by omega, by go_num, NX⟩
   case measure => simp [intOf]; omega
  ·obtain rfl : n = k := by omega
   obtain ⟨_, o1, _, _⟩ := HT.out.dn
   obtain ⟨A9, c9, rfl, _, _⟩ := own_form o1
   obtain ⟨_, g1, _, _⟩ := HT.out.sd
   obtain ⟨C9, e9, rfl, _, _⟩ := own_form g1
   clear o1 g1
   obtain ⟨w9, hw9⟩ : ∃ w9, w9 = wr := ⟨_, rfl⟩
   subst hw9
   have HR0 := h! (Below.refl w9.heap.size w9)
   go_wp2_with fail
   go_loopw [12] (fun i wq => ∃ a : Nat, a ≤ n ∧ i = .int .i64 a ∧ Hid (Below w9.heap.size w9 wq)) (fun i _ => n - (intOf i).toNat)
   case atStart => exact ⟨0, by omega, rfl, HR0⟩
   case round =>
    clear HR0
    obtain ⟨a, ha, rfl, HA⟩ := hrel
    by_cases hlt2 : a < n
    ·have HAL := h! (show a < L.length by have := HNL.out; omega)
     obtain ⟨qd, od, Ba, da, rfl, hqd, hdc, hds⟩ := HT.out.dat hlt2
     obtain ⟨qs, os, Ma, ma, rfl, hqs, hsc, hms⟩ := HT.out.sat hlt2
     have HDC := h! (fun (W : World) (hb : Below w9.heap.size w9 W) => (hb.cell (p := ⟨qd, od + a, none⟩) hqd).trans hdc)
     have HSC := h! (fun (W : World) (hb : Below w9.heap.size w9 W) => (hb.cell (p := ⟨qs, os + a, none⟩) hqs).trans hsc)
     have HDS := h! hds
     have HMS := h! hms
     have ha0 : (0 : Int) ≤ (a : Int) := by omega
     have han : (a : Int) < (n : Int) := by omega
     clear hdc hsc hds hms
     go_wp2_with fail
     go_loopw [13] (fun i wq => ∃ b : Nat, b ≤ n ∧ i = .int .i64 b ∧ Hid (Below w9.heap.size w9 wq)) (fun i _ => n - (intOf i).toNat)
     case atStart => exact ⟨0, by omega, rfl, HA⟩
     case round =>
      clear HA
      obtain ⟨b, hbn, rfl, HA⟩ := hrel
      by_cases hlt3 : b < n
      ·have HBL := h! (show b < L.length by have := HNL.out; omega)
       obtain ⟨qx, ox, Bb, db, ex, _, hdb, hdsb⟩ := HT.out.dat hlt3
       injection ex with ex
       injection ex with ex1 ex2
       subst ex1 ex2
       obtain ⟨_, hloa, hla, hia⟩ := pL_facts HLg.out HAL.out
       obtain ⟨_, _, hlb, hib⟩ := pL_facts HLg.out HBL.out
       have hag := pL_agree HLg.out HHo.out HAL.out HBL.out
       have hwh := fun i d m => pL_whole HLg.out HHo.out HAL.out HBL.out i d m
       have hdsa := HDS.out
       have hmsa := HMS.out
       have hdca := HDC.out
       have hsca := HSC.out
       rw [hloa] at hmsa hsca
       obtain ⟨xa, hxa⟩ : ∃ xa, xa = (pL L a).1.ds := ⟨_, rfl⟩
       obtain ⟨ya, hya⟩ : ∃ ya, ya = (pL L a).2.1 := ⟨_, rfl⟩
       obtain ⟨xb, hxb⟩ : ∃ xb, xb = (pL L b).1.ds := ⟨_, rfl⟩
       rw [← hxa] at hla hia hag hdsa hmsa hdca hsca
       rw [← hya] at hmsa
       rw [← hxb] at hlb hib hag hdb hdsb
       simp only [← hxa, ← hya, ← hxb] at hwh
       obtain ⟨na, hna⟩ : ∃ na, na = xa.length := ⟨_, rfl⟩
       obtain ⟨nb, hnb⟩ : ∃ nb, nb = xb.length := ⟨_, rfl⟩
       rw [← hna] at hla hdsa hmsa hdca hsca
       rw [← hnb] at hlb hdb hdsb
       have KA := h! (fun W (hb : Below w9.heap.size w9 W) => show Calls Tryz.prog 17 #[.slice Ba na da, .slice Bb nb db] W (IsB true W) from by
        have := pagree16_any Ba Bb na nb da db xa xb W (hdsa.below hb) (hdsb.below hb) (by omega) (by omega) hia hib
        rwa [hag] at this)
       have KW := h! (fun W (hb : Below w9.heap.size w9 W) => whole_any Ba Ma Bb na nb da ma db xa ya xb b W (hdsa.below hb) (hmsa.below hb) (hdsb.below hb) hwh)
       have HSS := h! (fun (W : World) (hb : Below w9.heap.size w9 W) => show W.cell? ⟨qd, od + a, none⟩ = some (.slice Ba na da) ∧ W.cell? ⟨qd, od + b, none⟩ = some (.slice Bb nb db) ∧ W.cell? ⟨qs, os + a, none⟩ = some (.slice Ma na ma) from
        ⟨hdca W hb, (hb.cell (p := ⟨qd, od + b, none⟩) hqd).trans hdb, hsca W hb⟩)
       clear hloa hla hia hlb hib hag hwh hdsa hmsa hdca hsca hxa hya hxb hna hnb hdb hdsb
       have hb0 : (0 : Int) ≤ (b : Int) := by omega
       have hbn2 : (b : Int) < (n : Int) := by omega
       have bb1 : Below wr.heap.size wr wr.drew := (Below.refl _ _).drew
       have HA1 := h! (bmore HA.out bb1 n!)
       obtain ⟨s0, s1, s2⟩ := HSS.out _ HA.out
       go_wp2_with fail
       go_region_held3 (fun W => W.cell? ⟨qd, od + a, none⟩ = some (.slice Ba na da) ∧ W.cell? ⟨qd, od + b, none⟩ = some (.slice Bb nb db) ∧ W.cell? ⟨qs, os + a, none⟩ = some (.slice Ma na ma))
        (first | exact HSS.out _ HA1.out | exact HSS.out _ HA2.out | exact HSS.out _ HA3.out | go_keep)
        (first
         | (go_at_call 17; refine (KA.out _ HA1.out).mono ?_; rintro e w5 ⟨rfl, hb⟩; have HA2 := h! (bmore HA1.out hb n!); clear hb)
         | (go_at_call 29; refine (KW.out _ HA2.out).mono ?_; rintro e w6 ⟨rfl, hb⟩; have HA3 := h! (bmore HA2.out hb n!); clear hb))
       all_goals
        clear s0 s1 s2 KA KW HSS
        go_wp2_with fail
        go_roundw
        case rel => exact ⟨b + 1, by omega, by go_num, HA3⟩
        case measure => simp [intOf]; omega
      ·go_wp2_with fail
       go_roundw
       case rel => exact ⟨a + 1, by omega, by go_num, HA⟩
       case measure => simp [intOf]; omega
    ·have HF := h! (bmore HB3.out (bmore HT.out.bl HA.out n!) n!)
     go_wp2_with fail
     go_ret
     exact ⟨rfl, HF.out⟩
end Go.Proofs.YteebeiaokfenmaaGreat.KP
namespace Go.Proofs.YteebeiaokfenmaaGreat
open Go.RowKit
set_option linter.unusedVariables false
theorem orderAgrees_walk (a0 : Option Addr) (len0 cap0 : Nat) (z0 : List (List ByteArray)) (w : World) (w0 : SP.LogsArg w a0 len0 cap0 z0) :
  Calls Tryz.prog 6 #[.slice a0 len0 cap0] w fun e w' => e = .returned (.bool true) ∧ Below w.heap.size w w' :=
 KP.orderAgrees_walk0 a0 len0 cap0 z0 w w0.1 w0.2
end Go.Proofs.YteebeiaokfenmaaGreat
