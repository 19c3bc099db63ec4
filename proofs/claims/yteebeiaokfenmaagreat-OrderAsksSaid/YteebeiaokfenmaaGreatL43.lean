/- Contracts of functions, L43: each as its theorem says. -/
import Derived.Test.YteebeiaokfenmaaGreatL42
set_option linter.unusedVariables false
set_option linter.unusedSimpArgs false
set_option maxRecDepth 100000
set_option maxHeartbeats 16000000
namespace Go.Proofs.YteebeiaokfenmaaGreat
namespace KP
open Go.RowKit CP TP LP SP
open CM (Mg Cm)
open TM (Sp)
open KM (Wt Sk)
section
variable {L : List (List Cm)} {g : Int} {cs : List Cm} {k : Nat} {x : Cm} {y : Wt}
theorem fr_kind (h : x.k ≠ 2) : OM.fair1 L g cs k x := fun k1 => absurd k1 h
theorem fr_none (h : (stA g cs k).ws[KM.wat (stA g cs k).ws x.id]? = none) : OM.fair1 L g cs k x := fun _ y hy => by rw [h] at hy; cases hy
theorem fr_fin (h : (stA g cs k).ws[KM.wat (stA g cs k).ws x.id]? = some y) (hf : y.f = true) : OM.fair1 L g cs k x := fun _ z hz hf2 => by
 rw [h] at hz
 injection hz with hz
 subst hz
 rw [hf] at hf2
 cases hf2
theorem fr_low (h : (stA g cs k).ws[KM.wat (stA g cs k).ws x.id]? = some y) (hl : x.tm < y.t) : OM.fair1 L g cs k x := fun _ z hz _ ht => by
 rw [h] at hz
 injection hz with hz
 subst hz
 omega
theorem fr_same (h : stA g cs k = stA g cs (k + 1)) : OM.fair1 L g cs k x := fun _ z _ _ _ hn => absurd h.symm hn
theorem fr_is (h : (stA g cs k).ws[KM.wat (stA g cs k).ws x.id]? = some y) (hl : OM.lastF L y.m = (x.tm, true)) : OM.fair1 L g cs k x := fun _ z hz _ _ _ => by
 rw [h] at hz
 injection hz with hz
 subst hz
 exact hl
theorem fr_no (hk : x.k = 2) (h : (stA g cs k).ws[KM.wat (stA g cs k).ws x.id]? = some y) (hf : y.f = false) (hl : ¬ x.tm < y.t) (hs : stA g cs k ≠ stA g cs (k + 1)) (hn : OM.lastF L y.m ≠ (x.tm, true)) : ¬ OM.fair1 L g cs k x := fun q =>
 hn (q hk y h hf (by omega) (fun e => hs e.symm))
end
def FaMid (ws : List Wt) (id : Int) (wr : World) (u7 u8 : Value) (wx : World) : Prop :=
 ∃ (q : Nat) (A : Option Addr) (c : Nat) (y : Wt) (b : Bool), u7 = .pointer (some ⟨q, 0, none⟩) ∧ u8 = .bool b ∧ Below wr.heap.size wr wx ∧ wr.heap.size ≤ q ∧ Box wx q 78 (wcs A c y) ∧ RowIs wr A c y.m.gs ∧
  ((b = true ∧ ws[KM.wat ws id]? = some y) ∨ (b = false ∧ ws[KM.wat ws id]? = none))
theorem fair16_any (A : Option Addr) (n c : Nat) (ls : List (List ByteArray)) (w : World) (h : LogsIs w A n c ls) (hs : ∀ l ∈ ls, ∀ t ∈ l, t.size ≤ maxLen) (h0 : allE ls = 0) :
  Calls Tryz.prog 52 #[.slice A n c] w fun e w' => ∃ b : Bool, e = .returned (.bool b) ∧ (b = true ↔ OM.honest (cmL ls)) ∧ Below w.heap.size w w' := by
 have hln : ls.length = n := by obtain ⟨_, _, _, h1, _⟩ := h; exact h1
 have hn63 : n ≤ 9223372036854775807 := by
  obtain ⟨_, _, _, _, h1, h2⟩ := h
  unfold maxLen at h2
  omega
 obtain ⟨hL, h4, hck⟩ := allE_zero h0
 have HCK := h! hck
 have HLN := h! hln
 have HLg := h! hL
 have HCL := h! (cmL_len ls)
 have K1 := h! (one16_any A n c ls w h hs h0)
 have KL := h! (fun vm m W (hb : Below w.heap.size w W) (hm : MgIs W vm m) hg => last16_any A n c ls vm m W (h.below hb) hs h0 hm hg)
 have HLA := h! (fun (g : Nat) l (hl : ls[g]? = some l) => show (cmL ls)[g]? = some (LM.cmds l) by unfold cmL; rw [List.getElem?_map, hl]; rfl)
 obtain ⟨L, hLe⟩ : ∃ L, L = cmL ls := ⟨_, rfl⟩
 rw [← hLe] at HLg HCL K1 KL HLA ⊢
 have hn4 : n ≤ 4 := by omega
 have H := h! (fun W (hb : Below w.heap.size w W) => h.below hb)
 have HS := h! hs
 clear h hs h0 hln hL h4 hck hLe
 go_enter Tryz.func52, Tryz.ntmps52
 go_wp2_with fail
 refine (K1.out).mono ?_
 rintro e w1 ⟨b1, rfl, hb1, hb⟩
 have HB := h! hb
 have HO1 := h! hb1
 clear hb hb1 K1
 rcases b1 with _ | _
 ·have HF := h! (show ¬ OM.honest L from fun k => by have := HO1.out.2 k.1; cases this)
  go_wp2_with fail
  go_ret
  exact ⟨false, rfl, ⟨fun k => (by cases k), fun k => absurd k HF.out⟩, HB.out⟩
 have HONE := h! (HO1.out.1 rfl)
 have HR0 := h! (Below.refl w1.heap.size w1)
 have HG0 := h! (show ∀ (g' : Nat) cs', g' < 0 → L[g']? = some cs' → ∀ (k : Nat) x, cs'[k]? = some x → OM.fair1 L g' cs' k x from fun g' cs' hh => absurd hh (by omega))
 clear HO1
 go_wp2_with fail
 go_loopw [3] (fun i wr => ∃ g : Nat, g ≤ n ∧ i = .int .i64 g ∧ Hid (Below w1.heap.size w1 wr) ∧ Hid (∀ (g' : Nat) cs', g' < g → L[g']? = some cs' → ∀ (k : Nat) x, cs'[k]? = some x → OM.fair1 L g' cs' k x)) (fun i _ => n - (intOf i).toNat)
 case atStart => exact ⟨0, by omega, rfl, HR0, HG0⟩
 case round =>
  clear HR0 HG0
  obtain ⟨g, hgn, rfl, HA, HG⟩ := hrel
  by_cases hlt : g < n
  ·obtain ⟨l, hl⟩ : ∃ l, ls[g]? = some l := ⟨_, List.getElem?_eq_getElem (by have := HLN.out; omega)⟩
   obtain ⟨al, B, d, rfl, _, q1, q2, q3, q4⟩ := logs_get (H.out _ (bmore HB.out HA.out n!)) hl
   have hmem := List.mem_of_getElem? hl
   have KS := h! (steps16_any g B l.length d l wr ⟨q2, q3, q4, HS.out l hmem⟩ (by omega) (HCK.out l hmem))
   obtain ⟨hmay, hlen⟩ := log_may (HCK.out l hmem)
   have HLG := h! (HLA.out g l hl)
   obtain ⟨cs, hcs⟩ : ∃ cs, cs = LM.cmds l := ⟨_, rfl⟩
   rw [← hcs] at KS hmay hlen HLG
   obtain ⟨N, hN⟩ : ∃ N, N = cs.length := ⟨_, rfl⟩
   rw [← hN] at hlen KS
   have HN := h! hN
   have HC := h! hmay
   have hg0 : (0 : Int) ≤ (g : Int) := by omega
   have hgn2 : (g : Int) < (n : Int) := by omega
   have HGA := h! (show 0 ≤ (g : Int) ∧ (g : Int) < 4 by omega)
   clear hl hmem q2 q3 q4 hmay hcs hN
   go_wp2_with fail
   clear q1
   refine (KS.out).mono ?_
   rintro e w2 ⟨sv, rfl, hst, hb2⟩
   obtain ⟨As, cas, rfl, hc1, hc2⟩ := hst.form
   have HST := h! hst
   have HB2 := h! (bmore HA.out hb2 n!)
   have hsl : N ≤ 9223372036854775807 := by omega
   have HR0 := h! (Below.refl w2.heap.size w2)
   have HK0 := h! (show ∀ (k' : Nat) x, k' < 0 → cs[k']? = some x → OM.fair1 L g cs k' x from fun k' x hh => absurd hh (by omega))
   clear hst hb2 hc1 hc2 KS
   go_wp2_with fail
   go_loopw [5] (fun i wq => ∃ k : Nat, k ≤ N ∧ i = .int .i64 k ∧ Hid (Below w2.heap.size w2 wq) ∧ Hid (∀ (k' : Nat) x, k' < k → cs[k']? = some x → OM.fair1 L g cs k' x)) (fun i _ => N - (intOf i).toNat)
   case atStart => exact ⟨0, by omega, rfl, HR0, HK0⟩
   case round =>
    clear HR0 HK0
    obtain ⟨k, hk, rfl, HQ, HK⟩ := hrel
    have HBQ := h! (bmore HB2.out HQ.out n!)
    by_cases hlt2 : k < N
    ·obtain ⟨p, el, rfl, hpb, hpl, hel, ⟨cur, hcur⟩, hcl⟩ := (HST.out.below HQ.out).at_ hlt2
     obtain ⟨x, Ac, cc, Bc, dc, A4, n4, a4, B4, m4, b4, A6, n6, a6, B6, m6, b6, E, m, f, h1, rfl, hg1, hg2, h5, h6, h7⟩ := hel.ex
     have HX1 := h! h1
     have HNX := h! (fun (q : OM.fair1 L g cs k x) => show ∀ (k' : Nat) z, k' < k + 1 → cs[k']? = some z → OM.fair1 L g cs k' z from fun k' z hk' hz => by
      by_cases e : k' = k
      ·subst e
       rw [HX1.out] at hz
       injection hz with hz
       subst hz
       exact q
      ·exact HK.out k' z (by omega) hz)
     have HNO := h! (fun (q : ¬ OM.fair1 L g cs k x) => show ¬ OM.honest L from fun hh => q (hh.2 g cs HLG.out k x HX1.out))
     have hI : OM.Inv (g : Int) (cs.take k) := OM.inv (by have := HGA.out; omega) fun d hd => HC.out d (List.mem_of_mem_take hd)
     have HWM := h! (fun y (hy : y ∈ (stA g cs k).ws) => (hI.m.2.2.1.1 y hy).1)
     have HS5 := h! h5.is
     have HS6 := h! h6.is
     obtain ⟨S1, hS1⟩ : ∃ S1, S1 = stA g cs k := ⟨_, rfl⟩
     obtain ⟨S2, hS2⟩ : ∃ S2, S2 = stA g cs (k + 1) := ⟨_, rfl⟩
     rw [← hS1] at hcl HWM HS5
     rw [← hS2] at hcl HS6
     have HE1 := h! hS1
     have HE2 := h! hS2
     have HCE := h! (fun (W : World) (hb : Below wr.heap.size wr W) j u hu => (hb.cell (p := ⟨p, k * 19 + j, none⟩) hpl).trans (hcl j u hu))
     have hk0 : (0 : Int) ≤ (k : Int) := by omega
     have hkn : (k : Int) < (N : Int) := by omega
     clear h1 hg1 hg2 h5 h6 h7 hel hI hcur hS1 hS2 hcl hpl hpb
     obtain ⟨xk, ⟨xi, xg, xt, xky, xb⟩, xid, xtm, xms, xtp, xwh, xn⟩ := x
     have hc : ∀ j u, (scells Ac cc Bc dc ⟨xk, ⟨xi, xg, xt, xky, xb⟩, xid, xtm, xms, xtp, xwh, xn⟩ S1.c (.slice A4 n4 a4) (.slice B4 m4 b4) S2.c (.slice A6 n6 a6) (.slice B6 m6 b6) (.slice E m f)).toList[j]? = some u → wr.cell? ⟨p, k * 19 + j, none⟩ = some u := fun j u hu => HCE.out wr (Below.refl _ _) j u hu
     have z0 := hc 0 _ rfl
     have z1 := hc 1 _ rfl
     have z2 := hc 2 _ rfl
     have z3 := hc 3 _ rfl
     have z4 := hc 4 _ rfl
     have z5 := hc 5 _ rfl
     have z6 := hc 6 _ rfl
     have z7 := hc 7 _ rfl
     have z8 := hc 8 _ rfl
     have z9 := hc 9 _ rfl
     have z10 := hc 10 _ rfl
     have z11 := hc 11 _ rfl
     simp only [Nat.add_zero] at z0
     clear hc
     have HAL := h! (show Below wr.heap.size wr (wr.alloc (.cells #[.int .u8 xk, .int .i64 xi, .slice Ac xg.length cc, .int .i64 xt, .string xky, .string xb, .int .i64 xid, .int .i64 xtm, .slice Bc xms.length dc, .int .i64 xtp, .int .i64 xwh, .int .i64 xn] 91)) from (Below.refl _ _).alloc n! _)
     have Y := h! (Box.new wr 91 #[.int .u8 xk, .int .i64 xi, .slice Ac xg.length cc, .int .i64 xt, .string xky, .string xb, .int .i64 xid, .int .i64 xtm, .slice Bc xms.length dc, .int .i64 xtp, .int .i64 xwh, .int .i64 xn])
     go_upto_region 11 with (fail)
     clear z0 z1 z2 z3 z4 z5 z6 z7 z8 z9 z10 z11
     generalize wr.alloc (.cells #[.int .u8 xk, .int .i64 xi, .slice Ac xg.length cc, .int .i64 xt, .string xky, .string xb, .int .i64 xid, .int .i64 xtm, .slice Bc xms.length dc, .int .i64 xtp, .int .i64 xwh, .int .i64 xn] 91) = w3 at HAL Y ⊢
     obtain ⟨p6, hp6⟩ : ∃ p6, wr.heap.size = p6 := ⟨_, rfl⟩
     rw [hp6] at Y
     try simp only [hp6]
     clear hp6
     have HQ3 := h! (bmore HQ.out HAL.out n!)
     have y0 := Y.out.cell 0
     simp at y0
     by_cases hkd : xk = 2
     rotate_left
     ·have hkb : (xk != 2) = true := by simpa using hkd
      have hkc : (xk == 2) = false := by simpa using hkd
      have NX := h! (HNX.out (fr_kind hkd))
      clear hkd
      go_wp2_with fail
      go_roundw
      case rel => exact ⟨k + 1, by omega, by go_num, HQ3, NX⟩
      case measure => simp [intOf]; omega
     subst hkd
     have HCF := h! (fun (W : World) (hb : Below w3.heap.size w3 W) j u hu => HCE.out W (bmore HAL.out hb n!) j u hu)
     have HSS := h! (fun (W : World) (hb : Below w3.heap.size w3 W) => show W.cell? ⟨p, k * 19 + 12, none⟩ = some (.int .i64 S1.c) ∧ W.cell? ⟨p, k * 19 + 12 + 1, none⟩ = some (.slice A4 n4 a4) ∧ W.cell? ⟨p, k * 19 + 12 + 2, none⟩ = some (.slice B4 m4 b4) ∧ W.cell? ⟨p6, 6, none⟩ = some (.int .i64 xid) from
      ⟨HCF.out W hb 12 _ rfl, HCF.out W hb 13 _ rfl, HCF.out W hb 14 _ rfl, (Y.out.below hb Y.out.lt).cell 6⟩)
     have KW := h! (fun W (hb : Below w3.heap.size w3 W) => wait16_any _ S1 xid w3 W (HS5.out.below HAL.out) hb)
     unfold vsk at KW
     go_upto_region 12 with (fail)
     clear y0
     go_cut [7, 8] (fun u7 u8 wx => FaMid S1.ws xid w3 u7 u8 wx)
     case first =>
      have bb1 : Below w3.heap.size w3 w3.drew := (Below.refl _ _).drew
      obtain ⟨ud, hud⟩ : ∃ ud, ud = w3.drew := ⟨_, rfl⟩
      refine wp_region_held_drew (S := fun w' => w'.cell? ⟨p, k * 19 + 12, none⟩ = some (.int .i64 S1.c) ∧ w'.cell? ⟨p, k * 19 + 12 + 1, none⟩ = some (.slice A4 n4 a4) ∧ w'.cell? ⟨p, k * 19 + 12 + 2, none⟩ = some (.slice B4 m4 b4) ∧ w'.cell? ⟨p6, 6, none⟩ = some (.int .i64 xid)) (by kernel_rfl) (HSS.out _ bb1) (fun hHeld => ?_)
      rw [← hud] at bb1 hHeld ⊢
      clear hud
      refine qT 0 ?_; try simp only [Act.put, qq]
      refine qT 1 ?_; try simp only [Act.put, qq]
      refine qT 2 ?_; try simp only [Act.put, qq]
      refine qT 3 ?_; try simp only [Act.put, qq]
      refine qT 4 ?_; try simp only [Act.put, qq]
      refine qT 5 ?_; try simp only [Act.put, qq]
      refine qT 6 ?_; try simp only [Act.put, qq]
      refine wpAnyH_ready (rs := [7, 11]) (by kernel_rfl) (by simp) ?_
      refine AllReadyH.cons rfl (fun K hK => ?_) (AllReadyH.cons rfl (fun K hK => ?_) AllReadyH.nil)
      ·go_simp
       refine (KW.out ud bb1).mono ?_
       rintro e w4 ⟨bz, A8, c8, y, rfl, ha, hrw, hcd⟩
       unfold vwt
       have bb4 := bmore bb1 ha n!
       have HRW := h! hrw
       have HCD := h! hcd
       clear ha hrw hcd
       refine hK.out _ _ (HSS.out _ bb4) (fun hHeld => ?_)
       clear hK
       try simp only [Act.put, qq]
       refine qT 8 ?_; try simp only [Act.put, qq]
       refine qT 9 ?_; try simp only [Act.put, qq]
       refine qT 10 ?_; try simp only [Act.put, qq]
       refine qR 11 fun K hK => ?_
       go_simp
       have bb5 : Below w3.heap.size w3 (w4.alloc (.cells #[.int .i64 0, .slice none 0 0, .int .i64 0, .string ⟨#[]⟩, .string ⟨#[]⟩, .int .i64 0, .bool false] 78)) := bmore bb4 ((Below.refl _ _).alloc n! _) n!
       have V := h! (Box.new w4 78 #[.int .i64 0, .slice none 0 0, .int .i64 0, .string ⟨#[]⟩, .string ⟨#[]⟩, .int .i64 0, .bool false])
       have HV9 := h! bb4.size
       refine hK.out _ _ (HSS.out _ bb5) (fun hHeld => ?_)
       clear hK
       try simp only [Act.put, qq]
       generalize w4.alloc (.cells #[.int .i64 0, .slice none 0 0, .int .i64 0, .string ⟨#[]⟩, .string ⟨#[]⟩, .int .i64 0, .bool false] 78) = w5 at V bb5 hHeld ⊢
       obtain ⟨p9, hp9⟩ : ∃ p9, w4.heap.size = p9 := ⟨_, rfl⟩
       rw [hp9] at V HV9
       simp only [hp9]
       clear hp9
       obtain ⟨⟨q0, q1, q2, q3, q4, q5, q6⟩, r0, r1, r2, r3, r4, r5, r6⟩ := box_wtf V.out
       refine qR 12 fun K hK => ?_
       go_simp
       have bbE := pt7_below bb5 HV9.out (.int .i64 y.m.id) (.slice A8 y.m.gs.length c8) (.int .i64 y.m.tp) (.string y.m.key) (.string y.m.body) (.int .i64 y.t) (.bool y.f)
       have VE := h! (pt7_box V.out (.int .i64 y.m.id) (.slice A8 y.m.gs.length c8) (.int .i64 y.m.tp) (.string y.m.key) (.string y.m.body) (.int .i64 y.t) (.bool y.f))
       unfold pt7 at bbE VE
       refine hK.out _ _ (HSS.out _ bbE) (fun hHeld => ?_)
       clear hK
       try simp only [Act.put, qq]
       refine qT 13 ?_; try simp only [Act.put, qq]
       refine wpAnyH_done (by kernel_rfl) ?_ _
       go_wp2_with fail
       go_meet
       case rel => exact ⟨p9, A8, c8, y, bz, rfl, rfl, bbE, HV9.out, VE.out, HRW.out, HCD.out⟩
      ·go_simp
       have bb2 : Below w3.heap.size w3 (ud.alloc (.cells #[.int .i64 0, .slice none 0 0, .int .i64 0, .string ⟨#[]⟩, .string ⟨#[]⟩, .int .i64 0, .bool false] 78)) := bmore bb1 ((Below.refl _ _).alloc n! _) n!
       have V := h! (Box.new ud 78 #[.int .i64 0, .slice none 0 0, .int .i64 0, .string ⟨#[]⟩, .string ⟨#[]⟩, .int .i64 0, .bool false])
       have HV9 := h! bb1.size
       refine hK.out _ _ (HSS.out _ bb2) (fun hHeld => ?_)
       clear hK
       try simp only [Act.put, qq]
       generalize ud.alloc (.cells #[.int .i64 0, .slice none 0 0, .int .i64 0, .string ⟨#[]⟩, .string ⟨#[]⟩, .int .i64 0, .bool false] 78) = w4 at V bb2 hHeld ⊢
       obtain ⟨p9, hp9⟩ : ∃ p9, ud.heap.size = p9 := ⟨_, rfl⟩
       rw [hp9] at V HV9
       simp only [hp9]
       clear hp9
       refine qR 7 fun K hK => ?_
       go_simp
       refine (KW.out w4 bb2).mono ?_
       rintro e w5 ⟨bz, A8, c8, y, rfl, ha, hrw, hcd⟩
       unfold vwt
       have bb5 := bmore bb2 ha n!
       replace V := h! (V.out.below ha V.out.lt)
       have HRW := h! hrw
       have HCD := h! hcd
       clear ha hrw hcd
       refine hK.out _ _ (HSS.out _ bb5) (fun hHeld => ?_)
       clear hK
       try simp only [Act.put, qq]
       refine qT 8 ?_; try simp only [Act.put, qq]
       refine qT 9 ?_; try simp only [Act.put, qq]
       refine qT 10 ?_; try simp only [Act.put, qq]
       obtain ⟨⟨q0, q1, q2, q3, q4, q5, q6⟩, r0, r1, r2, r3, r4, r5, r6⟩ := box_wtf V.out
       refine qR 12 fun K hK => ?_
       go_simp
       have bbE := pt7_below bb5 HV9.out (.int .i64 y.m.id) (.slice A8 y.m.gs.length c8) (.int .i64 y.m.tp) (.string y.m.key) (.string y.m.body) (.int .i64 y.t) (.bool y.f)
       have VE := h! (pt7_box V.out (.int .i64 y.m.id) (.slice A8 y.m.gs.length c8) (.int .i64 y.m.tp) (.string y.m.key) (.string y.m.body) (.int .i64 y.t) (.bool y.f))
       unfold pt7 at bbE VE
       refine hK.out _ _ (HSS.out _ bbE) (fun hHeld => ?_)
       clear hK
       try simp only [Act.put, qq]
       refine qT 13 ?_; try simp only [Act.put, qq]
       refine wpAnyH_done (by kernel_rfl) ?_ _
       go_wp2_with fail
       go_meet
       case rel => exact ⟨p9, A8, c8, y, bz, rfl, rfl, bbE, HV9.out, VE.out, HRW.out, HCD.out⟩
     case rest =>
      obtain ⟨q7, A8, c8, y, b8, rfl, rfl, hb8, hq8, hbox, hrow8, hcond⟩ := hcut
      have HB8 := h! hb8
      have HQ8 := h! (bmore HQ3.out hb8 n!)
      have HBW8 := h! (bmore HB.out (bmore HB2.out HQ8.out n!) n!)
      have HBX := h! hbox
      have HROW8 := h! (hrow8.below hb8)
      have Y8 := h! (Y.out.below hb8 Y.out.lt)
      clear hb8 hq8 hbox hrow8 KW HSS
      have bb1 : Below wc.heap.size wc wc.drew := (Below.refl _ _).drew
      have HCD := h! (fun (W : World) (hb : Below wc.heap.size wc W) j u hu => HCF.out W (bmore HB8.out hb n!) j u hu)
      obtain ⟨ud, hud⟩ : ∃ ud, ud = wc.drew := ⟨_, rfl⟩
      rcases hcond with ⟨rfl, hw⟩ | ⟨rfl, hw⟩
      rotate_left
      ·have NX := h! (HNX.out (fr_none (by rw [← HE1.out]; exact hw)))
       clear hw
       go_upto_region 13 with (fail)
       refine wp_region_held_drew (S := fun _ => True) (by kernel_rfl) trivial (fun hHeld => ?_)
       rw [← hud] at bb1 ⊢
       clear hud
       refine qT 0 ?_; try simp only [Act.put, qq]
       refine qT 1 ?_; try simp only [Act.put, qq]
       refine qT 2 ?_; try simp only [Act.put, qq]
       refine qS 3 ?_; try simp only [Act.put, qq]
       refine qS 4 ?_; try simp only [Act.put, qq]
       refine qT 5 ?_; try simp only [Act.put, qq]
       refine qT 6 ?_; try simp only [Act.put, qq]
       refine qS 7 ?_; try simp only [Act.put, qq]
       refine qS 8 ?_; try simp only [Act.put, qq]
       refine qS 9 ?_; try simp only [Act.put, qq]
       refine qS 10 ?_; try simp only [Act.put, qq]
       refine qS 11 ?_; try simp only [Act.put, qq]
       refine qT 12 ?_; try simp only [Act.put, qq]
       refine qT 13 ?_; try simp only [Act.put, qq]
       refine qS 14 ?_; try simp only [Act.put, qq]
       refine qS 15 ?_; try simp only [Act.put, qq]
       refine qS 16 ?_; try simp only [Act.put, qq]
       refine qS 17 ?_; try simp only [Act.put, qq]
       refine qS 18 ?_; try simp only [Act.put, qq]
       refine qS 19 ?_; try simp only [Act.put, qq]
       refine qS 20 ?_; try simp only [Act.put, qq]
       refine qS 21 ?_; try simp only [Act.put, qq]
       refine qS 22 ?_; try simp only [Act.put, qq]
       refine qS 23 ?_; try simp only [Act.put, qq]
       refine qS 24 ?_; try simp only [Act.put, qq]
       refine qT 25 ?_; try simp only [Act.put, qq]
       refine wpAnyH_done (by kernel_rfl) ?_ _
       clear hHeld
       have HN := h! (bmore HQ8.out bb1 n!)
       clear bb1
       go_wp2_with fail
       go_roundw
       case rel => exact ⟨k + 1, by omega, by go_num, HN, NX⟩
       case measure => simp [intOf]; omega
      have HW := h! hw
      have hok := HWM.out y (List.mem_of_getElem? hw)
      have HGG := h! (fun g hg => ((OM.mg_groups hok).2 g hg).1)
      obtain ⟨ym, yt, yf⟩ := y
      have KL2 := h! (fun W (hb : Below wc.heap.size wc W) => KL.out (.agg (mcells A8 c8 ym)) ym W (bmore HBW8.out hb n!) ⟨A8, c8, rfl, HROW8.out.below hb⟩ HGG.out)
      obtain ⟨R, hR⟩ : ∃ R, R = OM.lastF L ym := ⟨_, rfl⟩
      try simp only at KL2
      rw [← hR] at KL2
      have HRE := h! hR
      have NF := h! (fun (q : yf = true) => HNX.out (fr_fin (y := ⟨ym, yt, yf⟩) (by rw [← HE1.out]; exact HW.out) q))
      have NL := h! (fun (q : xtm < yt) => HNX.out (fr_low (y := ⟨ym, yt, yf⟩) (by rw [← HE1.out]; exact HW.out) q))
      have NS := h! (fun (q : S1 = S2) => HNX.out (fr_same (by rw [← HE1.out, ← HE2.out]; exact q)))
      have NI := h! (fun (q : R = (xtm, true)) => HNX.out (fr_is (y := ⟨ym, yt, yf⟩) (by rw [← HE1.out]; exact HW.out) (by rw [← hR]; exact q)))
      have NN := h! (fun (q1 : yf = false) (q2 : ¬ xtm < yt) (q3 : S1 ≠ S2) (q4 : R ≠ (xtm, true)) => HNO.out (fr_no rfl (y := ⟨ym, yt, yf⟩) (by rw [← HE1.out]; exact HW.out) q1 q2 (by rw [← HE1.out, ← HE2.out]; exact q3) (by rw [← hR]; exact q4)))
      clear hw hok hR HW HNX HNO KL HWM HGG
      obtain ⟨yi, yg, yp, yk, yb⟩ := ym
      unfold wcs at HBX
      unfold mcells at KL2
      simp only at HBX KL2
      rcases yf with _ | _
      rotate_left
      ·have NX := h! (NF.out rfl)
       go_upto_region 13 with (fail)
       have HSS := h! (fun (W : World) (hb : Below wc.heap.size wc W) => show W.cell? ⟨q7, 6, none⟩ = some (.bool true) from (HBX.out.below hb HBX.out.lt).cell 6)
       refine wp_region_held_drew (S := fun W => W.cell? ⟨q7, 6, none⟩ = some (.bool true)) (by kernel_rfl) (HSS.out _ bb1) (fun hHeld => ?_)
       rw [← hud] at bb1 hHeld ⊢
       clear hud
       refine qT 0 ?_; try simp only [Act.put, qq]
       refine qT 1 ?_; try simp only [Act.put, qq]
       refine qT 2 ?_; try simp only [Act.put, qq]
       refine qT 3 ?_; try simp only [Act.put, qq]
       refine qT 4 ?_; try simp only [Act.put, qq]
       refine qT 5 ?_; try simp only [Act.put, qq]
       refine qT 6 ?_; try simp only [Act.put, qq]
       refine qS 7 ?_; try simp only [Act.put, qq]
       refine qS 8 ?_; try simp only [Act.put, qq]
       refine qS 9 ?_; try simp only [Act.put, qq]
       refine qS 10 ?_; try simp only [Act.put, qq]
       refine qS 11 ?_; try simp only [Act.put, qq]
       refine qT 12 ?_; try simp only [Act.put, qq]
       refine qT 13 ?_; try simp only [Act.put, qq]
       refine qS 14 ?_; try simp only [Act.put, qq]
       refine qS 15 ?_; try simp only [Act.put, qq]
       refine qS 16 ?_; try simp only [Act.put, qq]
       refine qS 17 ?_; try simp only [Act.put, qq]
       refine qS 18 ?_; try simp only [Act.put, qq]
       refine qS 19 ?_; try simp only [Act.put, qq]
       refine qS 20 ?_; try simp only [Act.put, qq]
       refine qS 21 ?_; try simp only [Act.put, qq]
       refine qS 22 ?_; try simp only [Act.put, qq]
       refine qS 23 ?_; try simp only [Act.put, qq]
       refine qS 24 ?_; try simp only [Act.put, qq]
       refine qT 25 ?_; try simp only [Act.put, qq]
       refine wpAnyH_done (by kernel_rfl) ?_ _
       clear hHeld
       have HN := h! (bmore HQ8.out bb1 n!)
       clear bb1
       go_wp2_with fail
       go_roundw
       case rel => exact ⟨k + 1, by omega, by go_num, HN, NX⟩
       case measure => simp [intOf]; omega
      by_cases hlow : xtm < yt
      ·have NX := h! (NL.out hlow)
       have hld : decide (xtm < yt) = true := by rw [decide_eq_true_iff]; exact hlow
       go_upto_region 13 with (fail)
       have HSS := h! (fun (W : World) (hb : Below wc.heap.size wc W) => show W.cell? ⟨q7, 6, none⟩ = some (.bool false) ∧ W.cell? ⟨q7, 5, none⟩ = some (.int .i64 yt) ∧ W.cell? ⟨p6, 7, none⟩ = some (.int .i64 xtm) from ⟨(HBX.out.below hb HBX.out.lt).cell 6, (HBX.out.below hb HBX.out.lt).cell 5, (Y8.out.below hb Y8.out.lt).cell 7⟩)
       refine wp_region_held_drew (S := fun W => W.cell? ⟨q7, 6, none⟩ = some (.bool false) ∧ W.cell? ⟨q7, 5, none⟩ = some (.int .i64 yt) ∧ W.cell? ⟨p6, 7, none⟩ = some (.int .i64 xtm)) (by kernel_rfl) (HSS.out _ bb1) (fun hHeld => ?_)
       rw [← hud] at bb1 hHeld ⊢
       clear hud
       refine qT 0 ?_; try simp only [Act.put, qq]
       refine qT 1 ?_; try simp only [Act.put, qq]
       refine qT 2 ?_; try simp only [Act.put, qq]
       refine qT 3 ?_; try simp only [Act.put, qq]
       refine qT 4 ?_; try simp only [Act.put, qq]
       refine qT 5 ?_; try simp only [Act.put, qq]
       refine qT 6 ?_; try simp only [Act.put, qq]
       refine qT 7 ?_; try simp only [Act.put, qq]
       refine qT 8 ?_; try simp only [Act.put, qq]
       refine qT 9 ?_; try simp only [Act.put, qq]
       refine qT 10 ?_; try simp only [Act.put, qq]
       refine qT 11 ?_; try simp only [Act.put, qq]
       refine qT 12 ?_; try simp only [Act.put, qq]
       refine qT 13 ?_; try simp only [Act.put, qq]
       refine qS 14 ?_; try simp only [Act.put, qq]
       refine qS 15 ?_; try simp only [Act.put, qq]
       refine qS 16 ?_; try simp only [Act.put, qq]
       refine qS 17 ?_; try simp only [Act.put, qq]
       refine qS 18 ?_; try simp only [Act.put, qq]
       refine qS 19 ?_; try simp only [Act.put, qq]
       refine qS 20 ?_; try simp only [Act.put, qq]
       refine qS 21 ?_; try simp only [Act.put, qq]
       refine qS 22 ?_; try simp only [Act.put, qq]
       refine qS 23 ?_; try simp only [Act.put, qq]
       refine qS 24 ?_; try simp only [Act.put, qq]
       refine qT 25 ?_; try simp only [Act.put, qq]
       refine wpAnyH_done (by kernel_rfl) ?_ _
       clear hHeld
       have HN := h! (bmore HQ8.out bb1 n!)
       clear bb1
       go_wp2_with fail
       go_roundw
       case rel => exact ⟨k + 1, by omega, by go_num, HN, NX⟩
       case measure => simp [intOf]; omega
      have hld : decide (xtm < yt) = false := by rw [decide_eq_false_iff_not]; exact hlow
      have HLO := h! hlow
      have HSS := h! (fun (W : World) (hb : Below wc.heap.size wc W) => show W.cell? ⟨q7, 6, none⟩ = some (.bool false) ∧ W.cell? ⟨q7, 5, none⟩ = some (.int .i64 yt) ∧ W.cell? ⟨p6, 7, none⟩ = some (.int .i64 xtm) ∧ W.cell? ⟨p, k * 19 + 12, none⟩ = some (.int .i64 S1.c) ∧ W.cell? ⟨p, k * 19 + 12 + 1, none⟩ = some (.slice A4 n4 a4) ∧ W.cell? ⟨p, k * 19 + 12 + 2, none⟩ = some (.slice B4 m4 b4) ∧ W.cell? ⟨p, k * 19 + 15, none⟩ = some (.int .i64 S2.c) ∧ W.cell? ⟨p, k * 19 + 15 + 1, none⟩ = some (.slice A6 n6 a6) ∧ W.cell? ⟨p, k * 19 + 15 + 2, none⟩ = some (.slice B6 m6 b6) from ⟨(HBX.out.below hb HBX.out.lt).cell 6, (HBX.out.below hb HBX.out.lt).cell 5, (Y8.out.below hb Y8.out.lt).cell 7, HCD.out W hb 12 _ rfl, HCD.out W hb 13 _ rfl, HCD.out W hb 14 _ rfl, HCD.out W hb 15 _ rfl, HCD.out W hb 16 _ rfl, HCD.out W hb 17 _ rfl⟩)
      obtain ⟨s, hsd⟩ : ∃ s, s = decide (S1 = S2) := ⟨_, rfl⟩
      have KSA := h! (fun W (hb : Below wc.heap.size wc W) => rsame15_any _ _ S1 S2 W (HS5.out.below (bmore (bmore HAL.out HB8.out n!) hb n!)) (HS6.out.below (bmore (bmore HAL.out HB8.out n!) hb n!)))
      unfold vsk at KSA
      rw [← hsd] at KSA
      have HSD := h! hsd
      clear hsd
      go_upto_region 13 with (fail)
      refine wp_region_held_drew (S := fun W => W.cell? ⟨q7, 6, none⟩ = some (.bool false) ∧ W.cell? ⟨q7, 5, none⟩ = some (.int .i64 yt) ∧ W.cell? ⟨p6, 7, none⟩ = some (.int .i64 xtm) ∧ W.cell? ⟨p, k * 19 + 12, none⟩ = some (.int .i64 S1.c) ∧ W.cell? ⟨p, k * 19 + 12 + 1, none⟩ = some (.slice A4 n4 a4) ∧ W.cell? ⟨p, k * 19 + 12 + 2, none⟩ = some (.slice B4 m4 b4) ∧ W.cell? ⟨p, k * 19 + 15, none⟩ = some (.int .i64 S2.c) ∧ W.cell? ⟨p, k * 19 + 15 + 1, none⟩ = some (.slice A6 n6 a6) ∧ W.cell? ⟨p, k * 19 + 15 + 2, none⟩ = some (.slice B6 m6 b6)) (by kernel_rfl) (HSS.out _ bb1) (fun hHeld => ?_)
      rw [← hud] at bb1 hHeld ⊢
      clear hud
      refine qT 0 ?_; try simp only [Act.put, qq]
      refine qT 1 ?_; try simp only [Act.put, qq]
      refine qT 2 ?_; try simp only [Act.put, qq]
      refine qT 3 ?_; try simp only [Act.put, qq]
      refine qT 4 ?_; try simp only [Act.put, qq]
      refine qT 5 ?_; try simp only [Act.put, qq]
      refine qT 6 ?_; try simp only [Act.put, qq]
      refine qT 7 ?_; try simp only [Act.put, qq]
      refine qT 8 ?_; try simp only [Act.put, qq]
      refine qT 9 ?_; try simp only [Act.put, qq]
      refine qT 10 ?_; try simp only [Act.put, qq]
      refine qT 11 ?_; try simp only [Act.put, qq]
      refine qT 12 ?_; try simp only [Act.put, qq]
      refine qT 13 ?_; try simp only [Act.put, qq]
      refine qT 14 ?_; try simp only [Act.put, qq]
      refine qT 15 ?_; try simp only [Act.put, qq]
      refine qT 16 ?_; try simp only [Act.put, qq]
      refine qT 17 ?_; try simp only [Act.put, qq]
      refine qT 18 ?_; try simp only [Act.put, qq]
      refine qT 19 ?_; try simp only [Act.put, qq]
      refine qT 20 ?_; try simp only [Act.put, qq]
      refine qT 21 ?_; try simp only [Act.put, qq]
      refine qT 22 ?_; try simp only [Act.put, qq]
      refine qT 23 ?_; try simp only [Act.put, qq]
      refine qR 24 fun K hK => ?_
      go_simp
      refine (KSA.out _ bb1).mono ?_
      rintro e w5 ⟨rfl, hb⟩
      have bb2 := bmore bb1 hb n!
      clear hb
      refine hK.out _ _ (HSS.out _ bb2) (fun hHeld => ?_)
      clear hK
      try simp only [Act.put, qq]
      refine qT 25 ?_; try simp only [Act.put, qq]
      refine wpAnyH_done (by kernel_rfl) ?_ _
      clear hHeld
      have HN := h! (bmore HQ8.out bb2 n!)
      have KL3 := h! (fun W (hb : Below w5.heap.size w5 W) => KL2.out W (bmore bb2 hb n!))
      have Z5 := h! (HBX.out.below bb2 HBX.out.lt)
      have Y5 := h! (Y8.out.below bb2 Y8.out.lt)
      have HW5 := h! (bmore HBW8.out bb2 n!)
      clear bb1 bb2 KSA HSS KL2 HBX Y8
      rcases s with _ | _
      rotate_left
      ·have NX := h! (NS.out (of_decide_eq_true HSD.out.symm))
       go_wp2_with fail
       go_roundw
       case rel => exact ⟨k + 1, by omega, by go_num, HN, NX⟩
       case measure => simp [intOf]; omega
      obtain ⟨u0, u1, u2, u3, u4, u5, u6⟩ := box_wt Z5.out
      go_wp2_with fail
      clear u0 u1 u2 u3 u4 u5 u6
      refine (KL3.out _ (Below.refl _ _)).mono ?_
      rintro e w6 ⟨rfl, hb⟩
      have HN6 := h! (bmore HN.out hb n!)
      have HW6 := h! (bmore HW5.out hb n!)
      have y7 := (Y5.out.below hb Y5.out.lt).cell 7
      simp at y7
      clear hb KL3
      obtain ⟨r1, r2⟩ := R
      simp only at NI NN ⊢
      rcases r2 with _ | _
      ·have NX := h! (NN.out (by first | trivial | rfl) HLO.out (of_decide_eq_false HSD.out.symm) (fun q => by injection q with _ q; cases q))
       go_wp2_with fail
       go_ret
       exact ⟨false, rfl, ⟨fun k => (by cases k), fun k => absurd k NX.out⟩, HW6.out⟩
      by_cases hrt : r1 = xtm
      ·subst hrt
       have NX := h! (NI.out rfl)
       have hne : (r1 != r1) = false := by simp
       go_wp2_with fail
       go_roundw
       case rel => exact ⟨k + 1, by omega, by go_num, HN6, NX⟩
       case measure => simp [intOf]; omega
      ·have hne : (r1 != xtm) = true := by simpa using hrt
       have hnf : (r1 == xtm) = false := by simpa using hrt
       have NX := h! (NN.out (by first | trivial | rfl) HLO.out (of_decide_eq_false HSD.out.symm) (fun q => hrt (by injection q)))
       clear hrt
       go_wp2_with fail
       go_ret
       exact ⟨false, rfl, ⟨fun k => (by cases k), fun k => absurd k NX.out⟩, HW6.out⟩
    ·obtain rfl : k = N := by omega
     have NX := h! (show ∀ (g' : Nat) cs', g' < g + 1 → L[g']? = some cs' → ∀ (k : Nat) x, cs'[k]? = some x → OM.fair1 L g' cs' k x from fun g' cs' hh hl k' z hz => by
      by_cases e : g' = g
      ·subst e
       rw [HLG.out] at hl
       injection hl with hl
       subst hl
       exact HK.out k' z (by have := (List.getElem?_eq_some_iff.1 hz).1; have := HN.out; omega) hz
      ·exact HG.out g' cs' (by omega) hl k' z hz)
     go_wp2_with fail
     go_roundw
     case rel => exact ⟨g + 1, by omega, by go_num, HBQ, NX⟩
     case measure => simp [intOf]; omega
  ·obtain rfl : g = n := by omega
   have NX := h! (show OM.honest L from ⟨HONE.out, fun g' cs' hl k x hx => HG.out g' cs' (by have := (List.getElem?_eq_some_iff.1 hl).1; have := HCL.out; have := HLN.out; omega) hl k x hx⟩)
   have HBF := h! (bmore HB.out HA.out n!)
   go_wp2_with fail
   go_ret
   exact ⟨true, rfl, ⟨fun _ => NX.out, fun _ => rfl⟩, HBF.out⟩
theorem rhonest16_any (A : Option Addr) (n c : Nat) (ls : List (List ByteArray)) (w : World) (h : LogsIs w A n c ls) (hs : ∀ l ∈ ls, ∀ t ∈ l, t.size ≤ maxLen) : Calls Tryz.prog 26 #[.slice A n c] w (HoQ ls w) := by
 have KA := h! (all16_any A n c ls w h hs)
 have KF := h! (fun (h0 : allE ls = 0) W (hb : Below w.heap.size w W) => fair16_any A n c ls W (h.below hb) hs h0)
 unfold HoQ
 obtain ⟨r, hr⟩ : ∃ r, r = allE ls := ⟨_, rfl⟩
 rw [← hr] at KA KF ⊢
 obtain ⟨PH, hPH⟩ : ∃ PH, PH = OM.honest (cmL ls) := ⟨_, rfl⟩
 rw [← hPH] at KF ⊢
 clear h hs hr hPH
 go_enter Tryz.func26, Tryz.ntmps26
 go_wp2_with fail
 refine (KA.out).mono ?_
 rintro e w2 ⟨rfl, hb⟩
 have HB2 := h! hb
 clear hb KA
 by_cases h0 : r = 0
 ·subst h0
  have KF2 := h! (KF.out rfl w2 HB2.out)
  clear KF
  go_wp2_with fail
  refine (KF2.out).mono ?_
  rintro e w3 ⟨b, rfl, hbb, hb⟩
  have HF := h! (hoL_is (P := PH) (b := b) (w := w) (w' := w3) hbb (bmore HB2.out hb n!))
  clear hbb hb
  go_wp2_with fail
  go_ret2
  exact HF.out
 ·have hk : (r == 0) = false := by simpa using h0
  have HF := h! (hoL_no (r := r) (P := PH) (w := w) (w' := w2) (fun k => h0 k.1) HB2.out)
  clear KF h0
  go_wp2_with fail
  go_ret2
  exact HF.out
end KP
end Go.Proofs.YteebeiaokfenmaaGreat
