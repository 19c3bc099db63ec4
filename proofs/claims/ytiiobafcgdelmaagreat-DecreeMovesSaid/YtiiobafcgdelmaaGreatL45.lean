/- Contracts of functions of towncrier, layers 5 to 9, and of the document's own ones, part 45; each as its theorem says. -/
import Derived.Test.YtiiobafcgdelmaaGreatL01
import Derived.Test.YtiiobafcgdelmaaGreatL31
import Derived.Test.YtiiobafcgdelmaaGreatL32
import Derived.Test.YtiiobafcgdelmaaGreatL34
import Derived.Test.YtiiobafcgdelmaaGreatL44
import Derived.Deep.DeepCutAuto
import Derived.Test.YtiiobafcgdelmaaGreatL25
import Derived.Test.YtiiobafcgdelmaaGreatL40
set_option linter.unusedVariables false
set_option linter.unusedSimpArgs false
namespace Go.Proofs.YtiiobafcgdelmaaGreat.PD
open Go.RowKit Go.Shelf
def RDoCut (w1 : World) (g : Nat) (w : DC.Wd) (m : DC.Mv) (wx : World) : Prop := Below w1.heap.size w1 wx ∧ RW wx w1.heap.size g (DC.aft w m) ∧ DC.pre w m = 0
def RDoMid (w1 : World) (g : Nat) (w : DC.Wd) (wx : World) : Prop := Below w1.heap.size w1 wx ∧ RW wx w1.heap.size g w
set_option maxRecDepth 100000 in
set_option maxHeartbeats 16000000 in
theorem rwdo_any (v : Value) (w : DC.Wd) (k n at_ : Int) (s : ByteArray) (W : World) (H : WIs W v w) (F : WFit w) (C : WCap v) (k0 : 0 ≤ k) (k255 : k ≤ 255) (hs : s.size ≤ maxLen) :
  Calls Tryz.prog 8 #[v, .agg #[.int .u8 k, .int .i64 n, .int .i64 at_, .string s]] W (RDoRet w ⟨k, n, at_, s⟩ W) := by
 have HTW := h! (fun (U : World) (hU : Below W.heap.size W U) => rwtwin_any v w U (H.below hU) F)
 have HMA := h! (fun (b : Bool) (hb : b = true ↔ DC.May w) (U : World) (hU : Below W.heap.size W U) => rwmay_any v w b U (H.below hU) F hb)
 have HP : Hid (PM w) := h! fun m hm => (F.ml m hm).2.2.2.2.1
 have hsz : s.size ≤ 9223372036854775807 := by unfold maxLen at hs; omega
 obtain ⟨A0, c0, A1, c1, A2, c2, A3, c3, A4, c4, xs, rfl, R⟩ := H
 have HCP := h! (C _ _ _ _ _ _ _ rfl)
 obtain ⟨U0, hU0⟩ : ∃ U0, U0 = ((W.alloc (.cells #[.slice A0 w.ms.length c0, .slice A1 w.vs.length c1, .slice A2 w.ts.length c2, .slice A3 w.ml.length c3, .slice A4 w.ch.length c4] 28)).alloc (.cells #[.int .u8 k, .int .i64 n, .int .i64 at_, .string s] 30)).alloc (.cells #[.slice none 0 0, .slice none 0 0, .slice none 0 0, .slice none 0 0, .slice none 0 0] 28) := ⟨_, rfl⟩
 have hs0 : DoSt W U0 W.heap.size (W.heap.size + 1) (W.heap.size + 1 + 1) #[.slice A0 w.ms.length c0, .slice A1 w.vs.length c1, .slice A2 w.ts.length c2, .slice A3 w.ml.length c3, .slice A4 w.ch.length c4] #[.int .u8 k, .int .i64 n, .int .i64 at_, .string s] := by
  rw [hU0]
  refine ⟨(Box.new _ _ _).below (below2 _ _) (by simp), ?_, ?_, below3 _ _ _, by omega⟩
  ·have := (Box.new (W.alloc (.cells #[.slice A0 w.ms.length c0, .slice A1 w.vs.length c1, .slice A2 w.ts.length c2, .slice A3 w.ml.length c3, .slice A4 w.ch.length c4] 28)) 30 #[.int .u8 k, .int .i64 n, .int .i64 at_, .string s]).below ((Below.refl _ _).alloc n! (.cells #[.slice none 0 0, .slice none 0 0, .slice none 0 0, .slice none 0 0, .slice none 0 0] 28)) (by simp)
   simpa using this
  ·have := Box.new ((W.alloc (.cells #[.slice A0 w.ms.length c0, .slice A1 w.vs.length c1, .slice A2 w.ts.length c2, .slice A3 w.ml.length c3, .slice A4 w.ch.length c4] 28)).alloc (.cells #[.int .u8 k, .int .i64 n, .int .i64 at_, .string s] 30)) 28 #[.slice none 0 0, .slice none 0 0, .slice none 0 0, .slice none 0 0, .slice none 0 0]
   simpa using this
 have HS0 := h! hs0
 have HR := h! R
 have mixed : Tryz.prog.follows Departure.mixedOrders = true := by kernel_rfl
 clear hs0 R F C
 go_enter Tryz.func8, Tryz.ntmps8
 go_wp2_with fail
 rw [← hU0]
 by_cases hm : DC.May w
 rotate_left
 ·refine (HMA.out false (by simpa using hm) _ HS0.out.bl).mono ?_
  rintro e w1 ⟨rfl, hb1⟩
  have HS1 := h! (HS0.out.below hb1)
  have HD : Hid (DoIs w ⟨k, n, at_, s⟩ 8) := h! (.inr ⟨hm, rfl⟩)
  clear HS0 hb1 hU0 HMA HTW HP HCP HR hm
  generalize W.heap.size + 1 + 1 = gr at HS1 ⊢
  generalize W.heap.size + 1 = gm at HS1 ⊢
  obtain ⟨⟨_, _, _, _, _⟩, z0, z1, z2, z3, z4⟩ := HS1.out.br.five
  go_wp2_with fail
  have hres := res5 HS1.out.br (.slice none 0 0) (.slice none 0 0) (.slice none 0 0) (.slice none 0 0) (.slice none 0 0)
  obtain ⟨⟨s0, s1, s2, s3, s4⟩, _⟩ := hres.1.five
  exact bodyPost_ret (v := .tuple #[.agg #[.slice none 0 0, .slice none 0 0, .slice none 0 0, .slice none 0 0, .slice none 0 0], .int .i64 8]) (by simp [results, Tryz.results8, go_sem, s0, s1, s2, s3, s4]) rfl ⟨_, _, rfl, HD.out, hres.2.2 _ _ HS1.out.bl HS1.out.hr, .inl ⟨by decide, rfl⟩⟩
 refine (HMA.out true (by simpa using hm) _ HS0.out.bl).mono ?_
 rintro e w1 ⟨rfl, hb1⟩
 have HS1 := h! (HS0.out.below hb1)
 have HMY := h! hm
 clear HS0 hb1 hU0 HMA hm
 generalize W.heap.size + 1 + 1 = gr at HS1 ⊢
 generalize W.heap.size + 1 = gm at HS1 ⊢
 obtain ⟨⟨x0, x1, x2, x3, x4⟩, _⟩ := HS1.out.bx.five
 obtain ⟨m0, m1, m2, m3⟩ := box4 HS1.out.bm
 by_cases hk : 1 ≤ k ∧ k ≤ 5
 rotate_left
 ·clear HTW HP HCP HR x0 x1 x2 x3 x4
  rcases (show k < 1 ∨ (1 ≤ k ∧ 5 < k) by omega) with hk1 | ⟨hk1, hk5⟩
  ·skip
   have hpre : DC.pre w ⟨k, n, at_, s⟩ = 2 := by unfold DC.pre; rw [if_pos (by simpa using hk)]
   have HD : Hid (DoIs w ⟨k, n, at_, s⟩ 2) := h! (.inl ⟨HMY.out, by rw [errD_pre (by rw [hpre]; decide), hpre]⟩)
   clear hpre
   obtain ⟨⟨_, _, _, _, _⟩, z0, z1, z2, z3, z4⟩ := HS1.out.br.five
   go_wp2_with fail
   have hres := res5 HS1.out.br (.slice none 0 0) (.slice none 0 0) (.slice none 0 0) (.slice none 0 0) (.slice none 0 0)
   obtain ⟨⟨s0, s1, s2, s3, s4⟩, _⟩ := hres.1.five
   exact bodyPost_ret (v := .tuple #[.agg #[.slice none 0 0, .slice none 0 0, .slice none 0 0, .slice none 0 0, .slice none 0 0], .int .i64 2]) (by simp [results, Tryz.results8, go_sem, s0, s1, s2, s3, s4]) rfl ⟨_, _, rfl, HD.out, hres.2.2 _ _ HS1.out.bl HS1.out.hr, .inl ⟨by decide, rfl⟩⟩
  ·skip
   have hpre : DC.pre w ⟨k, n, at_, s⟩ = 2 := by unfold DC.pre; rw [if_pos (by simpa using hk)]
   have HD : Hid (DoIs w ⟨k, n, at_, s⟩ 2) := h! (.inl ⟨HMY.out, by rw [errD_pre (by rw [hpre]; decide), hpre]⟩)
   clear hpre
   obtain ⟨⟨_, _, _, _, _⟩, z0, z1, z2, z3, z4⟩ := HS1.out.br.five
   go_wp2_with fail
   have hres := res5 HS1.out.br (.slice none 0 0) (.slice none 0 0) (.slice none 0 0) (.slice none 0 0) (.slice none 0 0)
   obtain ⟨⟨s0, s1, s2, s3, s4⟩, _⟩ := hres.1.five
   exact bodyPost_ret (v := .tuple #[.agg #[.slice none 0 0, .slice none 0 0, .slice none 0 0, .slice none 0 0, .slice none 0 0], .int .i64 2]) (by simp [results, Tryz.results8, go_sem, s0, s1, s2, s3, s4]) rfl ⟨_, _, rfl, HD.out, hres.2.2 _ _ HS1.out.bl HS1.out.hr, .inl ⟨by decide, rfl⟩⟩
 obtain ⟨hk1, hk5⟩ := hk
 have HTW2 := h! (HTW.out _ HS1.out.bl)
 clear HTW
 go_wp2_with fail
 refine HTW2.out.mono ?_
 rintro e w3 ⟨v3, rfl, own, hb3⟩
 obtain ⟨B0, d0, B1, d1, B2, d2, B3, d3, B4, d4, rfl⟩ := own.form
 have hal : Below w3.heap.size w3 (w3.alloc (.cells #[.slice B0 w.ms.length d0, .slice B1 w.vs.length d1, .slice B2 w.ts.length d2, .slice B3 w.ml.length d3, .slice B4 w.ch.length d4] 28)) := b!
 have HAT := h! (WOwn.rat own hal hb3.size (Box.new _ _ _))
 have HB := h! (bmore hb3 hal n!)
 clear HTW2 own hal hb3 x0 x1 x2 x3 x4 m0 m1 m2 m3
 go_upto_region 6 with (fail)
 generalize w3.alloc (.cells #[.slice B0 w.ms.length d0, .slice B1 w.vs.length d1, .slice B2 w.ts.length d2, .slice B3 w.ml.length d3, .slice B4 w.ch.length d4] 28) = U at HB HAT ⊢
 generalize w3.heap.size = g at HAT ⊢
 have HS2 := h! (HS1.out.below HB.out)
 obtain ⟨⟨x0, x1, x2, x3, x4⟩, _⟩ := HS2.out.bx.five
 obtain ⟨m0, m1, m2, m3⟩ := box4 HS2.out.bm
 go_cut [30] (fun x wx => x = .bool (decide (k = 1 ∨ k = 5)) ∧ U = wx)
 case first =>
  by_cases h1 : k = 1
  ·subst h1
   go_wp2_with fail
   go_meet
   case rel => exact ⟨by simp, rfl⟩
  ·by_cases h5 : k = 5
   ·subst h5
    go_wp2_with fail
    go_meet
    case rel => exact ⟨by simp, rfl⟩
   ·have e1 : (k == 1) = false := by simpa using h1
    have e5 : (k == 5) = false := by simpa using h5
    have e15 : decide (k = 1 ∨ k = 5) = false := by simp; omega
    go_wp2_with fail
    go_meet
    case rel => exact ⟨by rw [e15], rfl⟩
 clear x0 x1 x2 x3 x4 m0 m1 m2 m3
 obtain ⟨rfl, rfl⟩ := hcut
 obtain ⟨⟨x0, x1, x2, x3, x4⟩, _⟩ := HS2.out.bx.five
 obtain ⟨m0, m1, m2, m3⟩ := box4 HS2.out.bm
 go_upto_if 30 with (fail)
 go_cut [] (fun wx => RDoCut w1 g w ⟨k, n, at_, s⟩ wx)
 case first =>
  by_cases h15 : k = 1 ∨ k = 5
  ·rw [decide_eq_true h15]
   by_cases hn : DC.isNode n
   rotate_left
   ·have HNN := h! (fun U => rNode_no n U (by unfold DC.isNode at hn; omega))
    have hpre0 : DC.pre w ⟨k, n, at_, s⟩ = 2 := by unfold DC.pre; rw [if_neg (by simp; omega), if_pos h15, if_pos hn]
    clear HAT hn HP HCP HR x0 x1 x2 x3 x4
    rcases h15 with rfl | rfl
    ·go_wp2_with fail
     refine (HNN.out _).mono ?_
     rintro e wn ⟨rfl, rfl⟩
     clear HNN
     have hpre : DC.pre w ⟨1, n, at_, s⟩ = 2 := hpre0
     have HD : Hid (DoIs w ⟨1, n, at_, s⟩ 2) := h! (.inl ⟨HMY.out, by rw [errD_pre (by rw [hpre]; decide), hpre]⟩)
     clear hpre
     obtain ⟨⟨_, _, _, _, _⟩, z0, z1, z2, z3, z4⟩ := HS2.out.br.five
     go_wp2_with fail
     have hres := res5 HS2.out.br (.slice none 0 0) (.slice none 0 0) (.slice none 0 0) (.slice none 0 0) (.slice none 0 0)
     obtain ⟨⟨s0, s1, s2, s3, s4⟩, _⟩ := hres.1.five
     exact bodyPost_ret (v := .tuple #[.agg #[.slice none 0 0, .slice none 0 0, .slice none 0 0, .slice none 0 0, .slice none 0 0], .int .i64 2]) (by simp [results, Tryz.results8, go_sem, s0, s1, s2, s3, s4]) rfl ⟨_, _, rfl, HD.out, hres.2.2 _ _ HS2.out.bl HS2.out.hr, .inl ⟨by decide, rfl⟩⟩
    ·go_wp2_with fail
     refine (HNN.out _).mono ?_
     rintro e wn ⟨rfl, rfl⟩
     clear HNN
     have hpre : DC.pre w ⟨5, n, at_, s⟩ = 2 := hpre0
     have HD : Hid (DoIs w ⟨5, n, at_, s⟩ 2) := h! (.inl ⟨HMY.out, by rw [errD_pre (by rw [hpre]; decide), hpre]⟩)
     clear hpre
     obtain ⟨⟨_, _, _, _, _⟩, z0, z1, z2, z3, z4⟩ := HS2.out.br.five
     go_wp2_with fail
     have hres := res5 HS2.out.br (.slice none 0 0) (.slice none 0 0) (.slice none 0 0) (.slice none 0 0) (.slice none 0 0)
     obtain ⟨⟨s0, s1, s2, s3, s4⟩, _⟩ := hres.1.five
     exact bodyPost_ret (v := .tuple #[.agg #[.slice none 0 0, .slice none 0 0, .slice none 0 0, .slice none 0 0, .slice none 0 0], .int .i64 2]) (by simp [results, Tryz.results8, go_sem, s0, s1, s2, s3, s4]) rfl ⟨_, _, rfl, HD.out, hres.2.2 _ _ HS2.out.bl HS2.out.hr, .inl ⟨by decide, rfl⟩⟩
   have HNN := h! (fun U => rNode_yes n U hn.1 hn.2)
   obtain ⟨i, rfl⟩ : ∃ i : Nat, n = (i : Int) := ⟨n.toNat, by have := hn.1; omega⟩
   have hi : i < 6 := by have := hn.2; omega
   rcases h15 with rfl | rfl
   ·by_cases hs1 : 1024 < s.size
    ·have hs2 : decide ((1024 : Int) < (s.size : Int)) = true := by simp; omega
     have hpre0 : DC.pre w ⟨1, (i : Int), at_, s⟩ = 3 := by unfold DC.pre; rw [if_neg (by simp), if_pos (.inl rfl), if_neg (by simpa using hn), if_neg (show ¬ (1 : Int) = 5 by decide), if_pos hs1]
     clear HAT hn HP HCP HR x0 x1 x2 x3 x4
     go_wp2_with fail
     refine (HNN.out _).mono ?_
     rintro e wn ⟨rfl, rfl⟩
     clear HNN
     have hpre : DC.pre w ⟨1, (i : Int), at_, s⟩ = 3 := hpre0
     have HD : Hid (DoIs w ⟨1, (i : Int), at_, s⟩ 3) := h! (.inl ⟨HMY.out, by rw [errD_pre (by rw [hpre]; decide), hpre]⟩)
     clear hpre
     obtain ⟨⟨_, _, _, _, _⟩, z0, z1, z2, z3, z4⟩ := HS2.out.br.five
     go_wp2_with fail
     have hres := res5 HS2.out.br (.slice none 0 0) (.slice none 0 0) (.slice none 0 0) (.slice none 0 0) (.slice none 0 0)
     obtain ⟨⟨s0, s1, s2, s3, s4⟩, _⟩ := hres.1.five
     exact bodyPost_ret (v := .tuple #[.agg #[.slice none 0 0, .slice none 0 0, .slice none 0 0, .slice none 0 0, .slice none 0 0], .int .i64 3]) (by simp [results, Tryz.results8, go_sem, s0, s1, s2, s3, s4]) rfl ⟨_, _, rfl, HD.out, hres.2.2 _ _ HS2.out.bl HS2.out.hr, .inl ⟨by decide, rfl⟩⟩
    have hs2 : decide ((1024 : Int) < (s.size : Int)) = false := by simp; omega
    have HBG := h! (begins_any w1.heap.size g i w s U HAT.out HMY.out.zero hi (by omega) HB.out.size HMY.out.ml HMY.out.cl)
    have HPR := h! (show DC.pre w ⟨1, (i : Int), at_, s⟩ = if 1048576 < BM.rnd (DC.getV w (i : Int)).p (i : Int) then 9 else 0 by unfold DC.pre; rw [if_neg (by simp), if_pos (.inl rfl), if_neg (by simpa using hn), if_neg (show ¬ (1 : Int) = 5 by decide), if_neg (by simpa using hs1)])
    have HAF := h! (show DC.aft w ⟨1, (i : Int), at_, s⟩ = DC.begins w (i : Int) s by unfold DC.aft; rw [if_pos rfl])
    clear HAT hn HP HCP HR x0 x1 x2 x3 x4
    go_wp2_with fail
    refine (HNN.out _).mono ?_
    rintro e wn ⟨rfl, rfl⟩
    clear HNN
    go_wp2_with fail
    refine HBG.out.mono ?_
    clear HBG
    rintro e w4 (⟨hr, rfl, hat, _, hb4⟩ | ⟨hr, rfl, hat, _, hb4⟩)
    ·have HS4 := h! (HS1.out.below (HB.out.trans hb4))
     clear m0 m1 m2 m3 hat
     have hpre : DC.pre w ⟨1, (i : Int), at_, s⟩ = 9 := by rw [HPR.out, if_pos hr]
     have HD : Hid (DoIs w ⟨1, (i : Int), at_, s⟩ 9) := h! (.inl ⟨HMY.out, by rw [errD_pre (by rw [hpre]; decide), hpre]⟩)
     clear hpre
     obtain ⟨⟨_, _, _, _, _⟩, z0, z1, z2, z3, z4⟩ := HS4.out.br.five
     go_wp2_with fail
     have hres := res5 HS4.out.br (.slice none 0 0) (.slice none 0 0) (.slice none 0 0) (.slice none 0 0) (.slice none 0 0)
     obtain ⟨⟨s0, s1, s2, s3, s4⟩, _⟩ := hres.1.five
     exact bodyPost_ret (v := .tuple #[.agg #[.slice none 0 0, .slice none 0 0, .slice none 0 0, .slice none 0 0, .slice none 0 0], .int .i64 9]) (by simp [results, Tryz.results8, go_sem, s0, s1, s2, s3, s4]) rfl ⟨_, _, rfl, HD.out, hres.2.2 _ _ HS4.out.bl HS4.out.hr, .inl ⟨by decide, rfl⟩⟩
    ·have HFIN := h! (show RDoCut w1 g w ⟨1, (i : Int), at_, s⟩ w4 from ⟨HB.out.trans hb4, by rw [HAF.out]; exact hat, by rw [HPR.out, if_neg (by omega)]⟩)
     clear m0 m1 m2 m3 hat hb4
     go_wp2_with fail
     go_meet
     case rel => exact HFIN.out
   ·have hpre : DC.pre w ⟨5, (i : Int), at_, s⟩ = 0 := by unfold DC.pre; rw [if_neg (by simp), if_pos (.inr rfl), if_neg (by simpa using hn), if_pos rfl]
    have haft : DC.aft w ⟨5, (i : Int), at_, s⟩ = ⟨w.ms, w.vs, w.ts.set i AM.zero, w.ml, w.ch⟩ := by unfold DC.aft; rw [if_neg (show ¬ (5 : Int) = 1 by decide), if_pos rfl]; simp only [Int.toNat_natCast]
    have HD : Hid (DoIs w ⟨5, (i : Int), at_, s⟩ 0) := h! (.inl ⟨HMY.out, by
     have h1 := HMY.out.ml
     have h2 := HMY.out.cl
     unfold DC.errD
     rw [if_neg (by rw [hpre]; decide), haft, if_neg (by simp only; omega)]⟩)
    have HAF := h! haft
    have HL := h! HMY.out.tl
    have i0 : (0 : Int) ≤ (i : Int) := by omega
    have i1 : (i : Int) < (w.ts.length : Int) := by have := HMY.out.tl; omega
    obtain ⟨q, e2, hq2, hth, hrw, hbl⟩ := RW.crash HAT.out HL.out hi
    have HRW := h! hrw
    have HBL := h! (HB.out.trans hbl)
    clear HAT hn HP HCP HR x0 x1 x2 x3 x4 hpre haft hrw hbl
    go_wp2_with fail
    refine (HNN.out _).mono ?_
    rintro e wn ⟨rfl, rfl⟩
    clear HNN
    go_upto_region 11 with (refine wpList_store_mid rfl 57 _ _ rfl q (i * 7) #[.int .u8 0, .int .i64 0, .slice none 0 0, .string ⟨#[]⟩, .string ⟨#[]⟩, .slice none 0 0, .slice none 0 0] (by simp [Act.eval, Act.put]) (by simp [Act.eval, Act.put]) hth (by kernel_rfl) (by simp [Value.oneCell']) ?_)
    clear m0 m1 m2 m3 hq2 hth
    generalize U.setCells q (i * 7) [.int .u8 0, .int .i64 0, .slice none 0 0, .string ⟨#[]⟩, .string ⟨#[]⟩, .slice none 0 0, .slice none 0 0] = u5 at HRW HBL ⊢
    have HS5 := h! (HS1.out.below HBL.out)
    obtain ⟨C0, q0, C1, q1, C2, q2, C3, q3, C4, q4, hx5, hwis, hcap⟩ := RW.rd HRW.out
    simp only [List.length_set] at hx5 hwis hcap
    obtain ⟨⟨x0, x1, x2, x3, x4⟩, _⟩ := hx5.five
    have HWI := h! hwis
    have HCQ := h! hcap
    clear hx5 hwis hcap HRW HBL
    obtain ⟨⟨_, _, _, _, _⟩, z0, z1, z2, z3, z4⟩ := HS5.out.br.five
    go_wp2_with fail
    have hres := res5 HS5.out.br (.slice C0 w.ms.length q0) (.slice C1 w.vs.length q1) (.slice C2 w.ts.length q2) (.slice C3 w.ml.length q3) (.slice C4 w.ch.length q4)
    obtain ⟨⟨s0, s1, s2, s3, s4⟩, _⟩ := hres.1.five
    exact bodyPost_ret (v := .tuple #[.agg #[.slice C0 w.ms.length q0, .slice C1 w.vs.length q1, .slice C2 w.ts.length q2, .slice C3 w.ml.length q3, .slice C4 w.ch.length q4], .int .i64 0]) (by simp [results, Tryz.results8, go_sem, s0, s1, s2, s3, s4]) rfl ⟨_, _, rfl, HD.out, hres.2.2 _ _ HS5.out.bl HS5.out.hr, .inr ⟨rfl, by rw [HAF.out]; exact WIk.kept HWI.out hres.2.1, wcap_of HCQ.out⟩⟩
  ·have h1 : ¬ k = 1 := fun h => h15 (.inl h)
   have h5 : ¬ k = 5 := fun h => h15 (.inr h)
   have hcp := HCP.out
   rw [decide_eq_false h15]
   have hl1000 := HMY.out.ml
   have HPR := h! (show DC.pre w ⟨k, n, at_, s⟩ = if at_ < 0 ∨ (w.ml.length : Int) ≤ at_ then 6 else 0 by unfold DC.pre; rw [if_neg (by simp; omega), if_neg h15])
   clear h1 h5
   by_cases ha0 : at_ < 0
   ·clear HAT HP HR
    have hpre : DC.pre w ⟨k, n, at_, s⟩ = 6 := by rw [HPR.out, if_pos (.inl ha0)]
    have HD : Hid (DoIs w ⟨k, n, at_, s⟩ 6) := h! (.inl ⟨HMY.out, by rw [errD_pre (by rw [hpre]; decide), hpre]⟩)
    clear hpre
    obtain ⟨⟨_, _, _, _, _⟩, z0, z1, z2, z3, z4⟩ := HS2.out.br.five
    go_wp2_with fail
    have hres := res5 HS2.out.br (.slice none 0 0) (.slice none 0 0) (.slice none 0 0) (.slice none 0 0) (.slice none 0 0)
    obtain ⟨⟨s0, s1, s2, s3, s4⟩, _⟩ := hres.1.five
    exact bodyPost_ret (v := .tuple #[.agg #[.slice none 0 0, .slice none 0 0, .slice none 0 0, .slice none 0 0, .slice none 0 0], .int .i64 6]) (by simp [results, Tryz.results8, go_sem, s0, s1, s2, s3, s4]) rfl ⟨_, _, rfl, HD.out, hres.2.2 _ _ HS2.out.bl HS2.out.hr, .inl ⟨by decide, rfl⟩⟩
   by_cases ha1 : (w.ml.length : Int) ≤ at_
   ·clear HAT HP HR
    have ha2 : 0 ≤ at_ := by omega
    have hpre : DC.pre w ⟨k, n, at_, s⟩ = 6 := by rw [HPR.out, if_pos (.inr ha1)]
    have HD : Hid (DoIs w ⟨k, n, at_, s⟩ 6) := h! (.inl ⟨HMY.out, by rw [errD_pre (by rw [hpre]; decide), hpre]⟩)
    clear hpre
    obtain ⟨⟨_, _, _, _, _⟩, z0, z1, z2, z3, z4⟩ := HS2.out.br.five
    go_wp2_with fail
    have hres := res5 HS2.out.br (.slice none 0 0) (.slice none 0 0) (.slice none 0 0) (.slice none 0 0) (.slice none 0 0)
    obtain ⟨⟨s0, s1, s2, s3, s4⟩, _⟩ := hres.1.five
    exact bodyPost_ret (v := .tuple #[.agg #[.slice none 0 0, .slice none 0 0, .slice none 0 0, .slice none 0 0, .slice none 0 0], .int .i64 6]) (by simp [results, Tryz.results8, go_sem, s0, s1, s2, s3, s4]) rfl ⟨_, _, rfl, HD.out, hres.2.2 _ _ HS2.out.bl HS2.out.hr, .inl ⟨by decide, rfl⟩⟩
   obtain ⟨j, rfl⟩ : ∃ j : Nat, at_ = (j : Int) := ⟨at_.toNat, by omega⟩
   have hj : j < w.ml.length := by omega
   have ha2 : (0 : Int) ≤ (j : Int) := by omega
   have ha3 : (j : Int) < (w.ml.length : Int) := by omega
   have HP0 := h! (show DC.pre w ⟨k, n, (j : Int), s⟩ = 0 by rw [HPR.out, if_neg (by omega)])
   obtain ⟨hm, hmm⟩ := DC.mail_at (w := w) (j := (j : Int)) (by omega) (by omega)
   rw [Int.toNat_natCast] at hm
   have HM := h! hm
   have HMM := h! (HMY.out.mm _ hmm)
   have HMP := h! (HP.out _ hmm)
   clear HPR hm hmm ha0 ha1
   go_upto_if 74 with (fail)
   go_cut [] (fun wx => RDoMid w1 g (if k = 3 then w else DC.gone w j) wx)
   case first =>
    by_cases h3 : k = 3
    ·have HFIN := h! (show RDoMid w1 g (if k = 3 then w else DC.gone w j) U from ⟨HB.out, by rw [if_pos h3]; exact HAT.out⟩)
     have e3 : (k != 3) = false := by rw [h3]; rfl
     clear h3
     go_wp2_with fail
     go_meet
     case rel => exact HFIN.out
    ·have e3 : (k != 3) = true := by simpa using h3
     obtain ⟨E0, f0, E1, f1, E2, f2, E3, f3, E4, f4, ys, hg, hx, o0, o1, o2, ht, o3, o4⟩ := HAT.out
     obtain ⟨q, hq⟩ : ∃ q, E3 = some ⟨q, 0, none⟩ := by
      rcases o3 with h | ⟨_, _, q, _, hv, _⟩
      ·obtain ⟨q, hA, _⟩ := own_some h (by omega)
       exact ⟨q, hA⟩
      ·injection hv with hv
       exact ⟨q, hv⟩
     subst hq
     have hf3 : w.ml.length ≤ f3 := OwnsM.cap o3
     have HG := h! hg
     have HX := h! hx
     have O0 := h! o0
     have O1 := h! o1
     have O2 := h! o2
     have OT := h! ht
     have O3 := h! o3
     have O4 := h! o4
     have H3 := h! h3
     clear hg hx o0 o1 o2 ht o3 o4 h3
     go_upto_region 20 with (fail)
     clear x0 x1 x2 x3 x4 m0 m1 m2 m3
     obtain ⟨u, hu⟩ : ∃ u, u = U.drew := ⟨_, rfl⟩
     have hd : Below U.heap.size U u := by rw [hu]; exact (Below.refl _ _).drew
     have HBu := h! (bmore HB.out hd n!)
     have HX := h! (HX.out.below hd HX.out.lt)
     have O0 := h! (own_below3 O0.out hd)
     have O1 := h! (own_below3 O1.out hd)
     have O2 := h! (own_below3 O2.out hd)
     have OT := h! (OT.out.kept (S := fun _ => False) (Kept.of_below hd) id id)
     have O3 := h! (O3.out.below hd)
     have O4 := h! (own_below3 O4.out hd)
     have HSS : Hid (∀ w', Below w1.heap.size w1 w' → w'.cell? ⟨W.heap.size, 3, none⟩ = some (.slice A3 w.ml.length c3) ∧ w'.cell? ⟨gm, 2, none⟩ = some (.int .i64 (j : Int))) := h! (fun w' hb => by
      obtain ⟨⟨_, _, _, x3, _⟩, _⟩ := (HS1.out.below hb).bx.five
      obtain ⟨_, _, m2, _⟩ := box4 (HS1.out.below hb).bm
      exact ⟨x3, m2⟩)
     have HRR := h! (HR.out.h3.below (bmore HS1.out.bl HBu.out n!))
     obtain ⟨i0, hi, hz0, hz1, hz2⟩ := info_parts info_mail
     have hb1 : (0 : Int) ≤ (j : Int) + 1 := by omega
     have hb2 : (j : Int) + 1 ≤ (w.ml.length : Int) := by omega
     have hb3 : (w.ml.length : Int) ≤ (c3 : Int) := by omega
     have hb4 : (j : Int) ≤ (f3 : Int) := by omega
     have hb5 : j ≤ f3 := by omega
     have hb6 : j + 1 ≤ w.ml.length := hj
     have hb7 : ((j : Int) + 1).toNat = j + 1 := by omega
     have hb8 : IntKind.i64.wrap ((j : Int) + 1) = (j : Int) + 1 := by rw [IntKind.wrap_i64]; omega
     obtain ⟨A', hA', hrest⟩ : ∃ A', (if c3 = j + 1 then A3 else A3.map (fun x => x.add ((j + 1) * 10))) = A' ∧ RdG u 10 A' (w.ml.length - (j + 1)) (flat mcell (w.ml.drop (j + 1))) := by
      have h := RdG.rest HRR.out (j := j + 1) (by omega)
      rw [flat_drop (s := 10) _ _ (fun _ _ => rfl)] at h
      by_cases e : c3 = j + 1
      ·refine ⟨_, rfl, ?_⟩
       rw [if_pos e]
       exact ⟨h.1, fun h0 => by omega⟩
      ·refine ⟨_, rfl, ?_⟩
       rw [if_neg e]
       exact h
     have HRS := h! hrest
     clear hrest hd
     refine wp_region_held_drew (S := fun w' => w'.cell? ⟨W.heap.size, 3, none⟩ = some (.slice A3 w.ml.length c3) ∧ w'.cell? ⟨gm, 2, none⟩ = some (.int .i64 (j : Int))) (by kernel_rfl) (by rw [← hu]; exact HSS.out _ HBu.out) (fun hHeld => ?_)
     rw [← hu] at hHeld ⊢
     clear hu
     refine qT 0 ?_
     try simp only [Act.put, qq]
     refine qT 2 ?_
     try simp only [Act.put, qq]
     refine qT 3 ?_
     try simp only [Act.put, qq]
     refine qT 4 ?_
     try simp only [Act.put, qq]
     refine qT 5 ?_
     try simp only [Act.put, qq]
     refine qT 7 ?_
     try simp only [Act.put, qq]
     refine qT 8 ?_
     try simp only [Act.put, qq]
     refine qT 9 ?_
     try simp only [Act.put, qq]
     refine qT 10 ?_
     try simp only [Act.put, qq]
     refine qT 11 ?_
     try simp only [Act.put, qq]
     refine qT 12 ?_
     try simp only [Act.put, qq]
     obtain ⟨⟨_, _, _, y3, _⟩, _, _, _, z3, _⟩ := HX.out.five
     refine qR 1 fun K hK => ?_
     go_simp
     refine hK.out _ _ (HSS.out _ HBu.out) (fun hHeld => ?_)
     clear hK
     try simp only [Act.put, qq]
     refine qT 6 ?_
     try simp only [Act.put, qq]
     refine qR 13 fun K hK => ?_
     refine step_cut rfl (.tmp 81) (.tmp 87) 25 rfl w1.heap.size i0 _ 88 Tryz.underlying25 hi hz0 hz1 hz2 rfl q w.ml.length f3 _ O3.out j (by omega) (by simp [Act.eval, Act.put]) A' (w.ml.length - (j + 1)) _ _ (by simp [Act.eval, Act.put]; rfl) HRS.out (one_flat m_one _) (by unfold maxLen; omega) (by omega) HBu.out.size ?_
     intro A9 c9 w9 o9 hb9
     have GN := h! (RW.gone hj HG.out HBu.out.size HX.out O0.out O1.out O2.out OT.out O4.out hb9 o9)
     obtain ⟨⟨_, _, _, _, _⟩, _, _, _, z3', _⟩ := (HX.out.below hb9 HX.out.lt).five
     refine hK.out _ _ (HSS.out _ (HBu.out.trans (hb9.mono HBu.out.size))) (fun hHeld => ?_)
     clear hK o9 y3 z3
     try simp only [Act.put, qq]
     refine qT 14 ?_
     try simp only [Act.put, qq]
     refine qR 15 fun K hK => ?_
     go_simp
     refine hK.out _ _ (HSS.out _ (HBu.out.trans GN.out.2)) (fun hHeld => ?_)
     clear hK z3'
     try simp only [Act.put, qq]
     refine wpAnyH_done (by kernel_rfl) ?_ _
     have HFIN := h! (show RDoMid w1 g (if k = 3 then w else DC.gone w j) _ from ⟨HBu.out.trans GN.out.2, by rw [if_neg H3.out]; exact GN.out.1⟩)
     clear hHeld HSS GN HX O0 O1 O2 OT O3 O4 HRR HRS hb9
     go_wp2_with fail
     go_meet
     case rel => exact HFIN.out
   case rest =>
    clear x0 x1 x2 x3 x4 m0 m1 m2 m3
    obtain ⟨hb5, hrw⟩ := hcut
    have HB5 := h! hb5
    have HRW := h! hrw
    have HS5 := h! (HS1.out.below hb5)
    clear hb5 hrw HAT HB HS2
    obtain ⟨⟨x0, x1, x2, x3, x4⟩, _⟩ := HS5.out.bx.five
    obtain ⟨m0, m1, m2, m3⟩ := box4 HS5.out.bm
    by_cases h4 : k = 4
    ·have e4 : (k != 4) = false := by rw [h4]; rfl
     have HFIN := h! (show RDoCut w1 g w ⟨k, n, (j : Int), s⟩ wc from ⟨HB5.out, by
      have := HRW.out
      subst h4
      rw [if_neg (show ¬ (4 : Int) = 3 by decide)] at this
      have hf : DC.aft w ⟨4, n, (j : Int), s⟩ = DC.gone w j := by unfold DC.aft; rw [if_neg (show ¬ (4 : Int) = 1 by decide), if_neg (show ¬ (4 : Int) = 5 by decide), if_neg (show ¬ (4 : Int) = 2 by decide), if_neg (show ¬ (4 : Int) = 3 by decide)]; simp only [Int.toNat_natCast]
      rw [hf]; exact this, HP0.out⟩)
     clear h4
     go_wp2_with fail
     go_meet
     case rel => exact HFIN.out
    ·have e4 : (k != 4) = true := by simpa using h4
     have hcs : (if k = 3 then w else DC.gone w j) = w ∧ k = 3 ∨ (if k = 3 then w else DC.gone w j) = DC.gone w j ∧ k = 2 := by
      by_cases h3 : k = 3
      ·exact .inl ⟨by rw [if_pos h3], h3⟩
      ·exact .inr ⟨by rw [if_neg h3], by omega⟩
     have h0 : DC.May0 (if k = 3 then w else DC.gone w j) ∧ (if k = 3 then w else DC.gone w j).ml.length ≤ 1000 ∧ (if k = 3 then w else DC.gone w j).ch.length ≤ 1000 ∧ DC.aft w ⟨k, n, (j : Int), s⟩ = DC.comes (if k = 3 then w else DC.gone w j) (DC.mailAt w (j : Int)) := by
      rcases hcs with ⟨e, rfl⟩ | ⟨e, rfl⟩
      ·rw [e]
       exact ⟨HMY.out.zero, HMY.out.ml, HMY.out.cl, by unfold DC.aft; rw [if_neg (show ¬ (3 : Int) = 1 by decide), if_neg (show ¬ (3 : Int) = 5 by decide), if_neg (show ¬ (3 : Int) = 2 by decide), if_pos rfl]⟩
      ·rw [e]
       exact ⟨HMY.out.zero.cutM j, by show (w.ml.eraseIdx j).length ≤ 1000; rw [List.length_eraseIdx]; split <;> omega, HMY.out.cl, by unfold DC.aft; rw [if_neg (show ¬ (2 : Int) = 1 by decide), if_neg (show ¬ (2 : Int) = 5 by decide), if_pos rfl]; simp only [Int.toNat_natCast]⟩
     obtain ⟨g0, g1, g2, g3⟩ := h0
     have HAF := h! g3
     obtain ⟨bl, o, rfl, hbl, d0, d1, d2, d3, d4, d5, d6, d7, d8, d9⟩ := RdG.mail HR.out.h3 hj HM.out
     have hWw := bmore HS1.out.bl HB5.out n!
     rw [← hWw.cell (p := ⟨bl, o + j * 10, none⟩) hbl] at d0
     rw [← hWw.cell (p := ⟨bl, o + j * 10 + 1, none⟩) hbl] at d1
     rw [← hWw.cell (p := ⟨bl, o + j * 10 + 2, none⟩) hbl] at d2
     rw [← hWw.cell (p := ⟨bl, o + j * 10 + 3, none⟩) hbl] at d3
     rw [← hWw.cell (p := ⟨bl, o + j * 10 + 4, none⟩) hbl] at d4
     rw [← hWw.cell (p := ⟨bl, o + j * 10 + 5, none⟩) hbl] at d5
     rw [← hWw.cell (p := ⟨bl, o + j * 10 + 6, none⟩) hbl] at d6
     rw [← hWw.cell (p := ⟨bl, o + j * 10 + 7, none⟩) hbl] at d7
     rw [← hWw.cell (p := ⟨bl, o + j * 10 + 8, none⟩) hbl] at d8
     rw [← hWw.cell (p := ⟨bl, o + j * 10 + 9, none⟩) hbl] at d9
     have HCO := h! (comes_any w1.heap.size g _ (DC.mailAt w (j : Int)) wc HRW.out g0 HMM.out HB5.out.size g1 g2 HMP.out)
     generalize DC.mailAt w (j : Int) = m at d0 d1 d2 d3 d4 d5 d6 d7 d8 d9 HCO HAF
     clear h4 hcs g0 g1 g2 g3 hWw HM HMM HMP HRW HR HCP hbl hcp
     go_wp2_with fail
     refine HCO.out.mono ?_
     rintro e w6 ⟨rfl, hat, _, hb6⟩
     have HFIN := h! (show RDoCut w1 g w ⟨k, n, (j : Int), s⟩ w6 from ⟨HB5.out.trans hb6, by rw [HAF.out]; exact hat, HP0.out⟩)
     clear HCO hat hb6 x0 x1 x2 x3 x4 m0 m1 m2 m3 d0 d1 d2 d3 d4 d5 d6 d7 d8 d9
     go_wp2_with fail
     go_meet
     case rel => exact HFIN.out
 case rest =>
  clear x0 x1 x2 x3 x4 m0 m1 m2 m3
  obtain ⟨hb5, hrw, hpre⟩ := hcut
  have hE : DC.errD w ⟨k, n, at_, s⟩ = if 1000 < (DC.aft w ⟨k, n, at_, s⟩).ml.length ∨ 1000 < (DC.aft w ⟨k, n, at_, s⟩).ch.length then 9 else 0 := by unfold DC.errD; rw [if_neg (by rw [hpre]; decide)]
  have HS5 := h! (HS1.out.below hb5)
  obtain ⟨C0, q0, C1, q1, C2, q2, C3, q3, C4, q4, hx5, hwis, hcap⟩ := RW.rd hrw
  have HA := h! (show DC.aft w ⟨k, n, at_, s⟩ = DC.aft w ⟨k, n, at_, s⟩ from rfl)
  generalize hA : DC.aft w ⟨k, n, at_, s⟩ = wa at hE hx5 hwis hcap
  have HAA := h! hA
  have HWI := h! hwis
  have HCQ := h! hcap
  obtain ⟨⟨x0, x1, x2, x3, x4⟩, _⟩ := hx5.five
  clear hb5 hrw hpre HAT HB HS2 HS1 hx5 hwis hcap hA HA HR HP HCP
  by_cases hr1 : 1000 < wa.ml.length
  ·have HD : Hid (DoIs w ⟨k, n, at_, s⟩ 9) := h! (.inl ⟨HMY.out, by rw [hE, if_pos (.inl hr1)]⟩)
   have e1 : decide ((1000 : Int) < (wa.ml.length : Int)) = true := by simp; omega
   clear hE hr1 HWI HAA
   obtain ⟨⟨_, _, _, _, _⟩, z0, z1, z2, z3, z4⟩ := HS5.out.br.five
   go_wp2_with fail
   have hres := res5 HS5.out.br (.slice none 0 0) (.slice none 0 0) (.slice none 0 0) (.slice none 0 0) (.slice none 0 0)
   obtain ⟨⟨s0, s1, s2, s3, s4⟩, _⟩ := hres.1.five
   exact bodyPost_ret (v := .tuple #[.agg #[.slice none 0 0, .slice none 0 0, .slice none 0 0, .slice none 0 0, .slice none 0 0], .int .i64 9]) (by simp [results, Tryz.results8, go_sem, s0, s1, s2, s3, s4]) rfl ⟨_, _, rfl, HD.out, hres.2.2 _ _ HS5.out.bl HS5.out.hr, .inl ⟨by decide, rfl⟩⟩
  have e1 : decide ((1000 : Int) < (wa.ml.length : Int)) = false := by simp; omega
  by_cases hr2 : 1000 < wa.ch.length
  ·have HD : Hid (DoIs w ⟨k, n, at_, s⟩ 9) := h! (.inl ⟨HMY.out, by rw [hE, if_pos (.inr hr2)]⟩)
   have e2 : decide ((1000 : Int) < (wa.ch.length : Int)) = true := by simp; omega
   clear hE hr1 hr2 HWI HAA
   obtain ⟨⟨_, _, _, _, _⟩, z0, z1, z2, z3, z4⟩ := HS5.out.br.five
   go_wp2_with fail
   have hres := res5 HS5.out.br (.slice none 0 0) (.slice none 0 0) (.slice none 0 0) (.slice none 0 0) (.slice none 0 0)
   obtain ⟨⟨s0, s1, s2, s3, s4⟩, _⟩ := hres.1.five
   exact bodyPost_ret (v := .tuple #[.agg #[.slice none 0 0, .slice none 0 0, .slice none 0 0, .slice none 0 0, .slice none 0 0], .int .i64 9]) (by simp [results, Tryz.results8, go_sem, s0, s1, s2, s3, s4]) rfl ⟨_, _, rfl, HD.out, hres.2.2 _ _ HS5.out.bl HS5.out.hr, .inl ⟨by decide, rfl⟩⟩
  have e2 : decide ((1000 : Int) < (wa.ch.length : Int)) = false := by simp; omega
  have HD : Hid (DoIs w ⟨k, n, at_, s⟩ 0) := h! (.inl ⟨HMY.out, by rw [hE, if_neg (by omega)]⟩)
  clear hE hr1 hr2
  obtain ⟨⟨_, _, _, _, _⟩, z0, z1, z2, z3, z4⟩ := HS5.out.br.five
  go_wp2_with fail
  have hres := res5 HS5.out.br (.slice C0 wa.ms.length q0) (.slice C1 wa.vs.length q1) (.slice C2 wa.ts.length q2) (.slice C3 wa.ml.length q3) (.slice C4 wa.ch.length q4)
  obtain ⟨⟨s0, s1, s2, s3, s4⟩, _⟩ := hres.1.five
  exact bodyPost_ret (v := .tuple #[.agg #[.slice C0 wa.ms.length q0, .slice C1 wa.vs.length q1, .slice C2 wa.ts.length q2, .slice C3 wa.ml.length q3, .slice C4 wa.ch.length q4], .int .i64 0]) (by simp [results, Tryz.results8, go_sem, s0, s1, s2, s3, s4]) rfl ⟨_, _, rfl, HD.out, hres.2.2 _ _ HS5.out.bl HS5.out.hr, .inr ⟨rfl, by rw [HAA.out]; exact WIk.kept HWI.out hres.2.1, wcap_of HCQ.out⟩⟩
theorem WIk.form {W : World} {v : Value} {w : DC.Wd} (h : WIk W v w) : ∃ A0 c0 A1 c1 A2 c2 A3 c3 A4 c4, v = .agg #[.slice A0 w.ms.length c0, .slice A1 w.vs.length c1, .slice A2 w.ts.length c2, .slice A3 w.ml.length c3, .slice A4 w.ch.length c4] := by
 obtain ⟨A0, c0, A1, c1, A2, c2, A3, c3, A4, c4, xs, e, _⟩ := h.is
 exact ⟨A0, c0, A1, c1, A2, c2, A3, c3, A4, c4, e⟩
def orZero (y : Int) (w : DC.Wd) : DC.Wd := if y = 0 then w else DC.zero
def VRet (w : DC.Wd) (y : Int) (W : World) (e : Ending) (W' : World) : Prop :=
 ∃ A0 c0 A1 c1 A2 c2 A3 c3 A4 c4, e = .returned (.tuple #[.agg #[.slice A0 w.ms.length c0, .slice A1 w.vs.length c1, .slice A2 w.ts.length c2, .slice A3 w.ml.length c3, .slice A4 w.ch.length c4], .int .i64 y]) ∧ Below W.heap.size W W' ∧ WIk W' (.agg #[.slice A0 w.ms.length c0, .slice A1 w.vs.length c1, .slice A2 w.ts.length c2, .slice A3 w.ml.length c3, .slice A4 w.ch.length c4]) w
theorem wik_zero (W : World) : WIk W zeroW DC.zero := fun W' _ =>
 ⟨none, 0, none, 0, none, 0, none, 0, none, 0, [], rfl, ⟨rfl, fun h => absurd h (Nat.lt_irrefl 0)⟩, ⟨rfl, fun h => absurd h (Nat.lt_irrefl 0)⟩, ⟨rfl, fun h => absurd h (Nat.lt_irrefl 0)⟩, ⟨[], rfl, rfl, fun i t h => by cases h⟩, ⟨rfl, fun h => absurd h (Nat.lt_irrefl 0)⟩, ⟨rfl, fun h => absurd h (Nat.lt_irrefl 0)⟩⟩
theorem fit_zeroW : WFit DC.zero := ⟨by decide, by decide, by decide, by decide, by decide, (by intro v h; cases h), (by intro v h; cases h), (by intro v h; cases h), (by intro v h; cases h)⟩
theorem vret_mk {w : DC.Wd} {y : Int} {v : Value} {W W' : World} (hb : Below W.heap.size W W') (h : (y ≠ 0 ∧ v = zeroW) ∨ (y = 0 ∧ WIk W' v w)) : VRet (orZero y w) y W (.returned (.tuple #[v, .int .i64 y])) W' := by
 unfold orZero
 rcases h with ⟨h, rfl⟩ | ⟨h, k⟩
 ·rw [if_neg h]
  exact ⟨none, 0, none, 0, none, 0, none, 0, none, 0, rfl, hb, wik_zero W'⟩
 ·rw [if_pos h]
  obtain ⟨A0, c0, A1, c1, A2, c2, A3, c3, A4, c4, rfl⟩ := k.form
  exact ⟨A0, c0, A1, c1, A2, c2, A3, c3, A4, c4, rfl, hb, k⟩
def LVar (W : World) (g : Nat) (w : DC.Wd) (A0 A1 A2 A3 A4 : Option Addr) (c0 c1 c2 c3 c4 : Nat) : Prop := Box W g 28 #[.slice A0 w.ms.length c0, .slice A1 w.vs.length c1, .slice A2 w.ts.length c2, .slice A3 w.ml.length c3, .slice A4 w.ch.length c4] ∧ WIk W (.agg #[.slice A0 w.ms.length c0, .slice A1 w.vs.length c1, .slice A2 w.ts.length c2, .slice A3 w.ml.length c3, .slice A4 w.ch.length c4]) w
theorem LVar.below {W W' : World} {g : Nat} {w : DC.Wd} {A0 A1 A2 A3 A4 : Option Addr} {c0 c1 c2 c3 c4 : Nat} (h : LVar W g w A0 A1 A2 A3 A4 c0 c1 c2 c3 c4) (hb : Below W.heap.size W W') : LVar W' g w A0 A1 A2 A3 A4 c0 c1 c2 c3 c4 :=
 ⟨h.1.below hb h.1.lt, h.2.below hb⟩
theorem LVar.new {W : World} {w : DC.Wd} {A0 A1 A2 A3 A4 : Option Addr} {c0 c1 c2 c3 c4 : Nat} (h : WIk W (.agg #[.slice A0 w.ms.length c0, .slice A1 w.vs.length c1, .slice A2 w.ts.length c2, .slice A3 w.ml.length c3, .slice A4 w.ch.length c4]) w) : LVar (W.alloc (.cells #[.slice A0 w.ms.length c0, .slice A1 w.vs.length c1, .slice A2 w.ts.length c2, .slice A3 w.ml.length c3, .slice A4 w.ch.length c4] 28)) W.heap.size w A0 A1 A2 A3 A4 c0 c1 c2 c3 c4 :=
 ⟨Box.new _ _ _, h.below ((Below.refl _ _).alloc n! _)⟩
end Go.Proofs.YtiiobafcgdelmaaGreat.PD
