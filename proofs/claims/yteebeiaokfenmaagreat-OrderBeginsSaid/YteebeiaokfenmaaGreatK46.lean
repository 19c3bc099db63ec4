/-
  Package order: who tells times is handed a player's steps: its walk. Conditions: a log that may be.
-/
import Derived.Test.YteebeiaokfenmaaGreatK45
import Derived.Test.YteebeiaokfenmaaGreatK44
namespace Go.Proofs.YteebeiaokfenmaaGreat.KP
open Go.RowKit CP TP LP
open CM (Mg Cm)
open TM (Sp)
open KM (Wt Sk)
set_option linter.unusedVariables false
set_option linter.unusedSimpArgs false
set_option maxRecDepth 100000
set_option maxHeartbeats 8000000 in
theorem seeTe (g : Int) (cs : List Cm) (W0 w : World) (b p : Nat) (hg : 0 ≤ g ∧ g < 4) (hcs : ∀ c ∈ cs, CM.may c) (hlen : cs.length ≤ 200) (h1 : p < w.heap.size) (hb : b ≤ w.heap.size) :
    See 58 #[.pointer (some ⟨p, 0, none⟩)] g cs W0 w.heap.size (RTe g cs W0 b p) := by
  refine ⟨fun args w => by rfl, fun k X W W' h hB hK => ?_, fun k X W h q hq => ?_, fun k c X W hc ho h => ?_, ?_⟩
  · obtain ⟨⟨C, i, j, D, u, v, k1, k2, k3, rfl⟩, hk⟩ := h
    exact ⟨⟨C, i, j, D, u, v, k1.below hB h1, k2.kept hK (by decide), k3.kept hK (by decide), rfl⟩, hk⟩
  · obtain ⟨⟨C, i, j, D, u, v, k1, k2, k3, rfl⟩, hk⟩ := h
    rcases hq with rfl | hq | hq
    · exact k1.lt
    · exact (k2.blk hq).2
    · exact (k3.blk hq).2
  · have e : cs.take (k + 1) = cs.take k ++ [c] := by rw [List.take_add_one, hc]; rfl
    have e1 : (OM.play g (cs.take (k + 1))).2.2 = (OM.play g (cs.take k)).2.2 := by
      rw [e, OM.times_snoc, OM.play_snoc]
      unfold OM.nx stA at *
      simp only [ho]
      unfold OM.tm1
      rw [if_neg (Nat.lt_irrefl _), List.append_nil]
    have e2 : OM.fins g (cs.take (k + 1)) = OM.fins g (cs.take k) := by
      rw [e, OM.fins_snoc]
      unfold stA at *
      rw [ho]
      unfold OM.fin1
      rw [if_neg (fun k => k.2 rfl), List.append_nil]
    exact rTe_same h hc e1 e2 (Below.refl _ _)
  · intro k e X W va vda vb vdb vm bb hc hp hR hB0 r1 r2 hsa hX hbb hb1 hsb hm
    have hRR := Lib.hid hR
    obtain ⟨⟨C, i, j, D, u, v, k1, k2, k3, rfl⟩, hk⟩ := hR
    obtain ⟨A5, a5, B5, b5, n5, m5, rfl, rfl⟩ := skIs_form hsa
    obtain ⟨A6, a6, B6, b6, rfl, rfl⟩ := skO_form hsb
    obtain ⟨A7, a7, rfl, _⟩ := hm.g
    have hnx := tm_next hc hg hcs hp
    obtain ⟨t1, t2⟩ := told_few g (cs.take k)
    have htk : (cs.take k).length ≤ 200 := by rw [List.length_take]; omega
    have f1 := k2.len
    have f2 := k3.len
    rw [List.length_map] at f1
    have hi : i ≤ 200 := by omega
    have hu : u ≤ 200 := by omega
    clear f1 f2 t1 t2 htk
    obtain ⟨j0, hj, hy0, hy1, hy2⟩ := info_parts info_wt
    obtain ⟨j1, hz, hz0, hz1, hz2⟩ := info_parts info_cm
    obtain ⟨q0, hq0⟩ : ∃ q0, W.heap.size = q0 := ⟨_, rfl⟩
    have HDO := Lib.hid (fun (kind : Int) W' (hb : Below W.heap.size W W') => pdoes_any kind e.A e.c e.B e.d e.x (stA g cs k) (KM.putF (stA g cs k) g e.x).1 A5 n5 a5 B5 m5 b5 A6 _ a6 B6 _ b6 A7 (KM.putF (stA g cs k) g e.x).2.1.length a7 W' (hsa.below hb) (hsb.is.below hb))
    have HSB := Lib.hid (fun (W3 : World) (Wa : World) (G : Option Addr) (x y : Nat) hb h1 h2 hgr hob => rTe_b (W3 := W3) (Wa := Wa) (G := G) (x := x) (y := y) hc k1 k3 k2 hb h1 h2 hgr hob)
    have HSF := Lib.hid (fun (W3 : World) (Wa : World) (G : Option Addr) (x y : Nat) hb h1 h2 hgr hob => rTe_f (W3 := W3) (Wa := Wa) (G := G) (x := x) (y := y) hc k1 k3 k2 hb h1 h2 hgr hob)
    have HSS := Lib.hid (fun (W' : World) h1 h2 (hb : Below W.heap.size W W') => rTe_same hRR.out hc h1 h2 hb)
    obtain ⟨T1, hT1⟩ : ∃ T1, T1 = (OM.play g (cs.take k)).2.2 := ⟨_, rfl⟩
    obtain ⟨T2, hT2⟩ : ∃ T2, T2 = (OM.play g (cs.take (k + 1))).2.2 := ⟨_, rfl⟩
    obtain ⟨F1, hF1⟩ : ∃ F1, F1 = OM.fins g (cs.take k) := ⟨_, rfl⟩
    obtain ⟨F2, hF2⟩ : ∃ F2, F2 = OM.fins g (cs.take (k + 1)) := ⟨_, rfl⟩
    obtain ⟨S1, hS1⟩ : ∃ S1, S1 = stA g cs k := ⟨_, rfl⟩
    obtain ⟨O2, hO2⟩ : ∃ O2, O2 = (KM.putF (stA g cs k) g e.x).2.1 := ⟨_, rfl⟩
    obtain ⟨S2, hS2⟩ : ∃ S2, S2 = (KM.putF (stA g cs k) g e.x).1 := ⟨_, rfl⟩
    rw [← hS2, ← hO2, ← hS1] at HDO ⊢
    rw [← hS1] at hS2
    rw [← hT1, ← hT2, ← hF1, ← hF2, ← hS1, ← hS2] at hnx
    rw [← hT2] at HSB HSF HSS
    rw [← hF2] at HSB HSF HSS
    rw [← hF1] at HSB HSS k3
    rw [← hT1] at HSF HSS k2
    have HNX := Lib.hid hnx
    have X1 := Lib.hid k1
    have X2 := Lib.hid k2
    have X3 := Lib.hid k3
    have HBL := Lib.hid (show b ≤ W.heap.size from Nat.le_trans hb (Nat.le_trans hb1 hbb))
    have HRA := Lib.hid (show RowIs W0 e.A e.c e.x.m.gs ∧ RowIs W0 e.B e.d e.x.ms from ⟨r1, r2⟩)
    clear hsa hsb hX k1 k2 k3 hm hT1 hT2 hF1 hF2 hS1 hS2 hO2 hB0 r1 r2 hc hp hk hnx hRR hbb hb1
    obtain ⟨A0, c0, B0, d0, x⟩ := e
    obtain ⟨xx, hxx⟩ : ∃ xx, xx = x := ⟨_, rfl⟩
    have HXX := Lib.hid hxx
    obtain ⟨ck, ⟨ai, ag, at_, ak, ab⟩, bid, btm, bms, btp, bwh, bn⟩ := x
    clear hxx
    unfold scells at HDO ⊢
    simp only at HDO HNX HRA ⊢
    show Calls Tryz.prog 58 #[.agg #[.int .u8 ck, .int .i64 ai, .slice A0 ag.length c0, .int .i64 at_, .string ak, .string ab, .int .i64 bid, .int .i64 btm, .slice B0 bms.length d0, .int .i64 btp, .int .i64 bwh, .int .i64 bn, .int .i64 S1.c, .slice A5 n5 a5, .slice B5 m5 b5, .int .i64 S2.c, .slice A6 S2.ws.length a6, .slice B6 S2.ds.length b6, .slice A7 O2.length a7], .pointer (some ⟨p, 0, none⟩)] W _
    obtain ⟨cl, hcl⟩ : ∃ cl : Array Value, cl = #[.int .u8 ck, .int .i64 ai, .slice A0 ag.length c0, .int .i64 at_, .string ak, .string ab, .int .i64 bid, .int .i64 btm, .slice B0 bms.length d0, .int .i64 btp, .int .i64 bwh, .int .i64 bn, .int .i64 S1.c, .slice A5 n5 a5, .slice B5 m5 b5, .int .i64 S2.c, .slice A6 S2.ws.length a6, .slice B6 S2.ds.length b6, .slice A7 O2.length a7] := ⟨_, rfl⟩
    have Y := Box.new_at (w := W) (t := 93) (cs := cl) q0 hq0
    have HB := Lib.hid (show Below W.heap.size W (W.alloc (.cells cl 93)) from (Below.refl _ _).alloc (Nat.le_refl _) _)
    rw [hcl] at Y HB
    clear hcl
    have D1 := Lib.hid (fun W' (hb : Below W.heap.size W W') => HDO.out 1 W' hb)
    have D2 := Lib.hid (fun W' (hb : Below W.heap.size W W') => HDO.out 2 W' hb)
    obtain ⟨z1, hz1⟩ : ∃ z1, z1 = decide (ck = 1 ∧ S1 ≠ S2) := ⟨_, rfl⟩
    obtain ⟨z2, hz2⟩ : ∃ z2, z2 = decide (ck = 2 ∧ S1 ≠ S2) := ⟨_, rfl⟩
    have hzz : z1 = true → z2 = false := fun h => by
      rw [hz1, decide_eq_true_eq] at h
      rw [hz2, decide_eq_false_iff_not]
      omega
    have HZZ := Lib.hid hzz
    rw [← hz1] at D1 HNX
    rw [← hz2] at D2 HNX
    clear hz1 hz2 hzz HDO
    go_enter Tryz.func58, Tryz.ntmps58
    go_upto_region 1 with (fail)
    generalize W.alloc (.cells #[.int .u8 ck, .int .i64 ai, .slice A0 ag.length c0, .int .i64 at_, .string ak, .string ab, .int .i64 bid, .int .i64 btm, .slice B0 bms.length d0, .int .i64 btp, .int .i64 bwh, .int .i64 bn, .int .i64 S1.c, .slice A5 n5 a5, .slice B5 m5 b5, .int .i64 S2.c, .slice A6 S2.ws.length a6, .slice B6 S2.ds.length b6, .slice A7 O2.length a7] 93) = W1 at HB Y ⊢
    clear hq0
    have YY := Lib.hid Y
    clear Y
    go_wp2_with (refine wpList_load_step rfl _ rfl rfl YY.out rfl ?_)
    refine (D1.out _ HB.out).mono ?_
    rintro e w2 ⟨rfl, hb2⟩
    have HB2 := Lib.hid (bmore HB.out hb2 (Nat.le_refl _))
    have Y2 := Lib.hid (YY.out.below hb2 YY.out.lt)
    clear hb2 D1
    rcases z1 with _ | _
    rotate_left
    · have hz2 := HZZ.out rfl
      subst hz2
      have N2 := Lib.hid (show F2 = F1 by have := HNX.out.2; simpa using this)
      have N1 := Lib.hid (show T2 = T1 ++ [(S2.c, ⟨ai, ag, at_, ak, ab⟩)] by have := HNX.out.1; simpa using this)
      have y0 := Y2.out.cell 0
      have y1 := Y2.out.cell 1
      have y2 := Y2.out.cell 2
      have y3 := Y2.out.cell 3
      have y4 := Y2.out.cell 4
      have y5 := Y2.out.cell 5
      have y6 := Y2.out.cell 6
      have y7 := Y2.out.cell 7
      have y8 := Y2.out.cell 8
      have y9 := Y2.out.cell 9
      have y10 := Y2.out.cell 10
      have y11 := Y2.out.cell 11
      have y12 := Y2.out.cell 12
      have y13 := Y2.out.cell 13
      have y14 := Y2.out.cell 14
      have y15 := Y2.out.cell 15
      have y16 := Y2.out.cell 16
      have y17 := Y2.out.cell 17
      have y18 := Y2.out.cell 18
      simp at y0 y1 y2 y3 y4 y5 y6 y7 y8 y9 y10 y11 y12 y13 y14 y15 y16 y17 y18
      obtain ⟨x0, x1, x2, f0, f1, f2⟩ := (X1.out.below HB2.out X1.out.lt).three
      have HKX := Lib.hid (X2.out.below HB2.out)
      have HLB := Lib.hid (Nat.le_trans HBL.out HB2.out.size)
      have HAL := Lib.hid (bmore HB2.out ((Below.refl w2.heap.size w2).alloc (Nat.le_refl _) (.cells #[.int .i64 ai, .slice A0 ag.length c0, .int .i64 at_, .string ak, .string ab, .int .i64 S2.c, .bool false] 78)) (Nat.le_refl _))
      go_wp2_with (at_builtin; refine wpList_append_kx (K := KW) rfl _ _ 37 rfl 78 j0 _ 88 Tryz.underlying37 hj hy0 hy1 hy2 rfl rfl HKX.out rfl #[.int .i64 ai, .slice A0 ag.length c0, .int .i64 at_, .string ak, .string ab, .int .i64 S2.c, .bool false] (show _ = KW.cel A0 c0 ⟨⟨ai, ag, at_, ak, ab⟩, S2.c, false⟩ from rfl) HRA.out.1 (by unfold maxLen; omega) (by omega) HLB.out ?_; intro A8 c8 w3 hko hgr hob; have HF := Lib.hid (HSB.out w3 _ A8 _ c8 HAL.out (by rw [N1.out, List.map_append]; exact hko) N2.out hgr hob); have HP2 := Lib.hid ((X1.out.below HAL.out X1.out.lt).grown hgr (by obtain ⟨es, _, ho, _⟩ := HKX.out.below ((Below.refl w2.heap.size w2).alloc (Nat.le_refl _) (.cells #[.int .i64 ai, .slice A0 ag.length c0, .int .i64 at_, .string ak, .string ab, .int .i64 S2.c, .bool false] 78)); exact own_ne ho (X1.out.below HAL.out X1.out.lt) (by decide))); clear hko hgr hob x0 x1 x2 f0 f1 f2 y0 y1 y2 y3 y4 y5 y6 y7 y8 y9 y10 y11 y12 y13 y14 y15 y16 y17 y18; obtain ⟨x0, x1, x2, f0, f1, f2⟩ := HP2.out.three)
      go_end0
      exact ⟨rfl, HF.out⟩
    have N1 := Lib.hid (show T2 = T1 by have := HNX.out.1; simpa using this)
    go_wp2_with (refine wpList_load_step rfl _ rfl rfl Y2.out rfl ?_)
    refine (D2.out _ HB2.out).mono ?_
    rintro e w4 ⟨rfl, hb4⟩
    have HB4 := Lib.hid (bmore HB2.out hb4 (Nat.le_refl _))
    have Y4 := Lib.hid (Y2.out.below hb4 Y2.out.lt)
    clear hb4 D2
    rcases z2 with _ | _
    · have N2 := Lib.hid (show F2 = F1 by have := HNX.out.2; simpa using this)
      go_wp2_with fail
      go_end0
      exact ⟨rfl, _, HSS.out _ N1.out N2.out HB4.out, KpX.of_below HB4.out, fun q hq => .inl hq⟩
    have N2 := Lib.hid (show F2 = F1 ++ [xx] by have := HNX.out.2; rw [HXX.out]; simpa using this)
    have y0 := Y4.out.cell 0
    have y1 := Y4.out.cell 1
    have y2 := Y4.out.cell 2
    have y3 := Y4.out.cell 3
    have y4 := Y4.out.cell 4
    have y5 := Y4.out.cell 5
    have y6 := Y4.out.cell 6
    have y7 := Y4.out.cell 7
    have y8 := Y4.out.cell 8
    have y9 := Y4.out.cell 9
    have y10 := Y4.out.cell 10
    have y11 := Y4.out.cell 11
    have y12 := Y4.out.cell 12
    have y13 := Y4.out.cell 13
    have y14 := Y4.out.cell 14
    have y15 := Y4.out.cell 15
    have y16 := Y4.out.cell 16
    have y17 := Y4.out.cell 17
    have y18 := Y4.out.cell 18
    simp at y0 y1 y2 y3 y4 y5 y6 y7 y8 y9 y10 y11 y12 y13 y14 y15 y16 y17 y18
    obtain ⟨x0, x1, x2, f0, f1, f2⟩ := (X1.out.below HB4.out X1.out.lt).three
    have HKX := Lib.hid (X3.out.below HB4.out)
    have HLB := Lib.hid (Nat.le_trans HBL.out HB4.out.size)
    have hal := (Below.refl w4.heap.size w4).alloc (Nat.le_refl _) (.cells #[.int .u8 ck, .int .i64 ai, .slice A0 ag.length c0, .int .i64 at_, .string ak, .string ab, .int .i64 bid, .int .i64 btm, .slice B0 bms.length d0, .int .i64 btp, .int .i64 bwh, .int .i64 bn] 91)
    have HAL := Lib.hid (bmore HB4.out hal (Nat.le_refl _))
    have HKA := Lib.hid (HKX.out.below hal)
    clear hal
    go_wp2_with (at_builtin; refine wpList_append_cx (e := ⟨A0, c0, B0, d0, ⟨ck, ⟨ai, ag, at_, ak, ab⟩, bid, btm, bms, btp, bwh, bn⟩⟩) rfl _ _ 73 rfl 91 j1 _ Tryz.underlying73 hz hz0 hz1 hz2 rfl rfl HKX.out rfl #[.int .u8 ck, .int .i64 ai, .slice A0 ag.length c0, .int .i64 at_, .string ak, .string ab, .int .i64 bid, .int .i64 btm, .slice B0 bms.length d0, .int .i64 btp, .int .i64 bwh, .int .i64 bn] rfl HRA.out (by unfold maxLen; omega) (by omega) HLB.out ?_; intro A8 c8 w5 hko hgr hob; have HF := Lib.hid (HSF.out w5 _ A8 _ c8 HAL.out (by rw [N2.out, HXX.out]; exact hko) N1.out hgr hob); have HP2 := Lib.hid ((X1.out.below HAL.out X1.out.lt).grown hgr (by obtain ⟨es, _, ho, _⟩ := HKA.out; exact own_ne ho (X1.out.below HAL.out X1.out.lt) (by decide))); clear hko hgr hob x0 x1 x2 f0 f1 f2 y0 y1 y2 y3 y4 y5 y6 y7 y8 y9 y10 y11 y12 y13 y14 y15 y16 y17 y18; obtain ⟨x0, x1, x2, f0, f1, f2⟩ := HP2.out.three)
    go_end0
    exact ⟨rfl, HF.out⟩
end Go.Proofs.YteebeiaokfenmaaGreat.KP
