/- Contracts of functions of towncrier, layers 5 to 9, and of the document's own ones, part 12; each as its theorem says. -/
import Derived.Test.YtiiobafcgdelmaaGreatL01
import Derived.Test.YtiiobafcgdelmaaGreatL11
import Derived.Deep.RegionHeld3
import Derived.Deep.DeepCutAuto
set_option linter.unusedVariables false
set_option linter.unusedSimpArgs false
namespace Go.Proofs.YtiiobafcgdelmaaGreat
open Go.RowKit
def PlaceMid (w : World) (k : Nat) (r : Bool) (u v : Value) (wx : World) : Prop := u = .int .i64 k ∧ v = .bool r ∧ Below w.heap.size w wx
set_option maxRecDepth 100000 in
set_option maxHeartbeats 4000000 in
theorem acc_has (v : Value) (a : AM.At) (b x : Int) (w : World) (H : AtIs w v a) (F : Fit a) (hm : AM.may a = true) (hc : 2 ≤ a.ph) (hc2 : (decide (b = a.ba) && QM.has a.ms x) = true) (hh : QM.has a.ac x = true) (xx : Int) (ss : ByteArray) (hx : xx = (AM.onward ⟨a.ph, a.ba, a.ms, a.wi, a.va, a.ps, a.ac⟩).ph) (hs : ss = (AM.onward ⟨a.ph, a.ba, a.ms, a.wi, a.va, a.ps, a.ac⟩).va) :
  Calls Tryz.prog 103 #[v, .int .i64 b, .int .i64 x] w (ErrRet ⟨xx, a.ba, a.ms, a.wi, ss, a.ps, a.ac⟩ 0 w) := by
 have H' := h! H
 have F' := h! F
 obtain ⟨A, n, c, B, m, d, C, k, f, rfl, h1, h2, h3⟩ := H
 obtain ⟨W0, hW0⟩ : ∃ W0, W0 = (w.alloc (.cells #[.int .u8 a.ph, .int .i64 a.ba, .slice A n c, .string a.wi, .string a.va, .slice B m d, .slice C k f] 57)).alloc (.cells #[.int .u8 0, .int .i64 0, .slice none 0 0, .string ⟨#[]⟩, .string ⟨#[]⟩, .slice none 0 0, .slice none 0 0] 57) := ⟨_, rfl⟩
 have hb0 : Below w.heap.size w W0 := by rw [hW0]; exact ((Below.refl _ _).alloc n! _).alloc (by simp) _
 have hx0 : Box W0 w.heap.size 57 #[.int .u8 a.ph, .int .i64 a.ba, .slice A n c, .string a.wi, .string a.va, .slice B m d, .slice C k f] := by rw [hW0]; exact (Box.new _ _ _).alloc _
 have hz0 : Box W0 (w.heap.size + 1) 57 #[.int .u8 0, .int .i64 0, .slice none 0 0, .string ⟨#[]⟩, .string ⟨#[]⟩, .slice none 0 0, .slice none 0 0] := by rw [hW0]; exact Box.new_at _ (by simp)
 have hs0 : W0.heap.size = w.heap.size + 2 := by rw [hW0]; simp
 have X0 := h! hx0
 have Z0 := h! hz0
 have S0 := h! hs0
 have B0 := h! hb0
 have HCK := h! (acheck_any _ a W0 (H'.out.below hb0) F'.out)
 have HAN := h! (fun (W : World) (hb : Below w.heap.size w W) => isAnswer_any _ a b x W (H'.out.below hb) F'.out)
 have HTW := h! (fun (W : World) (hb : Below w.heap.size w W) => twin_any _ a W (H'.out.below hb) F'.out)
 have hk := okL_rise (may_ok hm (by omega))
 obtain ⟨hk1, hk2, hk3, hk4, hk5⟩ := hk
 rw [if_pos hm] at HCK
 rw [hc2] at HAN
 clear h1 h2 h3 hb0 hx0 hz0 hs0
 have q1 : decide (a.ph < 2) = false := by simp; omega
 clear hc
 go_enter Tryz.func103, Tryz.ntmps103
 go_wp2_with fail
 rw [← hW0]
 clear hW0
 refine HCK.out.mono ?_
 rintro e w1 ⟨rfl, hb1⟩
 clear HCK
 have X1 := h! (X0.out.below hb1 X0.out.lt)
 have Z1 := h! (Z0.out.below hb1 Z0.out.lt)
 have B1 := h! (bmore B0.out hb1 n!)
 clear X0 Z0 B0 hb1
 obtain ⟨⟨t0, t1, t2, t3, t4, t5, t6⟩, tf0, tf1, tf2, tf3, tf4, tf5, tf6⟩ := X1.out.seven
 go_wp2_with fail
 refine (HAN.out _ B1.out).mono ?_
 clear t0 t1 t2 t3 t4 t5 t6 tf0 tf1 tf2 tf3 tf4 tf5 tf6
 rintro e w2 ⟨rfl, hb2⟩
 have X2 := h! (X1.out.below hb2 X1.out.lt)
 have Z2 := h! (Z1.out.below hb2 Z1.out.lt)
 have B2 := h! (bmore B1.out hb2 n!)
 clear X1 Z1 B1 hb2
 obtain ⟨⟨t0, t1, t2, t3, t4, t5, t6⟩, tf0, tf1, tf2, tf3, tf4, tf5, tf6⟩ := X2.out.seven
 go_wp2_with fail
 refine (HTW.out _ B2.out).mono ?_
 clear t0 t1 t2 t3 t4 t5 t6 tf0 tf1 tf2 tf3 tf4 tf5 tf6
 rintro e wt ⟨vt, rfl, hnew, hbt⟩
 obtain ⟨A1, c1, B1, d1, C1, f1, rfl, o1, o2, o3, dj⟩ := hnew
 obtain ⟨N, hN⟩ : ∃ N, N = w2.heap.size := ⟨_, rfl⟩
 rw [← hN] at o1 o2 o3
 have hgN : w.heap.size + 1 < N := by rw [hN]; exact Z2.out.lt
 have xt := X2.out.below hbt X2.out.lt
 have XT := h! (xt.put7 (.int .u8 a.ph) (.int .i64 a.ba) (.slice A1 a.ms.length c1) (.string a.wi) (.string a.va) (.slice B1 a.ps.length d1) (.slice C1 a.ac.length f1))
 have ZT := h! ((Z2.out.below hbt Z2.out.lt).putFar7 (g' := w.heap.size) (by omega) (.int .u8 a.ph) (.int .i64 a.ba) (.slice A1 a.ms.length c1) (.string a.wi) (.string a.va) (.slice B1 a.ps.length d1) (.slice C1 a.ac.length f1))
 have BT := h! (below_put7 (bmore B2.out hbt n!) (g := w.heap.size) n! (.int .u8 a.ph) (.int .i64 a.ba) (.slice A1 a.ms.length c1) (.string a.wi) (.string a.va) (.slice B1 a.ps.length d1) (.slice C1 a.ac.length f1))
 have O1 := h! (own_put7 o1 (g := w.heap.size) (by omega) (.int .u8 a.ph) (.int .i64 a.ba) (.slice A1 a.ms.length c1) (.string a.wi) (.string a.va) (.slice B1 a.ps.length d1) (.slice C1 a.ac.length f1))
 have O2 := h! (own_put7 o2 (g := w.heap.size) (by omega) (.int .u8 a.ph) (.int .i64 a.ba) (.slice A1 a.ms.length c1) (.string a.wi) (.string a.va) (.slice B1 a.ps.length d1) (.slice C1 a.ac.length f1))
 have O3 := h! (own_put7 o3 (g := w.heap.size) (by omega) (.int .u8 a.ph) (.int .i64 a.ba) (.slice A1 a.ms.length c1) (.string a.wi) (.string a.va) (.slice B1 a.ps.length d1) (.slice C1 a.ac.length f1))
 have DJ := h! dj
 have NT := h! (show N ≤ (put7 wt w.heap.size (.int .u8 a.ph) (.int .i64 a.ba) (.slice A1 a.ms.length c1) (.string a.wi) (.string a.va) (.slice B1 a.ps.length d1) (.slice C1 a.ac.length f1)).heap.size by rw [hN]; simp only [put7, size_set]; exact hbt.size)
 unfold put7 at XT ZT BT O1 O2 O3 NT
 obtain ⟨⟨t0, t1, t2, t3, t4, t5, t6⟩, tf0, tf1, tf2, tf3, tf4, tf5, tf6⟩ := xt.seven
 clear o1 o2 o3 dj xt hbt hN X2 Z2 B2 HAN HTW
 go_upto_region 7 with (fail)
 generalize ((((((wt.setCell ⟨w.heap.size, 0, none⟩ (.int .u8 a.ph)).setCell ⟨w.heap.size, 1, none⟩ (.int .i64 a.ba)).setCell ⟨w.heap.size, 2, none⟩ (.slice A1 a.ms.length c1)).setCell ⟨w.heap.size, 3, none⟩ (.string a.wi)).setCell ⟨w.heap.size, 4, none⟩ (.string a.va)).setCell ⟨w.heap.size, 5, none⟩ (.slice B1 a.ps.length d1)).setCell ⟨w.heap.size, 6, none⟩ (.slice C1 a.ac.length f1) = u at XT ZT BT O1 O2 O3 NT ⊢
 clear t0 t1 t2 t3 t4 t5 t6 tf0 tf1 tf2 tf3 tf4 tf5 tf6
 have HP := h! (place_any C1 a.ac.length f1 a.ac x u (Rd.of_own O3.out) (by omega) hk3)
 rw [hh] at HP
 obtain ⟨⟨t0, t1, t2, t3, t4, t5, t6⟩, tf0, tf1, tf2, tf3, tf4, tf5, tf6⟩ := XT.out.seven
 go_wp2_with fail
 refine HP.out.mono ?_
 rintro e wc ⟨rfl, hmb⟩
 clear HP
 clear t0 t1 t2 t3 t4 t5 t6 tf0 tf1 tf2 tf3 tf4 tf5 tf6
 have XC := h! (XT.out.below hmb XT.out.lt)
 have ZC := h! (ZT.out.below hmb ZT.out.lt)
 have BC := h! (bmore BT.out hmb n!)
 have Q1 := h! (own_below3 O1.out hmb)
 have Q2 := h! (own_below3 O2.out hmb)
 have Q3 := h! (own_below3 O3.out hmb)
 have NC := h! (Nat.le_trans NT.out hmb.size)
 clear XT ZT BT O1 O2 O3 NT hmb
 have HO := h! (onward_lit ⟨a.ph, a.ba, a.ms, a.wi, a.va, a.ps, a.ac⟩ xx ss hx hs A1 a.ms.length c1 B1 a.ps.length d1 C1 a.ac.length f1 wc (Rd.of_own Q1.out) (RdP.of_own Q2.out) (Rd.of_own Q3.out) hk1 (by omega) (by omega))
 clear hx hs
 obtain ⟨⟨t0, t1, t2, t3, t4, t5, t6⟩, tf0, tf1, tf2, tf3, tf4, tf5, tf6⟩ := XC.out.seven
 go_wp2_with fail
 refine HO.out.mono ?_
 rintro e wf ⟨rfl, hbf⟩
 clear t0 t1 t2 t3 t4 t5 t6 tf0 tf1 tf2 tf3 tf4 tf5 tf6
 have zf := ZC.out.below hbf ZC.out.lt
 have HQX := h! (zf.put7 (.int .u8 xx) (.int .i64 a.ba) (.slice A1 a.ms.length c1) (.string a.wi) (.string ss) (.slice B1 a.ps.length d1) (.slice C1 a.ac.length f1))
 have HQB := h! (below_put7 (bmore BC.out hbf n!) (g := w.heap.size + 1) (by omega) (.int .u8 xx) (.int .i64 a.ba) (.slice A1 a.ms.length c1) (.string a.wi) (.string ss) (.slice B1 a.ps.length d1) (.slice C1 a.ac.length f1))
 have K1 := h! (own_put7 (own_below3 Q1.out hbf) (g := w.heap.size + 1) hgN (.int .u8 xx) (.int .i64 a.ba) (.slice A1 a.ms.length c1) (.string a.wi) (.string ss) (.slice B1 a.ps.length d1) (.slice C1 a.ac.length f1))
 have K2 := h! (own_put7 (own_below3 Q2.out hbf) (g := w.heap.size + 1) hgN (.int .u8 xx) (.int .i64 a.ba) (.slice A1 a.ms.length c1) (.string a.wi) (.string ss) (.slice B1 a.ps.length d1) (.slice C1 a.ac.length f1))
 have K3 := h! (own_put7 (own_below3 Q3.out hbf) (g := w.heap.size + 1) hgN (.int .u8 xx) (.int .i64 a.ba) (.slice A1 a.ms.length c1) (.string a.wi) (.string ss) (.slice B1 a.ps.length d1) (.slice C1 a.ac.length f1))
 unfold put7 at HQX HQB K1 K2 K3
 obtain ⟨⟨v0, v1, v2, v3, v4, v5, v6⟩, vf0, vf1, vf2, vf3, vf4, vf5, vf6⟩ := zf.seven
 clear zf hbf XC ZC BC Q1 Q2 Q3 HO
 go_wp2_with fail
 obtain ⟨⟨dd0, dd1, dd2, dd3, dd4, dd5, dd6⟩, _⟩ := HQX.out.seven
 have m1 := own_base K1.out (show w.heap.size ≤ N by omega)
 have m2 := own_base K2.out (show w.heap.size ≤ N by omega)
 have m3 := own_base K3.out (show w.heap.size ≤ N by omega)
 exact bodyPost_ret (v := .tuple #[.agg #[.int .u8 xx, .int .i64 a.ba, .slice A1 a.ms.length c1, .string a.wi, .string ss, .slice B1 a.ps.length d1, .slice C1 a.ac.length f1], .int .i64 0]) (by simp [results, Tryz.results103, go_sem, dd0, dd1, dd2, dd3, dd4, dd5, dd6]) rfl ⟨_, rfl, ⟨_, _, _, rfl, m1, m2, m3⟩, HQB.out⟩
set_option maxRecDepth 100000 in
set_option maxHeartbeats 4000000 in
theorem acc_new (v : Value) (a : AM.At) (b x : Int) (w : World) (H : AtIs w v a) (F : Fit a) (hm : AM.may a = true) (hc : 2 ≤ a.ph) (hc2 : (decide (b = a.ba) && QM.has a.ms x) = true) (hh : QM.has a.ac x = false) (xx : Int) (ss : ByteArray) (hx : xx = (AM.onward ⟨a.ph, a.ba, a.ms, a.wi, a.va, a.ps, (AM.insI a.ac x)⟩).ph) (hs : ss = (AM.onward ⟨a.ph, a.ba, a.ms, a.wi, a.va, a.ps, (AM.insI a.ac x)⟩).va) :
  Calls Tryz.prog 103 #[v, .int .i64 b, .int .i64 x] w (ErrRet ⟨xx, a.ba, a.ms, a.wi, ss, a.ps, (AM.insI a.ac x)⟩ 0 w) := by
 have H' := h! H
 have F' := h! F
 obtain ⟨A, n, c, B, m, d, C, k, f, rfl, h1, h2, h3⟩ := H
 obtain ⟨W0, hW0⟩ : ∃ W0, W0 = (w.alloc (.cells #[.int .u8 a.ph, .int .i64 a.ba, .slice A n c, .string a.wi, .string a.va, .slice B m d, .slice C k f] 57)).alloc (.cells #[.int .u8 0, .int .i64 0, .slice none 0 0, .string ⟨#[]⟩, .string ⟨#[]⟩, .slice none 0 0, .slice none 0 0] 57) := ⟨_, rfl⟩
 have hb0 : Below w.heap.size w W0 := by rw [hW0]; exact ((Below.refl _ _).alloc n! _).alloc (by simp) _
 have hx0 : Box W0 w.heap.size 57 #[.int .u8 a.ph, .int .i64 a.ba, .slice A n c, .string a.wi, .string a.va, .slice B m d, .slice C k f] := by rw [hW0]; exact (Box.new _ _ _).alloc _
 have hz0 : Box W0 (w.heap.size + 1) 57 #[.int .u8 0, .int .i64 0, .slice none 0 0, .string ⟨#[]⟩, .string ⟨#[]⟩, .slice none 0 0, .slice none 0 0] := by rw [hW0]; exact Box.new_at _ (by simp)
 have hs0 : W0.heap.size = w.heap.size + 2 := by rw [hW0]; simp
 have X0 := h! hx0
 have Z0 := h! hz0
 have S0 := h! hs0
 have B0 := h! hb0
 have HCK := h! (acheck_any _ a W0 (H'.out.below hb0) F'.out)
 have HAN := h! (fun (W : World) (hb : Below w.heap.size w W) => isAnswer_any _ a b x W (H'.out.below hb) F'.out)
 have HTW := h! (fun (W : World) (hb : Below w.heap.size w W) => twin_any _ a W (H'.out.below hb) F'.out)
 have hk := okL_rise (may_ok hm (by omega))
 obtain ⟨hk1, hk2, hk3, hk4, hk5⟩ := hk
 rw [if_pos hm] at HCK
 rw [hc2] at HAN
 clear h1 h2 h3 hb0 hx0 hz0 hs0
 have q1 : decide (a.ph < 2) = false := by simp; omega
 clear hc
 go_enter Tryz.func103, Tryz.ntmps103
 go_wp2_with fail
 rw [← hW0]
 clear hW0
 refine HCK.out.mono ?_
 rintro e w1 ⟨rfl, hb1⟩
 clear HCK
 have X1 := h! (X0.out.below hb1 X0.out.lt)
 have Z1 := h! (Z0.out.below hb1 Z0.out.lt)
 have B1 := h! (bmore B0.out hb1 n!)
 clear X0 Z0 B0 hb1
 obtain ⟨⟨t0, t1, t2, t3, t4, t5, t6⟩, tf0, tf1, tf2, tf3, tf4, tf5, tf6⟩ := X1.out.seven
 go_wp2_with fail
 refine (HAN.out _ B1.out).mono ?_
 clear t0 t1 t2 t3 t4 t5 t6 tf0 tf1 tf2 tf3 tf4 tf5 tf6
 rintro e w2 ⟨rfl, hb2⟩
 have X2 := h! (X1.out.below hb2 X1.out.lt)
 have Z2 := h! (Z1.out.below hb2 Z1.out.lt)
 have B2 := h! (bmore B1.out hb2 n!)
 clear X1 Z1 B1 hb2
 obtain ⟨⟨t0, t1, t2, t3, t4, t5, t6⟩, tf0, tf1, tf2, tf3, tf4, tf5, tf6⟩ := X2.out.seven
 go_wp2_with fail
 refine (HTW.out _ B2.out).mono ?_
 clear t0 t1 t2 t3 t4 t5 t6 tf0 tf1 tf2 tf3 tf4 tf5 tf6
 rintro e wt ⟨vt, rfl, hnew, hbt⟩
 obtain ⟨A1, c1, B1, d1, C1, f1, rfl, o1, o2, o3, dj⟩ := hnew
 obtain ⟨N, hN⟩ : ∃ N, N = w2.heap.size := ⟨_, rfl⟩
 rw [← hN] at o1 o2 o3
 have hgN : w.heap.size + 1 < N := by rw [hN]; exact Z2.out.lt
 have xt := X2.out.below hbt X2.out.lt
 have XT := h! (xt.put7 (.int .u8 a.ph) (.int .i64 a.ba) (.slice A1 a.ms.length c1) (.string a.wi) (.string a.va) (.slice B1 a.ps.length d1) (.slice C1 a.ac.length f1))
 have ZT := h! ((Z2.out.below hbt Z2.out.lt).putFar7 (g' := w.heap.size) (by omega) (.int .u8 a.ph) (.int .i64 a.ba) (.slice A1 a.ms.length c1) (.string a.wi) (.string a.va) (.slice B1 a.ps.length d1) (.slice C1 a.ac.length f1))
 have BT := h! (below_put7 (bmore B2.out hbt n!) (g := w.heap.size) n! (.int .u8 a.ph) (.int .i64 a.ba) (.slice A1 a.ms.length c1) (.string a.wi) (.string a.va) (.slice B1 a.ps.length d1) (.slice C1 a.ac.length f1))
 have O1 := h! (own_put7 o1 (g := w.heap.size) (by omega) (.int .u8 a.ph) (.int .i64 a.ba) (.slice A1 a.ms.length c1) (.string a.wi) (.string a.va) (.slice B1 a.ps.length d1) (.slice C1 a.ac.length f1))
 have O2 := h! (own_put7 o2 (g := w.heap.size) (by omega) (.int .u8 a.ph) (.int .i64 a.ba) (.slice A1 a.ms.length c1) (.string a.wi) (.string a.va) (.slice B1 a.ps.length d1) (.slice C1 a.ac.length f1))
 have O3 := h! (own_put7 o3 (g := w.heap.size) (by omega) (.int .u8 a.ph) (.int .i64 a.ba) (.slice A1 a.ms.length c1) (.string a.wi) (.string a.va) (.slice B1 a.ps.length d1) (.slice C1 a.ac.length f1))
 have DJ := h! dj
 have NT := h! (show N ≤ (put7 wt w.heap.size (.int .u8 a.ph) (.int .i64 a.ba) (.slice A1 a.ms.length c1) (.string a.wi) (.string a.va) (.slice B1 a.ps.length d1) (.slice C1 a.ac.length f1)).heap.size by rw [hN]; simp only [put7, size_set]; exact hbt.size)
 unfold put7 at XT ZT BT O1 O2 O3 NT
 obtain ⟨⟨t0, t1, t2, t3, t4, t5, t6⟩, tf0, tf1, tf2, tf3, tf4, tf5, tf6⟩ := xt.seven
 clear o1 o2 o3 dj xt hbt hN X2 Z2 B2 HAN HTW
 go_upto_region 7 with (fail)
 generalize ((((((wt.setCell ⟨w.heap.size, 0, none⟩ (.int .u8 a.ph)).setCell ⟨w.heap.size, 1, none⟩ (.int .i64 a.ba)).setCell ⟨w.heap.size, 2, none⟩ (.slice A1 a.ms.length c1)).setCell ⟨w.heap.size, 3, none⟩ (.string a.wi)).setCell ⟨w.heap.size, 4, none⟩ (.string a.va)).setCell ⟨w.heap.size, 5, none⟩ (.slice B1 a.ps.length d1)).setCell ⟨w.heap.size, 6, none⟩ (.slice C1 a.ac.length f1) = u at XT ZT BT O1 O2 O3 NT ⊢
 clear t0 t1 t2 t3 t4 t5 t6 tf0 tf1 tf2 tf3 tf4 tf5 tf6
 have HP := h! (place_any C1 a.ac.length f1 a.ac x u (Rd.of_own O3.out) (by omega) hk3)
 rw [hh] at HP
 obtain ⟨⟨t0, t1, t2, t3, t4, t5, t6⟩, tf0, tf1, tf2, tf3, tf4, tf5, tf6⟩ := XT.out.seven
 go_wp2_with fail
 refine HP.out.mono ?_
 rintro e wc ⟨rfl, hmb⟩
 clear HP
 clear t0 t1 t2 t3 t4 t5 t6 tf0 tf1 tf2 tf3 tf4 tf5 tf6
 have XC := h! (XT.out.below hmb XT.out.lt)
 have ZC := h! (ZT.out.below hmb ZT.out.lt)
 have BC := h! (bmore BT.out hmb n!)
 have Q1 := h! (own_below3 O1.out hmb)
 have Q2 := h! (own_below3 O2.out hmb)
 have Q3 := h! (own_below3 O3.out hmb)
 have NC := h! (Nat.le_trans NT.out hmb.size)
 clear XT ZT BT O1 O2 O3 NT hmb
 obtain ⟨⟨t0, t1, t2, t3, t4, t5, t6⟩, tf0, tf1, tf2, tf3, tf4, tf5, tf6⟩ := XC.out.seven
 have hal : Below wc.heap.size wc (wc.alloc (.cells #[.int .i64 x] 3)) := b!
 have HI := h! (insI_at N a.ac.length f1 wc.heap.size C1 a.ac x (wc.alloc (.cells #[.int .i64 x] 3)) (by omega) (by have := NC.out; simp; omega) (own_below3 Q3.out hal) (Box.new _ _ _) (by intro e; exact Nat.lt_irrefl _ (Q3.out.lt _ e).2))
 have HX := h! (XC.out.alloc (.cells #[.int .i64 x] 3))
 have HZ := h! (ZC.out.alloc (.cells #[.int .i64 x] 3))
 have HB := h! (BC.out.alloc BC.out.size (.cells #[.int .i64 x] 3))
 have R1 := h! (own_below3 Q1.out hal)
 have R2 := h! (own_below3 Q2.out hal)
 have R3 := h! (own_below3 Q3.out hal)
 have NA := h! (show N ≤ (wc.alloc (.cells #[.int .i64 x] 3)).heap.size by have := NC.out; simp; omega)
 clear hal XC ZC BC Q1 Q2 Q3 NC
 go_wp2_with fail
 refine HI.out.mono ?_
 rintro e wi ⟨A7, c7, rfl, o7, hg7, hob7⟩
 have hrow : ∀ g, Value.ownBlock (.slice C1 a.ac.length f1) = some g → N ≤ g := fun g hg => (own_block R3.out hg).1
 have x7 := HX.out.grown hg7 (fun e => by have := hrow _ e.symm; omega)
 have z7 := HZ.out.grown hg7 (fun e => by have := hrow _ e.symm; omega)
 have b7 := HB.out.grown hg7 HB.out.size (fun g hg => by have := hrow _ hg; omega)
 have r1 := own_grown R1.out hg7 (fun g h e => DJ.out g h e.symm)
 have r2 := own_grown R2.out hg7 (own_apart R2.out R3.out (by decide))
 have n7 := Nat.le_trans NA.out hg7.size
 clear HI HX HZ HB R1 R2 R3 NA hob7 hg7 hrow
 clear t0 t1 t2 t3 t4 t5 t6 tf0 tf1 tf2 tf3 tf4 tf5 tf6
 have XD := h! (x7.set7_6 (.slice A7 (a.ac.length + 1) c7))
 have ZD := h! (z7.far (p := ⟨w.heap.size, 6, none⟩) (by simp) (.slice A7 (a.ac.length + 1) c7))
 have BD := h! (below_put1 (g := w.heap.size) (k := 6) b7 n! (.slice A7 (a.ac.length + 1) c7))
 have S1 := h! (own_set1 (g := w.heap.size) (k := 6) r1 (by omega) (.slice A7 (a.ac.length + 1) c7))
 have S2 := h! (own_set1 (g := w.heap.size) (k := 6) r2 (by omega) (.slice A7 (a.ac.length + 1) c7))
 have S3 := h! (own_set1 (g := w.heap.size) (k := 6) o7 (by omega) (.slice A7 (a.ac.length + 1) c7))
 have ND := h! (show N ≤ (wi.setCell ⟨w.heap.size, 6, none⟩ (.slice A7 (a.ac.length + 1) c7)).heap.size by rw [size_set]; exact n7)
 obtain ⟨⟨t0, t1, t2, t3, t4, t5, t6⟩, tf0, tf1, tf2, tf3, tf4, tf5, tf6⟩ := x7.seven
 clear x7 z7 b7 r1 o7 n7 r2
 go_upto_region 10 with (fail)
 generalize wi.setCell ⟨w.heap.size, 6, none⟩ (.slice A7 (a.ac.length + 1) c7) = wd at XD ZD BD S1 S2 S3 ND ⊢
 clear t0 t1 t2 t3 t4 t5 t6 tf0 tf1 tf2 tf3 tf4 tf5 tf6
 have HO := h! (onward_lit ⟨a.ph, a.ba, a.ms, a.wi, a.va, a.ps, (AM.insI a.ac x)⟩ xx ss hx hs A1 a.ms.length c1 B1 a.ps.length d1 A7 (a.ac.length + 1) c7 wd (Rd.of_own S1.out) (RdP.of_own S2.out) (Rd.of_own S3.out) hk1 (by omega) (by omega))
 clear hx hs
 obtain ⟨⟨t0, t1, t2, t3, t4, t5, t6⟩, tf0, tf1, tf2, tf3, tf4, tf5, tf6⟩ := XD.out.seven
 go_wp2_with fail
 refine HO.out.mono ?_
 rintro e wf ⟨rfl, hbf⟩
 clear t0 t1 t2 t3 t4 t5 t6 tf0 tf1 tf2 tf3 tf4 tf5 tf6
 have zf := ZD.out.below hbf ZD.out.lt
 have HQX := h! (zf.put7 (.int .u8 xx) (.int .i64 a.ba) (.slice A1 a.ms.length c1) (.string a.wi) (.string ss) (.slice B1 a.ps.length d1) (.slice A7 (a.ac.length + 1) c7))
 have HQB := h! (below_put7 (bmore BD.out hbf n!) (g := w.heap.size + 1) (by omega) (.int .u8 xx) (.int .i64 a.ba) (.slice A1 a.ms.length c1) (.string a.wi) (.string ss) (.slice B1 a.ps.length d1) (.slice A7 (a.ac.length + 1) c7))
 have K1 := h! (own_put7 (own_below3 S1.out hbf) (g := w.heap.size + 1) hgN (.int .u8 xx) (.int .i64 a.ba) (.slice A1 a.ms.length c1) (.string a.wi) (.string ss) (.slice B1 a.ps.length d1) (.slice A7 (a.ac.length + 1) c7))
 have K2 := h! (own_put7 (own_below3 S2.out hbf) (g := w.heap.size + 1) hgN (.int .u8 xx) (.int .i64 a.ba) (.slice A1 a.ms.length c1) (.string a.wi) (.string ss) (.slice B1 a.ps.length d1) (.slice A7 (a.ac.length + 1) c7))
 have K3 := h! (own_put7 (own_below3 S3.out hbf) (g := w.heap.size + 1) hgN (.int .u8 xx) (.int .i64 a.ba) (.slice A1 a.ms.length c1) (.string a.wi) (.string ss) (.slice B1 a.ps.length d1) (.slice A7 (a.ac.length + 1) c7))
 unfold put7 at HQX HQB K1 K2 K3
 obtain ⟨⟨v0, v1, v2, v3, v4, v5, v6⟩, vf0, vf1, vf2, vf3, vf4, vf5, vf6⟩ := zf.seven
 clear zf hbf XD ZD BD S1 S2 S3 HO
 go_wp2_with fail
 obtain ⟨⟨dd0, dd1, dd2, dd3, dd4, dd5, dd6⟩, _⟩ := HQX.out.seven
 have m1 := own_base K1.out (show w.heap.size ≤ N by omega)
 have m2 := own_base K2.out (show w.heap.size ≤ N by omega)
 have m3 := own_base K3.out (show w.heap.size ≤ N by omega)
 exact bodyPost_ret (v := .tuple #[.agg #[.int .u8 xx, .int .i64 a.ba, .slice A1 a.ms.length c1, .string a.wi, .string ss, .slice B1 a.ps.length d1, .slice A7 (a.ac.length + 1) c7], .int .i64 0]) (by simp [results, Tryz.results103, go_sem, dd0, dd1, dd2, dd3, dd4, dd5, dd6]) rfl ⟨_, rfl, ⟨_, _, _, rfl, m1, m2, by rw [insI_len]; exact m3⟩, HQB.out⟩
set_option maxRecDepth 100000 in
set_option maxHeartbeats 4000000 in
theorem prom_has (v : Value) (a : AM.At) (b : Int) (p : AM.Pr) (w : World) (H : AtIs w v a) (F : Fit a) (FP : FitP p) (hm : AM.may a = true) (hc : a.ph = 1) (hc2 : (decide (b = a.ba) && QM.has a.ms p.n) = true) (ho : AM.okP b p = true) (hh : QM.has (AM.nodes a.ps) p.n = true) (xx : Int) (ss : ByteArray) (hx : xx = (AM.onward ⟨a.ph, a.ba, a.ms, a.wi, a.va, a.ps, a.ac⟩).ph) (hs : ss = (AM.onward ⟨a.ph, a.ba, a.ms, a.wi, a.va, a.ps, a.ac⟩).va) :
  Calls Tryz.prog 101 #[v, .int .i64 b, .agg #[.int .i64 p.n, .int .i64 p.b, .string p.v]] w (ErrRet ⟨xx, a.ba, a.ms, a.wi, ss, a.ps, a.ac⟩ 0 w) := by
 have H' := h! H
 have F' := h! F
 obtain ⟨A, n, c, B, m, d, C, k, f, rfl, h1, h2, h3⟩ := H
 obtain ⟨W0, hW0⟩ : ∃ W0, W0 = ((w.alloc (.cells #[.int .u8 a.ph, .int .i64 a.ba, .slice A n c, .string a.wi, .string a.va, .slice B m d, .slice C k f] 57)).alloc (.cells #[.int .i64 p.n, .int .i64 p.b, .string p.v] 86)).alloc (.cells #[.int .u8 0, .int .i64 0, .slice none 0 0, .string ⟨#[]⟩, .string ⟨#[]⟩, .slice none 0 0, .slice none 0 0] 57) := ⟨_, rfl⟩
 have hb0 : Below w.heap.size w W0 := by rw [hW0]; exact (((Below.refl _ _).alloc n! _).alloc (by simp) _).alloc (by simp; omega) _
 have hx0 : Box W0 w.heap.size 57 #[.int .u8 a.ph, .int .i64 a.ba, .slice A n c, .string a.wi, .string a.va, .slice B m d, .slice C k f] := by rw [hW0]; exact ((Box.new _ _ _).alloc _).alloc _
 have hp0 : Box W0 (w.heap.size + 1) 86 #[.int .i64 p.n, .int .i64 p.b, .string p.v] := by rw [hW0]; exact (Box.new_at _ (by simp)).alloc _
 have hz0 : Box W0 (w.heap.size + 2) 57 #[.int .u8 0, .int .i64 0, .slice none 0 0, .string ⟨#[]⟩, .string ⟨#[]⟩, .slice none 0 0, .slice none 0 0] := by rw [hW0]; exact Box.new_at _ (by simp)
 have hs0 : W0.heap.size = w.heap.size + 3 := by rw [hW0]; simp
 have P0 := h! hp0
 have X0 := h! hx0
 have Z0 := h! hz0
 have S0 := h! hs0
 have B0 := h! hb0
 have HCK := h! (acheck_any _ a W0 (H'.out.below hb0) F'.out)
 have HAN := h! (fun (W : World) (hb : Below w.heap.size w W) => isAnswer_any _ a b p.n W (H'.out.below hb) F'.out)
 have HTW := h! (fun (W : World) (hb : Below w.heap.size w W) => twin_any _ a W (H'.out.below hb) F'.out)
 have HPR := h! (fun (W : World) => isPromise_any b p W FP)
 have hk := okL_rise (may_ok hm (by omega))
 obtain ⟨hk1, hk2, hk3, hk4, hk5⟩ := hk
 rw [if_pos hm] at HCK
 rw [hc2] at HAN
 rw [ho] at HPR
 clear h1 h2 h3 hb0 hx0 hz0 hs0 hp0
 have q1 : (a.ph != 1) = false := by simpa using hc
 clear hc
 go_enter Tryz.func101, Tryz.ntmps101
 go_wp2_with fail
 rw [← hW0]
 clear hW0
 refine HCK.out.mono ?_
 rintro e w1 ⟨rfl, hb1⟩
 clear HCK
 have X1 := h! (X0.out.below hb1 X0.out.lt)
 have Z1 := h! (Z0.out.below hb1 Z0.out.lt)
 have P1 := h! (P0.out.below hb1 P0.out.lt)
 have B1 := h! (bmore B0.out hb1 n!)
 clear X0 Z0 B0 P0 hb1
 obtain ⟨⟨t0, t1, t2, t3, t4, t5, t6⟩, tf0, tf1, tf2, tf3, tf4, tf5, tf6⟩ := X1.out.seven
 obtain ⟨p0, p1, p2, pf0, pf1, pf2⟩ := P1.out.three
 go_wp2_with fail
 refine (HAN.out _ B1.out).mono ?_
 clear t0 t1 t2 t3 t4 t5 t6 tf0 tf1 tf2 tf3 tf4 tf5 tf6
 clear p0 p1 p2 pf0 pf1 pf2
 rintro e w2 ⟨rfl, hb2⟩
 have X2 := h! (X1.out.below hb2 X1.out.lt)
 have Z2 := h! (Z1.out.below hb2 Z1.out.lt)
 have P2 := h! (P1.out.below hb2 P1.out.lt)
 have B2 := h! (bmore B1.out hb2 n!)
 clear X1 Z1 B1 P1 hb2
 obtain ⟨⟨t0, t1, t2, t3, t4, t5, t6⟩, tf0, tf1, tf2, tf3, tf4, tf5, tf6⟩ := X2.out.seven
 obtain ⟨p0, p1, p2, pf0, pf1, pf2⟩ := P2.out.three
 go_wp2_with fail
 refine (HPR.out _).mono ?_
 clear t0 t1 t2 t3 t4 t5 t6 tf0 tf1 tf2 tf3 tf4 tf5 tf6
 clear p0 p1 p2 pf0 pf1 pf2
 rintro e w3 ⟨rfl, hb3⟩
 have X3 := h! (X2.out.below hb3 X2.out.lt)
 have Z3 := h! (Z2.out.below hb3 Z2.out.lt)
 have P3 := h! (P2.out.below hb3 P2.out.lt)
 have B3 := h! (bmore B2.out hb3 n!)
 clear X2 Z2 B2 P2 hb3
 obtain ⟨⟨t0, t1, t2, t3, t4, t5, t6⟩, tf0, tf1, tf2, tf3, tf4, tf5, tf6⟩ := X3.out.seven
 obtain ⟨p0, p1, p2, pf0, pf1, pf2⟩ := P3.out.three
 go_wp2_with fail
 refine (HTW.out _ B3.out).mono ?_
 clear t0 t1 t2 t3 t4 t5 t6 tf0 tf1 tf2 tf3 tf4 tf5 tf6
 clear p0 p1 p2 pf0 pf1 pf2
 rintro e wt ⟨vt, rfl, hnew, hbt⟩
 obtain ⟨A1, c1, B1, d1, C1, f1, rfl, o1, o2, o3, dj⟩ := hnew
 obtain ⟨N, hN⟩ : ∃ N, N = w3.heap.size := ⟨_, rfl⟩
 rw [← hN] at o1 o2 o3
 have hgN : w.heap.size + 2 < N := by rw [hN]; exact Z3.out.lt
 have xt := X3.out.below hbt X3.out.lt
 have XT := h! (xt.put7 (.int .u8 a.ph) (.int .i64 a.ba) (.slice A1 a.ms.length c1) (.string a.wi) (.string a.va) (.slice B1 a.ps.length d1) (.slice C1 a.ac.length f1))
 have ZT := h! ((Z3.out.below hbt Z3.out.lt).putFar7 (g' := w.heap.size) (by omega) (.int .u8 a.ph) (.int .i64 a.ba) (.slice A1 a.ms.length c1) (.string a.wi) (.string a.va) (.slice B1 a.ps.length d1) (.slice C1 a.ac.length f1))
 have PT := h! ((P3.out.below hbt P3.out.lt).putFar7 (g' := w.heap.size) (by omega) (.int .u8 a.ph) (.int .i64 a.ba) (.slice A1 a.ms.length c1) (.string a.wi) (.string a.va) (.slice B1 a.ps.length d1) (.slice C1 a.ac.length f1))
 have BT := h! (below_put7 (bmore B3.out hbt n!) (g := w.heap.size) n! (.int .u8 a.ph) (.int .i64 a.ba) (.slice A1 a.ms.length c1) (.string a.wi) (.string a.va) (.slice B1 a.ps.length d1) (.slice C1 a.ac.length f1))
 have O1 := h! (own_put7 o1 (g := w.heap.size) (by omega) (.int .u8 a.ph) (.int .i64 a.ba) (.slice A1 a.ms.length c1) (.string a.wi) (.string a.va) (.slice B1 a.ps.length d1) (.slice C1 a.ac.length f1))
 have O2 := h! (own_put7 o2 (g := w.heap.size) (by omega) (.int .u8 a.ph) (.int .i64 a.ba) (.slice A1 a.ms.length c1) (.string a.wi) (.string a.va) (.slice B1 a.ps.length d1) (.slice C1 a.ac.length f1))
 have O3 := h! (own_put7 o3 (g := w.heap.size) (by omega) (.int .u8 a.ph) (.int .i64 a.ba) (.slice A1 a.ms.length c1) (.string a.wi) (.string a.va) (.slice B1 a.ps.length d1) (.slice C1 a.ac.length f1))
 have DJ := h! dj
 have NT := h! (show N ≤ (put7 wt w.heap.size (.int .u8 a.ph) (.int .i64 a.ba) (.slice A1 a.ms.length c1) (.string a.wi) (.string a.va) (.slice B1 a.ps.length d1) (.slice C1 a.ac.length f1)).heap.size by rw [hN]; simp only [put7, size_set]; exact hbt.size)
 unfold put7 at XT ZT BT O1 O2 O3 NT PT
 obtain ⟨⟨t0, t1, t2, t3, t4, t5, t6⟩, tf0, tf1, tf2, tf3, tf4, tf5, tf6⟩ := xt.seven
 clear o1 o2 o3 dj xt hbt hN X3 Z3 B3 P3 HAN HTW HPR
 go_upto_region 9 with (fail)
 generalize ((((((wt.setCell ⟨w.heap.size, 0, none⟩ (.int .u8 a.ph)).setCell ⟨w.heap.size, 1, none⟩ (.int .i64 a.ba)).setCell ⟨w.heap.size, 2, none⟩ (.slice A1 a.ms.length c1)).setCell ⟨w.heap.size, 3, none⟩ (.string a.wi)).setCell ⟨w.heap.size, 4, none⟩ (.string a.va)).setCell ⟨w.heap.size, 5, none⟩ (.slice B1 a.ps.length d1)).setCell ⟨w.heap.size, 6, none⟩ (.slice C1 a.ac.length f1) = u at XT ZT BT O1 O2 O3 NT PT ⊢
 clear t0 t1 t2 t3 t4 t5 t6 tf0 tf1 tf2 tf3 tf4 tf5 tf6
 have HN := h! (fun (W : World) (hb : Below u.heap.size u W) => nodesOf_any B1 a.ps.length d1 a.ps W (RdP.of_own (own_below3 O2.out hb)) (by omega))
 have HP := h! (fun (W : World) (D : Option Addr) (q r : Nat) (hd : Rd W D q (ic (AM.nodes a.ps))) => place_any D q r (AM.nodes a.ps) p.n W hd (by have := hd.1; rw [ic_length, AM.nodes_length] at this; omega) hk2)
 rw [hh] at HP
 go_cut [9, 10] (fun u9 u10 wx => PlaceMid u (pos (AM.nodes a.ps) p.n) true u9 u10 wx)
 case first =>
  have hS : ∀ w', Below u.heap.size u w' → w'.cell? ⟨w.heap.size, 5, none⟩ = some (.slice B1 a.ps.length d1) ∧ w'.cell? ⟨w.heap.size + 1, 0, none⟩ = some (.int .i64 p.n) := fun w' h => ⟨(XT.out.below h XT.out.lt).cell 5, (PT.out.below h PT.out.lt).cell 0⟩
  have HSS := h! hS; clear hS
  have bb1 : Below u.heap.size u u.drew := (Below.refl _ _).drew
  go_region_held3 (fun w' => w'.cell? ⟨w.heap.size, 5, none⟩ = some (.slice B1 a.ps.length d1) ∧ w'.cell? ⟨w.heap.size + 1, 0, none⟩ = some (.int .i64 p.n))
   (first | exact HSS.out _ bb3 | exact HSS.out _ bb2 | exact HSS.out _ bb1 | go_keep)
   (first
    | (go_at_call 110; ((with_reducible refine (HN.out _ bb1).mono ?_); rintro e wa ⟨A', c', rfl, ho, ha⟩; have bb2 : Below u.heap.size u wa := bmore bb1 ha n!; have hrd := Rd.of_own ho))
    | (go_at_call 109; ((with_reducible refine (HP.out _ _ _ _ hrd).mono ?_); rintro e wb ⟨rfl, hb⟩; have bb3 : Below u.heap.size u wb := bmore bb2 hb n!)))
  all_goals (go_wp2_with fail; go_meet; case rel => exact ⟨rfl, rfl, bb3⟩)
 case rest =>
  obtain ⟨rfl, rfl, hmb⟩ := hcut
  clear HN HP
  have XC := h! (XT.out.below hmb XT.out.lt)
  have ZC := h! (ZT.out.below hmb ZT.out.lt)
  have BC := h! (bmore BT.out hmb n!)
  have Q1 := h! (own_below3 O1.out hmb)
  have Q2 := h! (own_below3 O2.out hmb)
  have Q3 := h! (own_below3 O3.out hmb)
  have NC := h! (Nat.le_trans NT.out hmb.size)
  have PC := h! (PT.out.below hmb PT.out.lt)
  clear XT ZT BT O1 O2 O3 NT hmb PT
  have HO := h! (onward_lit ⟨a.ph, a.ba, a.ms, a.wi, a.va, a.ps, a.ac⟩ xx ss hx hs A1 a.ms.length c1 B1 a.ps.length d1 C1 a.ac.length f1 wc (Rd.of_own Q1.out) (RdP.of_own Q2.out) (Rd.of_own Q3.out) hk1 (by omega) (by omega))
  clear hx hs
  obtain ⟨⟨t0, t1, t2, t3, t4, t5, t6⟩, tf0, tf1, tf2, tf3, tf4, tf5, tf6⟩ := XC.out.seven
  go_wp2_with fail
  refine HO.out.mono ?_
  rintro e wf ⟨rfl, hbf⟩
  clear t0 t1 t2 t3 t4 t5 t6 tf0 tf1 tf2 tf3 tf4 tf5 tf6
  have zf := ZC.out.below hbf ZC.out.lt
  have HQX := h! (zf.put7 (.int .u8 xx) (.int .i64 a.ba) (.slice A1 a.ms.length c1) (.string a.wi) (.string ss) (.slice B1 a.ps.length d1) (.slice C1 a.ac.length f1))
  have HQB := h! (below_put7 (bmore BC.out hbf n!) (g := w.heap.size + 2) (by omega) (.int .u8 xx) (.int .i64 a.ba) (.slice A1 a.ms.length c1) (.string a.wi) (.string ss) (.slice B1 a.ps.length d1) (.slice C1 a.ac.length f1))
  have K1 := h! (own_put7 (own_below3 Q1.out hbf) (g := w.heap.size + 2) hgN (.int .u8 xx) (.int .i64 a.ba) (.slice A1 a.ms.length c1) (.string a.wi) (.string ss) (.slice B1 a.ps.length d1) (.slice C1 a.ac.length f1))
  have K2 := h! (own_put7 (own_below3 Q2.out hbf) (g := w.heap.size + 2) hgN (.int .u8 xx) (.int .i64 a.ba) (.slice A1 a.ms.length c1) (.string a.wi) (.string ss) (.slice B1 a.ps.length d1) (.slice C1 a.ac.length f1))
  have K3 := h! (own_put7 (own_below3 Q3.out hbf) (g := w.heap.size + 2) hgN (.int .u8 xx) (.int .i64 a.ba) (.slice A1 a.ms.length c1) (.string a.wi) (.string ss) (.slice B1 a.ps.length d1) (.slice C1 a.ac.length f1))
  unfold put7 at HQX HQB K1 K2 K3
  obtain ⟨⟨v0, v1, v2, v3, v4, v5, v6⟩, vf0, vf1, vf2, vf3, vf4, vf5, vf6⟩ := zf.seven
  clear zf hbf XC ZC BC Q1 Q2 Q3 HO
  go_wp2_with fail
  obtain ⟨⟨dd0, dd1, dd2, dd3, dd4, dd5, dd6⟩, _⟩ := HQX.out.seven
  have m1 := own_base K1.out (show w.heap.size ≤ N by omega)
  have m2 := own_base K2.out (show w.heap.size ≤ N by omega)
  have m3 := own_base K3.out (show w.heap.size ≤ N by omega)
  exact bodyPost_ret (v := .tuple #[.agg #[.int .u8 xx, .int .i64 a.ba, .slice A1 a.ms.length c1, .string a.wi, .string ss, .slice B1 a.ps.length d1, .slice C1 a.ac.length f1], .int .i64 0]) (by simp [results, Tryz.results101, go_sem, dd0, dd1, dd2, dd3, dd4, dd5, dd6]) rfl ⟨_, rfl, ⟨_, _, _, rfl, m1, m2, m3⟩, HQB.out⟩
set_option maxRecDepth 100000 in
set_option maxHeartbeats 4000000 in
theorem prom_new (v : Value) (a : AM.At) (b : Int) (p : AM.Pr) (w : World) (H : AtIs w v a) (F : Fit a) (FP : FitP p) (hm : AM.may a = true) (hc : a.ph = 1) (hc2 : (decide (b = a.ba) && QM.has a.ms p.n) = true) (ho : AM.okP b p = true) (hh : QM.has (AM.nodes a.ps) p.n = false) (xx : Int) (ss : ByteArray) (hx : xx = (AM.onward ⟨a.ph, a.ba, a.ms, a.wi, a.va, (AM.insP a.ps p), a.ac⟩).ph) (hs : ss = (AM.onward ⟨a.ph, a.ba, a.ms, a.wi, a.va, (AM.insP a.ps p), a.ac⟩).va) :
  Calls Tryz.prog 101 #[v, .int .i64 b, .agg #[.int .i64 p.n, .int .i64 p.b, .string p.v]] w (ErrRet ⟨xx, a.ba, a.ms, a.wi, ss, (AM.insP a.ps p), a.ac⟩ 0 w) := by
 have H' := h! H
 have F' := h! F
 obtain ⟨A, n, c, B, m, d, C, k, f, rfl, h1, h2, h3⟩ := H
 obtain ⟨W0, hW0⟩ : ∃ W0, W0 = ((w.alloc (.cells #[.int .u8 a.ph, .int .i64 a.ba, .slice A n c, .string a.wi, .string a.va, .slice B m d, .slice C k f] 57)).alloc (.cells #[.int .i64 p.n, .int .i64 p.b, .string p.v] 86)).alloc (.cells #[.int .u8 0, .int .i64 0, .slice none 0 0, .string ⟨#[]⟩, .string ⟨#[]⟩, .slice none 0 0, .slice none 0 0] 57) := ⟨_, rfl⟩
 have hb0 : Below w.heap.size w W0 := by rw [hW0]; exact (((Below.refl _ _).alloc n! _).alloc (by simp) _).alloc (by simp; omega) _
 have hx0 : Box W0 w.heap.size 57 #[.int .u8 a.ph, .int .i64 a.ba, .slice A n c, .string a.wi, .string a.va, .slice B m d, .slice C k f] := by rw [hW0]; exact ((Box.new _ _ _).alloc _).alloc _
 have hp0 : Box W0 (w.heap.size + 1) 86 #[.int .i64 p.n, .int .i64 p.b, .string p.v] := by rw [hW0]; exact (Box.new_at _ (by simp)).alloc _
 have hz0 : Box W0 (w.heap.size + 2) 57 #[.int .u8 0, .int .i64 0, .slice none 0 0, .string ⟨#[]⟩, .string ⟨#[]⟩, .slice none 0 0, .slice none 0 0] := by rw [hW0]; exact Box.new_at _ (by simp)
 have hs0 : W0.heap.size = w.heap.size + 3 := by rw [hW0]; simp
 have P0 := h! hp0
 have X0 := h! hx0
 have Z0 := h! hz0
 have S0 := h! hs0
 have B0 := h! hb0
 have HCK := h! (acheck_any _ a W0 (H'.out.below hb0) F'.out)
 have HAN := h! (fun (W : World) (hb : Below w.heap.size w W) => isAnswer_any _ a b p.n W (H'.out.below hb) F'.out)
 have HTW := h! (fun (W : World) (hb : Below w.heap.size w W) => twin_any _ a W (H'.out.below hb) F'.out)
 have HPR := h! (fun (W : World) => isPromise_any b p W FP)
 have hk := okL_rise (may_ok hm (by omega))
 obtain ⟨hk1, hk2, hk3, hk4, hk5⟩ := hk
 rw [if_pos hm] at HCK
 rw [hc2] at HAN
 rw [ho] at HPR
 clear h1 h2 h3 hb0 hx0 hz0 hs0 hp0
 have q1 : (a.ph != 1) = false := by simpa using hc
 clear hc
 go_enter Tryz.func101, Tryz.ntmps101
 go_wp2_with fail
 rw [← hW0]
 clear hW0
 refine HCK.out.mono ?_
 rintro e w1 ⟨rfl, hb1⟩
 clear HCK
 have X1 := h! (X0.out.below hb1 X0.out.lt)
 have Z1 := h! (Z0.out.below hb1 Z0.out.lt)
 have P1 := h! (P0.out.below hb1 P0.out.lt)
 have B1 := h! (bmore B0.out hb1 n!)
 clear X0 Z0 B0 P0 hb1
 obtain ⟨⟨t0, t1, t2, t3, t4, t5, t6⟩, tf0, tf1, tf2, tf3, tf4, tf5, tf6⟩ := X1.out.seven
 obtain ⟨p0, p1, p2, pf0, pf1, pf2⟩ := P1.out.three
 go_wp2_with fail
 refine (HAN.out _ B1.out).mono ?_
 clear t0 t1 t2 t3 t4 t5 t6 tf0 tf1 tf2 tf3 tf4 tf5 tf6
 clear p0 p1 p2 pf0 pf1 pf2
 rintro e w2 ⟨rfl, hb2⟩
 have X2 := h! (X1.out.below hb2 X1.out.lt)
 have Z2 := h! (Z1.out.below hb2 Z1.out.lt)
 have P2 := h! (P1.out.below hb2 P1.out.lt)
 have B2 := h! (bmore B1.out hb2 n!)
 clear X1 Z1 B1 P1 hb2
 obtain ⟨⟨t0, t1, t2, t3, t4, t5, t6⟩, tf0, tf1, tf2, tf3, tf4, tf5, tf6⟩ := X2.out.seven
 obtain ⟨p0, p1, p2, pf0, pf1, pf2⟩ := P2.out.three
 go_wp2_with fail
 refine (HPR.out _).mono ?_
 clear t0 t1 t2 t3 t4 t5 t6 tf0 tf1 tf2 tf3 tf4 tf5 tf6
 clear p0 p1 p2 pf0 pf1 pf2
 rintro e w3 ⟨rfl, hb3⟩
 have X3 := h! (X2.out.below hb3 X2.out.lt)
 have Z3 := h! (Z2.out.below hb3 Z2.out.lt)
 have P3 := h! (P2.out.below hb3 P2.out.lt)
 have B3 := h! (bmore B2.out hb3 n!)
 clear X2 Z2 B2 P2 hb3
 obtain ⟨⟨t0, t1, t2, t3, t4, t5, t6⟩, tf0, tf1, tf2, tf3, tf4, tf5, tf6⟩ := X3.out.seven
 obtain ⟨p0, p1, p2, pf0, pf1, pf2⟩ := P3.out.three
 go_wp2_with fail
 refine (HTW.out _ B3.out).mono ?_
 clear t0 t1 t2 t3 t4 t5 t6 tf0 tf1 tf2 tf3 tf4 tf5 tf6
 clear p0 p1 p2 pf0 pf1 pf2
 rintro e wt ⟨vt, rfl, hnew, hbt⟩
 obtain ⟨A1, c1, B1, d1, C1, f1, rfl, o1, o2, o3, dj⟩ := hnew
 obtain ⟨N, hN⟩ : ∃ N, N = w3.heap.size := ⟨_, rfl⟩
 rw [← hN] at o1 o2 o3
 have hgN : w.heap.size + 2 < N := by rw [hN]; exact Z3.out.lt
 have xt := X3.out.below hbt X3.out.lt
 have XT := h! (xt.put7 (.int .u8 a.ph) (.int .i64 a.ba) (.slice A1 a.ms.length c1) (.string a.wi) (.string a.va) (.slice B1 a.ps.length d1) (.slice C1 a.ac.length f1))
 have ZT := h! ((Z3.out.below hbt Z3.out.lt).putFar7 (g' := w.heap.size) (by omega) (.int .u8 a.ph) (.int .i64 a.ba) (.slice A1 a.ms.length c1) (.string a.wi) (.string a.va) (.slice B1 a.ps.length d1) (.slice C1 a.ac.length f1))
 have PT := h! ((P3.out.below hbt P3.out.lt).putFar7 (g' := w.heap.size) (by omega) (.int .u8 a.ph) (.int .i64 a.ba) (.slice A1 a.ms.length c1) (.string a.wi) (.string a.va) (.slice B1 a.ps.length d1) (.slice C1 a.ac.length f1))
 have BT := h! (below_put7 (bmore B3.out hbt n!) (g := w.heap.size) n! (.int .u8 a.ph) (.int .i64 a.ba) (.slice A1 a.ms.length c1) (.string a.wi) (.string a.va) (.slice B1 a.ps.length d1) (.slice C1 a.ac.length f1))
 have O1 := h! (own_put7 o1 (g := w.heap.size) (by omega) (.int .u8 a.ph) (.int .i64 a.ba) (.slice A1 a.ms.length c1) (.string a.wi) (.string a.va) (.slice B1 a.ps.length d1) (.slice C1 a.ac.length f1))
 have O2 := h! (own_put7 o2 (g := w.heap.size) (by omega) (.int .u8 a.ph) (.int .i64 a.ba) (.slice A1 a.ms.length c1) (.string a.wi) (.string a.va) (.slice B1 a.ps.length d1) (.slice C1 a.ac.length f1))
 have O3 := h! (own_put7 o3 (g := w.heap.size) (by omega) (.int .u8 a.ph) (.int .i64 a.ba) (.slice A1 a.ms.length c1) (.string a.wi) (.string a.va) (.slice B1 a.ps.length d1) (.slice C1 a.ac.length f1))
 have DJ := h! dj
 have NT := h! (show N ≤ (put7 wt w.heap.size (.int .u8 a.ph) (.int .i64 a.ba) (.slice A1 a.ms.length c1) (.string a.wi) (.string a.va) (.slice B1 a.ps.length d1) (.slice C1 a.ac.length f1)).heap.size by rw [hN]; simp only [put7, size_set]; exact hbt.size)
 unfold put7 at XT ZT BT O1 O2 O3 NT PT
 obtain ⟨⟨t0, t1, t2, t3, t4, t5, t6⟩, tf0, tf1, tf2, tf3, tf4, tf5, tf6⟩ := xt.seven
 clear o1 o2 o3 dj xt hbt hN X3 Z3 B3 P3 HAN HTW HPR
 go_upto_region 9 with (fail)
 generalize ((((((wt.setCell ⟨w.heap.size, 0, none⟩ (.int .u8 a.ph)).setCell ⟨w.heap.size, 1, none⟩ (.int .i64 a.ba)).setCell ⟨w.heap.size, 2, none⟩ (.slice A1 a.ms.length c1)).setCell ⟨w.heap.size, 3, none⟩ (.string a.wi)).setCell ⟨w.heap.size, 4, none⟩ (.string a.va)).setCell ⟨w.heap.size, 5, none⟩ (.slice B1 a.ps.length d1)).setCell ⟨w.heap.size, 6, none⟩ (.slice C1 a.ac.length f1) = u at XT ZT BT O1 O2 O3 NT PT ⊢
 clear t0 t1 t2 t3 t4 t5 t6 tf0 tf1 tf2 tf3 tf4 tf5 tf6
 have HN := h! (fun (W : World) (hb : Below u.heap.size u W) => nodesOf_any B1 a.ps.length d1 a.ps W (RdP.of_own (own_below3 O2.out hb)) (by omega))
 have HP := h! (fun (W : World) (D : Option Addr) (q r : Nat) (hd : Rd W D q (ic (AM.nodes a.ps))) => place_any D q r (AM.nodes a.ps) p.n W hd (by have := hd.1; rw [ic_length, AM.nodes_length] at this; omega) hk2)
 rw [hh] at HP
 go_cut [9, 10] (fun u9 u10 wx => PlaceMid u (pos (AM.nodes a.ps) p.n) false u9 u10 wx)
 case first =>
  have hS : ∀ w', Below u.heap.size u w' → w'.cell? ⟨w.heap.size, 5, none⟩ = some (.slice B1 a.ps.length d1) ∧ w'.cell? ⟨w.heap.size + 1, 0, none⟩ = some (.int .i64 p.n) := fun w' h => ⟨(XT.out.below h XT.out.lt).cell 5, (PT.out.below h PT.out.lt).cell 0⟩
  have HSS := h! hS; clear hS
  have bb1 : Below u.heap.size u u.drew := (Below.refl _ _).drew
  go_region_held3 (fun w' => w'.cell? ⟨w.heap.size, 5, none⟩ = some (.slice B1 a.ps.length d1) ∧ w'.cell? ⟨w.heap.size + 1, 0, none⟩ = some (.int .i64 p.n))
   (first | exact HSS.out _ bb3 | exact HSS.out _ bb2 | exact HSS.out _ bb1 | go_keep)
   (first
    | (go_at_call 110; ((with_reducible refine (HN.out _ bb1).mono ?_); rintro e wa ⟨A', c', rfl, ho, ha⟩; have bb2 : Below u.heap.size u wa := bmore bb1 ha n!; have hrd := Rd.of_own ho))
    | (go_at_call 109; ((with_reducible refine (HP.out _ _ _ _ hrd).mono ?_); rintro e wb ⟨rfl, hb⟩; have bb3 : Below u.heap.size u wb := bmore bb2 hb n!)))
  all_goals (go_wp2_with fail; go_meet; case rel => exact ⟨rfl, rfl, bb3⟩)
 case rest =>
  obtain ⟨rfl, rfl, hmb⟩ := hcut
  clear HN HP
  have XC := h! (XT.out.below hmb XT.out.lt)
  have ZC := h! (ZT.out.below hmb ZT.out.lt)
  have BC := h! (bmore BT.out hmb n!)
  have Q1 := h! (own_below3 O1.out hmb)
  have Q2 := h! (own_below3 O2.out hmb)
  have Q3 := h! (own_below3 O3.out hmb)
  have NC := h! (Nat.le_trans NT.out hmb.size)
  have PC := h! (PT.out.below hmb PT.out.lt)
  clear XT ZT BT O1 O2 O3 NT hmb PT
  obtain ⟨⟨t0, t1, t2, t3, t4, t5, t6⟩, tf0, tf1, tf2, tf3, tf4, tf5, tf6⟩ := XC.out.seven
  obtain ⟨p0, p1, p2, pf0, pf1, pf2⟩ := PC.out.three
  have hal : Below wc.heap.size wc (wc.alloc (.cells #[.int .i64 p.n, .int .i64 p.b, .string p.v] 86)) := b!
  have HI := h! (insP_at N a.ps.length d1 wc.heap.size B1 a.ps p (wc.alloc (.cells #[.int .i64 p.n, .int .i64 p.b, .string p.v] 86)) (by omega) (by have := NC.out; simp; omega) (own_below3 Q2.out hal) (Box.new _ _ _) (by intro e; exact Nat.lt_irrefl _ (Q2.out.lt _ e).2))
  have HX := h! (XC.out.alloc (.cells #[.int .i64 p.n, .int .i64 p.b, .string p.v] 86))
  have HZ := h! (ZC.out.alloc (.cells #[.int .i64 p.n, .int .i64 p.b, .string p.v] 86))
  have HB := h! (BC.out.alloc BC.out.size (.cells #[.int .i64 p.n, .int .i64 p.b, .string p.v] 86))
  have R1 := h! (own_below3 Q1.out hal)
  have R2 := h! (own_below3 Q2.out hal)
  have R3 := h! (own_below3 Q3.out hal)
  have NA := h! (show N ≤ (wc.alloc (.cells #[.int .i64 p.n, .int .i64 p.b, .string p.v] 86)).heap.size by have := NC.out; simp; omega)
  clear hal XC ZC BC Q1 Q2 Q3 NC PC
  go_wp2_with fail
  refine HI.out.mono ?_
  rintro e wi ⟨A7, c7, rfl, o7, hg7, hob7⟩
  have hrow : ∀ g, Value.ownBlock (.slice B1 a.ps.length d1) = some g → N ≤ g := fun g hg => (own_block R2.out hg).1
  have x7 := HX.out.grown hg7 (fun e => by have := hrow _ e.symm; omega)
  have z7 := HZ.out.grown hg7 (fun e => by have := hrow _ e.symm; omega)
  have b7 := HB.out.grown hg7 HB.out.size (fun g hg => by have := hrow _ hg; omega)
  have r1 := own_grown R1.out hg7 (own_apart R1.out R2.out (by decide))
  have r3 := own_grown R3.out hg7 (own_apart R3.out R2.out (by decide))
  have n7 := Nat.le_trans NA.out hg7.size
  clear HI HX HZ HB R1 R2 R3 NA hob7 hg7 hrow
  clear t0 t1 t2 t3 t4 t5 t6 tf0 tf1 tf2 tf3 tf4 tf5 tf6
  clear p0 p1 p2 pf0 pf1 pf2
  have XD := h! (x7.set7_5 (.slice A7 (a.ps.length + 1) c7))
  have ZD := h! (z7.far (p := ⟨w.heap.size, 5, none⟩) (by simp) (.slice A7 (a.ps.length + 1) c7))
  have BD := h! (below_put1 (g := w.heap.size) (k := 5) b7 n! (.slice A7 (a.ps.length + 1) c7))
  have S1 := h! (own_set1 (g := w.heap.size) (k := 5) r1 (by omega) (.slice A7 (a.ps.length + 1) c7))
  have S2 := h! (own_set1 (g := w.heap.size) (k := 5) o7 (by omega) (.slice A7 (a.ps.length + 1) c7))
  have S3 := h! (own_set1 (g := w.heap.size) (k := 5) r3 (by omega) (.slice A7 (a.ps.length + 1) c7))
  have ND := h! (show N ≤ (wi.setCell ⟨w.heap.size, 5, none⟩ (.slice A7 (a.ps.length + 1) c7)).heap.size by rw [size_set]; exact n7)
  obtain ⟨⟨t0, t1, t2, t3, t4, t5, t6⟩, tf0, tf1, tf2, tf3, tf4, tf5, tf6⟩ := x7.seven
  clear x7 z7 b7 r1 o7 n7 r3
  go_upto_region 12 with (fail)
  generalize wi.setCell ⟨w.heap.size, 5, none⟩ (.slice A7 (a.ps.length + 1) c7) = wd at XD ZD BD S1 S2 S3 ND ⊢
  clear t0 t1 t2 t3 t4 t5 t6 tf0 tf1 tf2 tf3 tf4 tf5 tf6
  have HO := h! (onward_lit ⟨a.ph, a.ba, a.ms, a.wi, a.va, (AM.insP a.ps p), a.ac⟩ xx ss hx hs A1 a.ms.length c1 A7 (a.ps.length + 1) c7 C1 a.ac.length f1 wd (Rd.of_own S1.out) (RdP.of_own S2.out) (Rd.of_own S3.out) hk1 (by omega) (by omega))
  clear hx hs
  obtain ⟨⟨t0, t1, t2, t3, t4, t5, t6⟩, tf0, tf1, tf2, tf3, tf4, tf5, tf6⟩ := XD.out.seven
  go_wp2_with fail
  refine HO.out.mono ?_
  rintro e wf ⟨rfl, hbf⟩
  clear t0 t1 t2 t3 t4 t5 t6 tf0 tf1 tf2 tf3 tf4 tf5 tf6
  have zf := ZD.out.below hbf ZD.out.lt
  have HQX := h! (zf.put7 (.int .u8 xx) (.int .i64 a.ba) (.slice A1 a.ms.length c1) (.string a.wi) (.string ss) (.slice A7 (a.ps.length + 1) c7) (.slice C1 a.ac.length f1))
  have HQB := h! (below_put7 (bmore BD.out hbf n!) (g := w.heap.size + 2) (by omega) (.int .u8 xx) (.int .i64 a.ba) (.slice A1 a.ms.length c1) (.string a.wi) (.string ss) (.slice A7 (a.ps.length + 1) c7) (.slice C1 a.ac.length f1))
  have K1 := h! (own_put7 (own_below3 S1.out hbf) (g := w.heap.size + 2) hgN (.int .u8 xx) (.int .i64 a.ba) (.slice A1 a.ms.length c1) (.string a.wi) (.string ss) (.slice A7 (a.ps.length + 1) c7) (.slice C1 a.ac.length f1))
  have K2 := h! (own_put7 (own_below3 S2.out hbf) (g := w.heap.size + 2) hgN (.int .u8 xx) (.int .i64 a.ba) (.slice A1 a.ms.length c1) (.string a.wi) (.string ss) (.slice A7 (a.ps.length + 1) c7) (.slice C1 a.ac.length f1))
  have K3 := h! (own_put7 (own_below3 S3.out hbf) (g := w.heap.size + 2) hgN (.int .u8 xx) (.int .i64 a.ba) (.slice A1 a.ms.length c1) (.string a.wi) (.string ss) (.slice A7 (a.ps.length + 1) c7) (.slice C1 a.ac.length f1))
  unfold put7 at HQX HQB K1 K2 K3
  obtain ⟨⟨v0, v1, v2, v3, v4, v5, v6⟩, vf0, vf1, vf2, vf3, vf4, vf5, vf6⟩ := zf.seven
  clear zf hbf XD ZD BD S1 S2 S3 HO
  go_wp2_with fail
  obtain ⟨⟨dd0, dd1, dd2, dd3, dd4, dd5, dd6⟩, _⟩ := HQX.out.seven
  have m1 := own_base K1.out (show w.heap.size ≤ N by omega)
  have m2 := own_base K2.out (show w.heap.size ≤ N by omega)
  have m3 := own_base K3.out (show w.heap.size ≤ N by omega)
  exact bodyPost_ret (v := .tuple #[.agg #[.int .u8 xx, .int .i64 a.ba, .slice A1 a.ms.length c1, .string a.wi, .string ss, .slice A7 (a.ps.length + 1) c7, .slice C1 a.ac.length f1], .int .i64 0]) (by simp [results, Tryz.results101, go_sem, dd0, dd1, dd2, dd3, dd4, dd5, dd6]) rfl ⟨_, rfl, ⟨_, _, _, rfl, m1, by rw [insP_len]; exact m2, m3⟩, HQB.out⟩
end Go.Proofs.YtiiobafcgdelmaaGreat
